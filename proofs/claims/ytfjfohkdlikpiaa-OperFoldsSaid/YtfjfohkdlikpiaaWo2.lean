/-
  The walk of OperFolds (by gen_oo.py).
-/
import Derived.Test.YtfjfohkdlikpiaaWo1
import Derived.Test.YtfjfohkdlikpiaaOow
import Derived.Test.YtfjfohkdlikpiaaRt3
namespace Go.Proofs.Ytfjfohkdlikpiaa.oper
open Go.ChangeShapes Go.WideShapes Go.ChangeAt Go.RowKit
open Go.Proofs.Ytfjfohkdlikpiaa.tm Go.Proofs.Ytfjfohkdlikpiaa.opened Go.Proofs.Ytfjfohkdlikpiaa.block Go.Proofs.Ytfjfohkdlikpiaa.region Go.Proofs.Ytfjfohkdlikpiaa.data

set_option maxRecDepth 100000 in
set_option maxHeartbeats 8000000 in
theorem walkFolds (o : Od) (io : o.In) (A : Option Addr) (c : Nat) (L : List Rc) (iL : InR L) (w : World) (hL : Lr w A L) :
    Calls Try.prog 4 #[.agg (odV o), .slice A L.length c] w fun e w' => e = .returned (.bool true) ∧ Below w.heap.size w w' := by
  by_cases hl : L.length ≤ 300
  rotate_left
  · have hl' : (300 : Int) < (L.length : Int) := by omega
    have W2 := Lib.hid (fresh0 w (.cells (odV o) 23))
    clear hL hl iL
    generalize L.length = l at hl' ⊢
    go_enter Try.func4, Try.ntmps4
    go_wp2_with fail
    go_ret
    exact ⟨rfl, W2.out⟩
  have hl' : ¬ (300 : Int) < (L.length : Int) := by omega
  have TO := Lib.hid (fun w0 => to_any o w0)
  have OW := Lib.hid (fun A c w0 h => own_lr A c L (by omega) w0 h)
  have FP := Lib.hid (fun A c w0 h => foldP_any o.k A c L iL (by omega) w0 h)
  have FR := Lib.hid (fun A c w0 h => foldR_any o.k A c L iL (by omega) w0 h)
  have GP := Lib.hid (fun A c w0 h => goes_any o io A c L iL (by omega) w0 h)
  have GR := Lib.hid (fun A c w0 h => goesR_any o io A c L iL (by omega) w0 h)
  have AL := Lib.hid (fun A B c d w0 h k => alike_self A B c d (goV o.k o.x o.y L) (by have := goV_len o.k o.x o.y L; omega) w0 h k)
  have AF1 := Lib.hid (fun A B c d w0 h k => alike_self A B c d (foV o.k L) (by have := foV_len o.k L; omega) w0 h k)
  have AX1 := Lib.hid (fun A B c d w0 h k => alike_self A B c d L (by omega) w0 h k)
  have HL0 := Lib.hid hL
  generalize goV o.k o.x o.y L = M at GP GR AL
  generalize foV o.k L = F at FP FR AF1
  generalize foE o.k = fe at FP FR
  have HB1 := Lib.hid (fresh0 w (.cells (odV o) 23))
  have HG1 := Lib.hid (Whole.fresh w 23 (odV o))
  clear hL iL hl io
  go_enter Try.func4, Try.ntmps4
  go_upto_region 3 with fail
  change Code.wp _ _ _ _ (w.alloc (.cells (odV o) 23))
  generalize w.alloc (.cells (odV o) 23) = w1 at HB1 HG1 ⊢
  have HL1 := Lib.hid (HL0.out.below HB1.out)
  obtain ⟨g0, hg0⟩ : ∃ g0, g0 = w.heap.size := ⟨_, rfl⟩
  obtain ⟨HG9, -⟩ : ∃ h : Hid (Whole w1 g0 23 (odV o)), True := ⟨Lib.hid (by rw [hg0]; exact HG1.out), trivial⟩
  rw [← hg0]
  clear HG1 HL0 hg0
  have HG1 := HG9
  clear HG9
  go_upto_region 4 with (go_at_call 12; refine (OW.out A c _ HL1.out).mono ?_; rintro e w2 ⟨AX, cX, rfl, lx, b2⟩; have HX2 := Lib.hid lx; have HB2 := Lib.hid (HB1.out.trans (b2.mono HB1.out.size)); have HG2 := Lib.hid (HG1.out.below b2 HG1.out.inside); have HL2 := Lib.hid (HL1.out.below b2); clear lx b2)
  have k1 := HG2.out.read 1
  clear HB1 HG1 HL1
  go_upto_region 5 with (go_at_call 14; refine (FP.out AX cX _ HX2.out).mono ?_; rintro e w3 ⟨AF, cF, rfl, lf, b3⟩; have HF3 := Lib.hid lf; have HX3 := Lib.hid (HX2.out.below b3); have HB3 := Lib.hid (HB2.out.trans (b3.mono HB2.out.size)); have HG3 := Lib.hid (HG2.out.below b3 HG2.out.inside); have HL3 := Lib.hid (HL2.out.below b3); clear lf b3)
  clear k1
  have k1 := HG3.out.read 1
  clear HB2 HG2 HL2 HX2
  go_upto_region 6 with (go_at_call 15; refine (FR.out A c _ HL3.out).mono ?_; rintro e wx ⟨AR, cR, rfl, lr, b4⟩; have HR := Lib.hid lr; have HF := Lib.hid (HF3.out.below b4); have HX := Lib.hid (HX3.out.below b4); have BX := Lib.hid (HB3.out.trans (b4.mono HB3.out.size)); have HG0 := Lib.hid (HG3.out.below b4 HG3.out.inside); have HL := Lib.hid (HL3.out.below b4); clear lr b4)
  clear k1 HB3 HG3 HL3 HX3 HF3 FP FR OW
  refine region_want 52 [Is (.slice AF F.length cF), Is (.slice AR F.length cR), Is (.bool true), Is (.bool true), Is (.int .i64 fe), Is (.int .i64 fe), Is (.bool true), Is (.bool true), Is (.bool true), Is (.agg (odV o)), Is (.agg (odV o)), Is (.slice AX L.length cX), RowP M, Is (.agg (odV o)), Is (.slice A L.length c), RowP M, Is (.bool true), Is (.bool true), Is (.bool true), Is (.slice AX L.length cX), Is (.slice A L.length c), Is (.bool true), Is (.bool true), Is (.bool true)] (by kernel_rfl) rfl (by kernel_rfl) ?_ ?_
  · exact ⟨keeps_is _, keeps_is _, keeps_is _, keeps_is _, keeps_is _, keeps_is _, keeps_is _, keeps_is _, keeps_is _, keeps_is _, keeps_is _, keeps_is _, keeps_rowP _, keeps_is _, keeps_is _, keeps_rowP _, keeps_is _, keeps_is _, keeps_is _, keeps_is _, keeps_is _, keeps_is _, keeps_is _, keeps_is _, trivial⟩
  · intro fin hfin
    simp [lexPut, Act.put] at hfin
    refine ⟨⟨?_, ?_, ?_, ?_, ?_, ?_, ?_, ?_, ?_, ?_, ?_, ?_, ?_, ?_, ?_, ?_, ?_, ?_, ?_, ?_, ?_, ?_, ?_, ?_, trivial⟩, ?_⟩
    · intro v w8 hb hd
      refine done_plain rfl (yields_run (u := .slice AF F.length cF) (w' := w8) ?_ (Below.refl _ _) rfl)
      rw [hfin]
      unfold execOp
      simp [go_sem, Act.eval]
    · intro v w8 hb hd
      refine done_plain rfl (yields_run (u := .slice AR F.length cR) (w' := w8) ?_ (Below.refl _ _) rfl)
      rw [hfin]
      unfold execOp
      simp [go_sem, Act.eval]
    · intro v w8 hb hd
      have h0 : v 0 = .slice AF F.length cF := hd 0 (by kernel_rfl)
      have h1 : v 1 = .slice AR F.length cR := hd 1 (by kernel_rfl)
      refine done_plain rfl (yields_call (f := 10) rfl (vs := #[.slice AF F.length cF, .slice AR F.length cR]) (by rw [hfin]; simp [Act.eval, h0, h1]) rfl Try.func10 (by kernel_rfl) (by kernel_rfl) ?_)
      exact (AF1.out AF AR cF cR w8 (HF.out.below hb) (HR.out.below hb)).mono fun e w' ⟨he, hb'⟩ => ⟨_, he, hb', rfl⟩
    · intro v w8 hb hd
      have h2 : v 2 = .bool true := hd 2 (by kernel_rfl)
      refine done_plain rfl (yields_run (u := .bool true) (w' := w8) ?_ (Below.refl _ _) rfl)
      rw [hfin]
      unfold execOp
      simp [go_sem, Act.eval, h2]
    · intro v w8 hb hd
      have g3 : v 3 = .bool true := hd 3 (by kernel_rfl)
      refine done_want 3 true rfl g3 (yields_run (u := .int .i64 fe) (w' := w8) ?_ (Below.refl _ _) rfl)
      rw [hfin]
      unfold execOp
      simp [go_sem, Act.eval]
    · intro v w8 hb hd
      have g3 : v 3 = .bool true := hd 3 (by kernel_rfl)
      refine done_want 3 true rfl g3 (yields_run (u := .int .i64 fe) (w' := w8) ?_ (Below.refl _ _) rfl)
      rw [hfin]
      unfold execOp
      simp [go_sem, Act.eval]
    · intro v w8 hb hd
      have g3 : v 3 = .bool true := hd 3 (by kernel_rfl)
      have h4 : v 4 = .int .i64 fe := hd 4 (by kernel_rfl)
      have h5 : v 5 = .int .i64 fe := hd 5 (by kernel_rfl)
      refine done_want 3 true rfl g3 (yields_run (u := .bool true) (w' := w8) ?_ (Below.refl _ _) rfl)
      rw [hfin]
      unfold execOp
      simp [go_sem, Act.eval, h4, h5]
    · intro v w8 hb hd
      have h3 : v 3 = .bool true := hd 3 (by kernel_rfl)
      have h6 : v 6 = .bool true := hd 6 (by kernel_rfl)
      refine done_plain rfl (yields_run (u := .bool true) (w' := w8) ?_ (Below.refl _ _) rfl)
      rw [hfin]
      unfold execOp
      simp [go_sem, Act.eval, h3, h6]
    · intro v w8 hb hd
      have h7 : v 7 = .bool true := hd 7 (by kernel_rfl)
      refine done_plain rfl (yields_run (u := .bool true) (w' := w8) ?_ (Below.refl _ _) rfl)
      rw [hfin]
      unfold execOp
      simp [go_sem, Act.eval, h7]
    · intro v w8 hb hd
      have g8 : v 8 = .bool true := hd 8 (by kernel_rfl)
      have k0 := (HG0.out.below hb HG0.out.inside).read 0
      have k1 := (HG0.out.below hb HG0.out.inside).read 1
      have k2 := (HG0.out.below hb HG0.out.inside).read 2
      have k3 := (HG0.out.below hb HG0.out.inside).read 3
      have k4 := (HG0.out.below hb HG0.out.inside).read 4
      have k5 := (HG0.out.below hb HG0.out.inside).read 5
      refine done_want 8 true rfl g8 (yields_run (u := .agg (odV o)) (w' := w8) ?_ (Below.refl _ _) rfl)
      rw [hfin]
      unfold execOp
      simp [go_sem, Act.eval, k0, k1, k2, k3, k4, k5]
    · intro v w8 hb hd
      have g8 : v 8 = .bool true := hd 8 (by kernel_rfl)
      have h9 : v 9 = .agg (odV o) := hd 9 (by kernel_rfl)
      refine done_want 8 true rfl g8 (yields_call (f := 6) rfl (vs := #[.agg (odV o)]) (by rw [hfin]; simp [Act.eval, h9]) rfl Try.func6 (by kernel_rfl) (by kernel_rfl) ?_)
      exact (TO.out w8).mono fun e w' ⟨he, hb'⟩ => ⟨_, he, hb', rfl⟩
    · intro v w8 hb hd
      have g8 : v 8 = .bool true := hd 8 (by kernel_rfl)
      refine done_want 8 true rfl g8 (yields_run (u := .slice AX L.length cX) (w' := w8) ?_ (Below.refl _ _) rfl)
      rw [hfin]
      unfold execOp
      simp [go_sem, Act.eval]
    · intro v w8 hb hd
      have g8 : v 8 = .bool true := hd 8 (by kernel_rfl)
      have h10 : v 10 = .agg (odV o) := hd 10 (by kernel_rfl)
      have h11 : v 11 = .slice AX L.length cX := hd 11 (by kernel_rfl)
      refine done_want 8 true rfl g8 (yields_call (f := 16) rfl (vs := #[.agg (odV o), .slice AX L.length cX]) (by rw [hfin]; simp [Act.eval, h10, h11]) rfl Try.func16 (by kernel_rfl) (by kernel_rfl) ?_)
      exact (GP.out AX cX w8 (HX.out.below hb)).mono fun e w' ⟨B9, c9, he, hl9, hb'⟩ => ⟨_, he, hb', B9, c9, rfl, hl9⟩
    · intro v w8 hb hd
      have g8 : v 8 = .bool true := hd 8 (by kernel_rfl)
      have k0 := (HG0.out.below hb HG0.out.inside).read 0
      have k1 := (HG0.out.below hb HG0.out.inside).read 1
      have k2 := (HG0.out.below hb HG0.out.inside).read 2
      have k3 := (HG0.out.below hb HG0.out.inside).read 3
      have k4 := (HG0.out.below hb HG0.out.inside).read 4
      have k5 := (HG0.out.below hb HG0.out.inside).read 5
      refine done_want 8 true rfl g8 (yields_run (u := .agg (odV o)) (w' := w8) ?_ (Below.refl _ _) rfl)
      rw [hfin]
      unfold execOp
      simp [go_sem, Act.eval, k0, k1, k2, k3, k4, k5]
    · intro v w8 hb hd
      have g8 : v 8 = .bool true := hd 8 (by kernel_rfl)
      refine done_want 8 true rfl g8 (yields_run (u := .slice A L.length c) (w' := w8) ?_ (Below.refl _ _) rfl)
      rw [hfin]
      unfold execOp
      simp [go_sem, Act.eval]
    · intro v w8 hb hd
      have g8 : v 8 = .bool true := hd 8 (by kernel_rfl)
      have h13 : v 13 = .agg (odV o) := hd 13 (by kernel_rfl)
      have h14 : v 14 = .slice A L.length c := hd 14 (by kernel_rfl)
      refine done_want 8 true rfl g8 (yields_call (f := 17) rfl (vs := #[.agg (odV o), .slice A L.length c]) (by rw [hfin]; simp [Act.eval, h13, h14]) rfl Try.func17 (by kernel_rfl) (by kernel_rfl) ?_)
      exact (GR.out A c w8 (HL.out.below hb)).mono fun e w' ⟨B9, c9, he, hl9, hb'⟩ => ⟨_, he, hb', B9, c9, rfl, hl9⟩
    · intro v w8 hb hd
      have g8 : v 8 = .bool true := hd 8 (by kernel_rfl)
      obtain ⟨B1, c1, h12, l1⟩ : RowP M (v 12) w8 := hd 12 (by kernel_rfl)
      obtain ⟨B2, c2, h15, l2⟩ : RowP M (v 15) w8 := hd 15 (by kernel_rfl)
      refine done_want 8 true rfl g8 (yields_call (f := 10) rfl (vs := #[.slice B1 M.length c1, .slice B2 M.length c2]) (by rw [hfin]; simp [Act.eval, h12, h15]) rfl Try.func10 (by kernel_rfl) (by kernel_rfl) ?_)
      exact (AL.out B1 B2 c1 c2 w8 l1 l2).mono fun e w' ⟨he, hb'⟩ => ⟨_, he, hb', rfl⟩
    · intro v w8 hb hd
      have h8 : v 8 = .bool true := hd 8 (by kernel_rfl)
      have h16 : v 16 = .bool true := hd 16 (by kernel_rfl)
      refine done_plain rfl (yields_run (u := .bool true) (w' := w8) ?_ (Below.refl _ _) rfl)
      rw [hfin]
      unfold execOp
      simp [go_sem, Act.eval, h8, h16]
    · intro v w8 hb hd
      have h17 : v 17 = .bool true := hd 17 (by kernel_rfl)
      refine done_plain rfl (yields_run (u := .bool true) (w' := w8) ?_ (Below.refl _ _) rfl)
      rw [hfin]
      unfold execOp
      simp [go_sem, Act.eval, h17]
    · intro v w8 hb hd
      have g18 : v 18 = .bool true := hd 18 (by kernel_rfl)
      refine done_want 18 true rfl g18 (yields_run (u := .slice AX L.length cX) (w' := w8) ?_ (Below.refl _ _) rfl)
      rw [hfin]
      unfold execOp
      simp [go_sem, Act.eval]
    · intro v w8 hb hd
      have g18 : v 18 = .bool true := hd 18 (by kernel_rfl)
      refine done_want 18 true rfl g18 (yields_run (u := .slice A L.length c) (w' := w8) ?_ (Below.refl _ _) rfl)
      rw [hfin]
      unfold execOp
      simp [go_sem, Act.eval]
    · intro v w8 hb hd
      have g18 : v 18 = .bool true := hd 18 (by kernel_rfl)
      have h19 : v 19 = .slice AX L.length cX := hd 19 (by kernel_rfl)
      have h20 : v 20 = .slice A L.length c := hd 20 (by kernel_rfl)
      refine done_want 18 true rfl g18 (yields_call (f := 10) rfl (vs := #[.slice AX L.length cX, .slice A L.length c]) (by rw [hfin]; simp [Act.eval, h19, h20]) rfl Try.func10 (by kernel_rfl) (by kernel_rfl) ?_)
      exact (AX1.out AX A cX c w8 (HX.out.below hb) (HL.out.below hb)).mono fun e w' ⟨he, hb'⟩ => ⟨_, he, hb', rfl⟩
    · intro v w8 hb hd
      have h18 : v 18 = .bool true := hd 18 (by kernel_rfl)
      have h21 : v 21 = .bool true := hd 21 (by kernel_rfl)
      refine done_plain rfl (yields_run (u := .bool true) (w' := w8) ?_ (Below.refl _ _) rfl)
      rw [hfin]
      unfold execOp
      simp [go_sem, Act.eval, h18, h21]
    · intro v w8 hb hd
      have h22 : v 22 = .bool true := hd 22 (by kernel_rfl)
      refine done_plain rfl (yields_run (u := .bool true) (w' := w8) ?_ (Below.refl _ _) rfl)
      rw [hfin]
      unfold execOp
      simp [go_sem, Act.eval, h22]
    · intro v w8 hb hv
      have h23 : v 23 = .bool true := hv 23 (by decide)
      rw [hfin]
      generalize v 23 = v23 at h23 ⊢
      subst h23
      have B8 := Lib.hid (BX.out.trans (hb.mono BX.out.size))
      clear hfin hv hb
      go_wp2_with fail
      go_ret
      exact ⟨rfl, B8.out⟩
end Go.Proofs.Ytfjfohkdlikpiaa.oper
