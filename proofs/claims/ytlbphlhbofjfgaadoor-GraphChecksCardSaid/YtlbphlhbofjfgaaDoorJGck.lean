/-
  The walk of GraphChecks (by gen_ck.py).
-/
import Derived.Test.YtlbphlhbofjfgaaDoorJGtd
import Derived.Test.YtlbphlhbofjfgaaDoorJGfl
import Derived.Test.YtlbphlhbofjfgaaDoorJGsm
import Derived.Test.YtlbphlhbofjfgaaDoorJGfr
import Derived.Test.YtlbphlhbofjfgaaDoorJGgr
import Derived.Test.YtlbphlhbofjfgaaDoorJGk
import Derived.Test.YtlbphlhbofjfgaaDoorJRt2
namespace Go.Proofs.YtlbphlhbofjfgaaDoor.graph
open Go.ChangeShapes Go.WideShapes Go.ChangeAt Go.RowKit
open Go.Proofs.YtlbphlhbofjfgaaDoor.opened Go.Proofs.YtlbphlhbofjfgaaDoor.block Go.Proofs.YtlbphlhbofjfgaaDoor.words Go.Proofs.YtlbphlhbofjfgaaDoor.region
theorem fit_of9 {v : Gv} {g : Gr} (R : Rooms v g) (S : Small g) : Fit v g :=
  ⟨R.i, R.j, R.k, R.m, fun x hx => Nat.le_trans (S.c x hx) (by omega), fun x hx => Nat.le_trans (S.l x hx) (by omega), fun x hx => Nat.le_trans (S.o x hx) (by omega)⟩
def FlP (N : List Int) : Value → World → Prop := fun u w => ∃ D c, u = .slice D N.length c ∧ Lg 1 cI w D N
theorem keeps_flP (N : List Int) : Keeps (FlP N) := fun _ _ _ hb ⟨D, c, h1, h2⟩ => ⟨D, c, h1, h2.below hb⟩
def FrP (g : Gr) : Value → World → Prop := fun u w => ∃ v', u = gV v' g ∧ Lies4 w v' g
theorem keeps_frP (g : Gr) : Keeps (FrP g) := fun _ _ _ hb ⟨v', h1, h2⟩ => ⟨v', h1, h2.below hb⟩
theorem flV_le (g : Gr) : (flV g).length ≤ g.h.length := by
  unfold flV
  split
  · exact flI_le g _
  · simp
set_option maxRecDepth 100000 in
set_option maxHeartbeats 8000000 in
theorem walkC (V : Gv) (g : Gr) (I : g.In) (w : World) (KE : KT w ∧ Tab10 w) (h : Lies4 w V g) :
    Calls Tryd.prog 3 #[gV V g] w fun e w' => e = .returned (.bool true) ∧ Below w.heap.size w w' := by
  have GR := fun w1 (h1 : Lies4 w1 V g) => great_any V g w1 h1
  have TO := fun lc ll lo lh w1 (h1 : Lies4 w1 V g) => toG_any V g lc ll lo lh w1 h1
  have TR := fun w1 (h1 : Lies4 w1 V g) => textR_any V g I w1 h1
  have CR := fun w1 (h1 : Lies4 w1 V g) => checkR_any V g w1 h1
  have FR := fun w1 (h1 : Lies4 w1 V g) => flowsR_any V g w1 h1
  have SM := fun v2 y1 y2 y3 y4 w1 (h1 : Lies4 w1 V g) (h2 : Lies4 w1 v2 g) => sameG_any v2 V g w1 h2 h1 y1 y2 y3 y4
  obtain ⟨va, vb, vd, ve, vi, vj, vk, vm⟩ := V
  unfold gV at GR TO TR CR FR ⊢
  have hgv : gV ⟨va, vb, vd, ve, vi, vj, vk, vm⟩ g = .agg #[.slice va g.c.length vi, .slice vb g.l.length vj, .slice vd g.o.length vk, .slice ve g.h.length vm] := rfl
  rw [hgv] at SM
  clear hgv
  dsimp only at GR TO TR CR FR ⊢
  replace GR := Lib.hid GR
  replace TO := Lib.hid TO
  replace TR := Lib.hid TR
  replace CR := Lib.hid CR
  replace FR := Lib.hid FR
  replace SM := Lib.hid SM
  obtain ⟨K, T10⟩ := KE
  have b1 := fresh1 w (.cells #[.slice va g.c.length vi, .slice vb g.l.length vj, .slice vd g.o.length vk, .slice ve g.h.length vm] 27)
  have OG := Lib.hid (Whole.fresh w 27 #[.slice va g.c.length vi, .slice vb g.l.length vj, .slice vd g.o.length vk, .slice ve g.h.length vm])
  have H0 := Lib.hid h
  have K0 := Lib.hid K
  have T0 := Lib.hid T10
  clear h K T10
  go_enter Tryd.func3, Tryd.ntmps3
  go_upto_region 1 with fail
  change Code.wp _ _ _ _ (w.alloc (.cells #[.slice va g.c.length vi, .slice vb g.l.length vj, .slice vd g.o.length vk, .slice ve g.h.length vm] 27))
  generalize w.alloc (.cells #[.slice va g.c.length vi, .slice vb g.l.length vj, .slice vd g.o.length vk, .slice ve g.h.length vm] 27) = w2 at b1 OG ⊢
  obtain ⟨gg, hg⟩ : ∃ gg, w.heap.size = gg := ⟨_, rfl⟩
  have B2 := Lib.hid b1
  rw [hg] at OG ⊢
  have hgw := Lib.hid hg
  clear b1 hg
  have HW : Hid (∀ w7, Below w2.heap.size w2 w7 → Below w.heap.size w w7) := Lib.hid fun w7 h7 => B2.out.trans (h7.mono B2.out.size)
  have GG : Hid (∀ w7, Below w2.heap.size w2 w7 → ∀ i, w7.cell? ⟨gg, i, none⟩ = (#[.slice va g.c.length vi, .slice vb g.l.length vj, .slice vd g.o.length vk, .slice ve g.h.length vm] : Array Value)[i]?) := Lib.hid fun w7 h7 => (OG.out.below h7 OG.out.inside).read
  have HL : Hid (∀ w7, Below w2.heap.size w2 w7 → Lies4 w7 ⟨va, vb, vd, ve, vi, vj, vk, vm⟩ g) := Lib.hid fun w7 h7 => H0.out.below (HW.out w7 h7)
  have HK : Hid (∀ w7, Below w2.heap.size w2 w7 → KT w7 ∧ Tab10 w7) := Lib.hid fun w7 h7 => ⟨K0.out.below (HW.out w7 h7), T0.out.below (HW.out w7 h7)⟩
  clear OG H0 K0 T0 B2
  have k0 : w2.cell? ⟨gg, 0, none⟩ = some (.slice va g.c.length vi) := GG.out w2 (Below.refl _ _) 0
  have k1 : w2.cell? ⟨gg, 1, none⟩ = some (.slice vb g.l.length vj) := GG.out w2 (Below.refl _ _) 1
  have k2 : w2.cell? ⟨gg, 2, none⟩ = some (.slice vd g.o.length vk) := GG.out w2 (Below.refl _ _) 2
  have k3 : w2.cell? ⟨gg, 3, none⟩ = some (.slice ve g.h.length vm) := GG.out w2 (Below.refl _ _) 3
  replace GR := Lib.hid (GR.out w2 (HL.out w2 (Below.refl _ _)))
  cases hS : greatB g with
  | true =>
    rw [hS] at GR
    go_wp2_with (go_at_call 5; refine GR.out.mono ?_; rintro e w3 ⟨rfl, b3⟩)
    go_ret
    exact ⟨rfl, hgw.out ▸ HW.out _ b3⟩
  | false =>
    have SH := Lib.hid (great_small hS)
    rw [hS] at GR
    obtain ⟨lc, ll, lo, lh, -, -, -⟩ := SH.out
    replace TO := Lib.hid (TO.out (by omega) (by omega) (by omega) (by omega))
    replace SM := Lib.hid (fun v2 => SM.out v2 (by omega) (by omega) (by omega) (by omega))
    have FF := Lib.hid (fun v2 w1 (h2 : Lies4 w1 v2 g) => fromG_any v2 g (by omega) (by omega) (by omega) (by omega) w1 h2)
    have LH := Lib.hid lh
    go_upto_region 3 with (go_at_call 5; refine GR.out.mono ?_; rintro e w3 ⟨rfl, b3⟩)
    have B3 := Lib.hid b3
    clear hS GR k0 k1 k2 k3 b3
    have k0 : w3.cell? ⟨gg, 0, none⟩ = some (.slice va g.c.length vi) := GG.out w3 B3.out 0
    have k1 : w3.cell? ⟨gg, 1, none⟩ = some (.slice vb g.l.length vj) := GG.out w3 B3.out 1
    have k2 : w3.cell? ⟨gg, 2, none⟩ = some (.slice vd g.o.length vk) := GG.out w3 B3.out 2
    have k3 : w3.cell? ⟨gg, 3, none⟩ = some (.slice ve g.h.length vm) := GG.out w3 B3.out 3
    go_upto_region 4 with (go_at_call 6; refine (TO.out _ (HL.out w3 B3.out)).mono ?_; rintro e w4 ⟨v', rfl, L4, R4, b4⟩)
    obtain ⟨xa, xb, xd, xe, xi, xj, xk, xm⟩ := v'
    change Code.wp _ _ _ _ (w4.alloc (.cells #[.slice xa g.c.length xi, .slice xb g.l.length xj, .slice xd g.o.length xk, .slice xe g.h.length xm] 34))
    clear k0 k1 k2 k3 TO
    have FT := fit_of9 R4 SH.out
    have PT := fun w1 (h1 : Lies4 w1 ⟨xa, xb, xd, xe, xi, xj, xk, xm⟩ g) (k1 : KT w1 ∧ Tab10 w1) => text_any _ g FT I w1 h1 k1.1 k1.2
    have PC := fun w1 (h1 : Lies4 w1 ⟨xa, xb, xd, xe, xi, xj, xk, xm⟩ g) (k1 : KT w1 ∧ Tab10 w1) => check_any _ g FT I w1 h1 k1.1
    have PF := fun w1 (h1 : Lies4 w1 ⟨xa, xb, xd, xe, xi, xj, xk, xm⟩ g) (k1 : KT w1 ∧ Tab10 w1) => flows_any _ g FT I w1 h1 k1.1
    replace FF := Lib.hid (FF.out ⟨xa, xb, xd, xe, xi, xj, xk, xm⟩)
    unfold gV at PT PC PF
    dsimp only at PT PC PF
    replace PT := Lib.hid PT
    replace PC := Lib.hid PC
    replace PF := Lib.hid PF
    clear FT SH lc ll lo lh R4
    have B4 := Lib.hid (B3.out.trans (b4.mono B3.out.size))
    have b5 := fresh1 w4 (.cells #[.slice xa g.c.length xi, .slice xb g.l.length xj, .slice xd g.o.length xk, .slice xe g.h.length xm] 34)
    have OX5 := Lib.hid (Whole.fresh w4 34 #[.slice xa g.c.length xi, .slice xb g.l.length xj, .slice xd g.o.length xk, .slice xe g.h.length xm])
    have L5 := Lib.hid (L4.below b5)
    have B5 := Lib.hid (B4.out.trans (b5.mono B4.out.size))
    generalize w4.alloc (.cells #[.slice xa g.c.length xi, .slice xb g.l.length xj, .slice xd g.o.length xk, .slice xe g.h.length xm] 34) = w5 at b5 OX5 L5 B5 ⊢
    generalize w4.heap.size = gx at OX5 ⊢
    clear b4 b5 L4 B3 B4
    have XX : Hid (∀ w7, Below w5.heap.size w5 w7 → ∀ i, w7.cell? ⟨gx, i, none⟩ = (#[.slice xa g.c.length xi, .slice xb g.l.length xj, .slice xd g.o.length xk, .slice xe g.h.length xm] : Array Value)[i]?) := Lib.hid fun w7 h7 => (OX5.out.below h7 OX5.out.inside).read
    have XL : Hid (∀ w7, Below w5.heap.size w5 w7 → Lies4 w7 ⟨xa, xb, xd, xe, xi, xj, xk, xm⟩ g) := Lib.hid fun w7 h7 => L5.out.below h7
    have X2 : Hid (∀ w7, Below w5.heap.size w5 w7 → Below w2.heap.size w2 w7) := Lib.hid fun w7 h7 => B5.out.trans (h7.mono B5.out.size)
    clear OX5 L5 B5
    generalize checkE g = E at TR CR PT PC
    generalize textV g = X at TR PT
    have hfl := Lib.hid (flV_le g)
    generalize flV g = N at FR PF hfl
    have LN : Hid (N.length ≤ 100000) := Lib.hid (by have := hfl.out; have := LH.out; omega)
    have x0 : w5.cell? ⟨gx, 0, none⟩ = some (.slice xa g.c.length xi) := XX.out w5 (Below.refl _ _) 0
    have x1 : w5.cell? ⟨gx, 1, none⟩ = some (.slice xb g.l.length xj) := XX.out w5 (Below.refl _ _) 1
    have x2 : w5.cell? ⟨gx, 2, none⟩ = some (.slice xd g.o.length xk) := XX.out w5 (Below.refl _ _) 2
    have x3 : w5.cell? ⟨gx, 3, none⟩ = some (.slice xe g.h.length xm) := XX.out w5 (Below.refl _ _) 3
    go_upto_region 5 with (go_at_call 7; refine (PT.out _ (XL.out w5 (Below.refl _ _)) (HK.out w5 (X2.out w5 (Below.refl _ _)))).mono ?_; rintro e w6 ⟨rfl, b6⟩)
    have B6 := Lib.hid b6
    clear x0 x1 x2 x3 PT b6
    have k0 : w6.cell? ⟨gg, 0, none⟩ = some (.slice va g.c.length vi) := GG.out w6 (X2.out w6 B6.out) 0
    have k1 : w6.cell? ⟨gg, 1, none⟩ = some (.slice vb g.l.length vj) := GG.out w6 (X2.out w6 B6.out) 1
    have k2 : w6.cell? ⟨gg, 2, none⟩ = some (.slice vd g.o.length vk) := GG.out w6 (X2.out w6 B6.out) 2
    have k3 : w6.cell? ⟨gg, 3, none⟩ = some (.slice ve g.h.length vm) := GG.out w6 (X2.out w6 B6.out) 3
    go_upto_region 6 with (go_at_call 8; refine (TR.out _ (HL.out w6 (X2.out w6 B6.out))).mono ?_; rintro e w7 ⟨rfl, b7⟩)
    have B7 := Lib.hid (B6.out.trans (b7.mono B6.out.size))
    clear k0 k1 k2 k3 TR b7 B6
    have D7 : Hid (∀ w8, Below w7.heap.size w7 w8 → Below w5.heap.size w5 w8) := Lib.hid fun w8 h8 => B7.out.trans (h8.mono B7.out.size)
    refine region_want 50 [Is (.agg #[.slice xa g.c.length xi, .slice xb g.l.length xj, .slice xd g.o.length xk, .slice xe g.h.length xm]), Is (.int .i64 E), Is (.agg #[.slice va g.c.length vi, .slice vb g.l.length vj, .slice vd g.o.length vk, .slice ve g.h.length vm]), Is (.int .i64 E), Is (.bool true), Is (.bool true), Is (sV X), Is (sV X), Is (.bool true), Is (.bool true), Is (.bool true), Is (.int .i64 E), Is (.int .i64 E), Is (.bool true), Is (.bool true), Is (.bool true), Is (.agg #[.slice xa g.c.length xi, .slice xb g.l.length xj, .slice xd g.o.length xk, .slice xe g.h.length xm]), FlP N, Is (.agg #[.slice va g.c.length vi, .slice vb g.l.length vj, .slice vd g.o.length vk, .slice ve g.h.length vm]), FlP N, Is (.bool true), Is (.bool true), Is (.bool true), Is (.agg #[.slice xa g.c.length xi, .slice xb g.l.length xj, .slice xd g.o.length xk, .slice xe g.h.length xm]), FrP g, Is (.agg #[.slice va g.c.length vi, .slice vb g.l.length vj, .slice vd g.o.length vk, .slice ve g.h.length vm]), Is (.bool true), Is (.bool true), Is (.bool true)] (by kernel_rfl) rfl (by kernel_rfl) ?_ ?_
    · exact ⟨keeps_is _, keeps_is _, keeps_is _, keeps_is _, keeps_is _, keeps_is _, keeps_is _, keeps_is _, keeps_is _, keeps_is _, keeps_is _, keeps_is _, keeps_is _, keeps_is _, keeps_is _, keeps_is _, keeps_is _, keeps_flP _, keeps_is _, keeps_flP _, keeps_is _, keeps_is _, keeps_is _, keeps_is _, keeps_frP _, keeps_is _, keeps_is _, keeps_is _, keeps_is _, trivial⟩
    · intro fin hfin
      simp [lexPut, Act.put] at hfin
      refine ⟨⟨?_, ?_, ?_, ?_, ?_, ?_, ?_, ?_, ?_, ?_, ?_, ?_, ?_, ?_, ?_, ?_, ?_, ?_, ?_, ?_, ?_, ?_, ?_, ?_, ?_, ?_, ?_, ?_, ?_, trivial⟩, ?_⟩
      · intro v w8 hb hd
        have x0 := XX.out w8 (D7.out w8 hb) 0
        have x1 := XX.out w8 (D7.out w8 hb) 1
        have x2 := XX.out w8 (D7.out w8 hb) 2
        have x3 := XX.out w8 (D7.out w8 hb) 3
        refine done_plain rfl (yields_run (u := .agg #[.slice xa g.c.length xi, .slice xb g.l.length xj, .slice xd g.o.length xk, .slice xe g.h.length xm]) (w' := w8) ?_ (Below.refl _ _) rfl)
        rw [hfin]
        unfold execOp
        simp [go_sem, Act.eval, x0, x1, x2, x3]
      · intro v w8 hb hd
        have h0 : v 0 = .agg #[.slice xa g.c.length xi, .slice xb g.l.length xj, .slice xd g.o.length xk, .slice xe g.h.length xm] := hd 0 (by kernel_rfl)
        refine done_plain rfl (yields_call (f := 9) rfl (vs := #[.agg #[.slice xa g.c.length xi, .slice xb g.l.length xj, .slice xd g.o.length xk, .slice xe g.h.length xm]]) (by rw [hfin]; simp [Act.eval, h0]) rfl Tryd.func9 (by kernel_rfl) (by kernel_rfl) ?_)
        exact (PC.out w8 (XL.out w8 (D7.out w8 hb)) (HK.out w8 (X2.out w8 (D7.out w8 hb)))).mono fun e w' ⟨he, hb'⟩ => ⟨_, he, hb', rfl⟩
      · intro v w8 hb hd
        have k0 := GG.out w8 (X2.out w8 (D7.out w8 hb)) 0
        have k1 := GG.out w8 (X2.out w8 (D7.out w8 hb)) 1
        have k2 := GG.out w8 (X2.out w8 (D7.out w8 hb)) 2
        have k3 := GG.out w8 (X2.out w8 (D7.out w8 hb)) 3
        refine done_plain rfl (yields_run (u := .agg #[.slice va g.c.length vi, .slice vb g.l.length vj, .slice vd g.o.length vk, .slice ve g.h.length vm]) (w' := w8) ?_ (Below.refl _ _) rfl)
        rw [hfin]
        unfold execOp
        simp [go_sem, Act.eval, k0, k1, k2, k3]
      · intro v w8 hb hd
        have h2 : v 2 = .agg #[.slice va g.c.length vi, .slice vb g.l.length vj, .slice vd g.o.length vk, .slice ve g.h.length vm] := hd 2 (by kernel_rfl)
        refine done_plain rfl (yields_call (f := 10) rfl (vs := #[.agg #[.slice va g.c.length vi, .slice vb g.l.length vj, .slice vd g.o.length vk, .slice ve g.h.length vm]]) (by rw [hfin]; simp [Act.eval, h2]) rfl Tryd.func10 (by kernel_rfl) (by kernel_rfl) ?_)
        exact (CR.out w8 (HL.out w8 (X2.out w8 (D7.out w8 hb)))).mono fun e w' ⟨he, hb'⟩ => ⟨_, he, hb', rfl⟩
      · intro v w8 hb hd
        have h1 : v 1 = .int .i64 E := hd 1 (by kernel_rfl)
        have h3 : v 3 = .int .i64 E := hd 3 (by kernel_rfl)
        refine done_plain rfl (yields_run (u := .bool true) (w' := w8) ?_ (Below.refl _ _) rfl)
        rw [hfin]
        unfold execOp
        simp [go_sem, Act.eval, h1, h3]
      · intro v w8 hb hd
        have h4 : v 4 = .bool true := hd 4 (by kernel_rfl)
        refine done_plain rfl (yields_run (u := .bool true) (w' := w8) ?_ (Below.refl _ _) rfl)
        rw [hfin]
        unfold execOp
        simp [go_sem, Act.eval, h4]
      · intro v w8 hb hd
        have g5 : v 5 = .bool true := hd 5 (by kernel_rfl)
        refine done_want 5 true rfl g5 (yields_run (u := sV X) (w' := w8) ?_ (Below.refl _ _) rfl)
        rw [hfin]
        unfold execOp
        simp [go_sem, Act.eval]
      · intro v w8 hb hd
        have g5 : v 5 = .bool true := hd 5 (by kernel_rfl)
        refine done_want 5 true rfl g5 (yields_run (u := sV X) (w' := w8) ?_ (Below.refl _ _) rfl)
        rw [hfin]
        unfold execOp
        simp [go_sem, Act.eval]
      · intro v w8 hb hd
        have g5 : v 5 = .bool true := hd 5 (by kernel_rfl)
        have h6 : v 6 = sV X := hd 6 (by kernel_rfl)
        have h7 : v 7 = sV X := hd 7 (by kernel_rfl)
        refine done_want 5 true rfl g5 (yields_run (u := .bool true) (w' := w8) ?_ (Below.refl _ _) rfl)
        rw [hfin]
        unfold execOp
        simp [go_sem, Act.eval, h6, h7]
      · intro v w8 hb hd
        have h5 : v 5 = .bool true := hd 5 (by kernel_rfl)
        have h8 : v 8 = .bool true := hd 8 (by kernel_rfl)
        refine done_plain rfl (yields_run (u := .bool true) (w' := w8) ?_ (Below.refl _ _) rfl)
        rw [hfin]
        unfold execOp
        simp [go_sem, Act.eval, h5, h8]
      · intro v w8 hb hd
        have h9 : v 9 = .bool true := hd 9 (by kernel_rfl)
        refine done_plain rfl (yields_run (u := .bool true) (w' := w8) ?_ (Below.refl _ _) rfl)
        rw [hfin]
        unfold execOp
        simp [go_sem, Act.eval, h9]
      · intro v w8 hb hd
        have g10 : v 10 = .bool true := hd 10 (by kernel_rfl)
        refine done_want 10 true rfl g10 (yields_run (u := .int .i64 E) (w' := w8) ?_ (Below.refl _ _) rfl)
        rw [hfin]
        unfold execOp
        simp [go_sem, Act.eval]
      · intro v w8 hb hd
        have g10 : v 10 = .bool true := hd 10 (by kernel_rfl)
        refine done_want 10 true rfl g10 (yields_run (u := .int .i64 E) (w' := w8) ?_ (Below.refl _ _) rfl)
        rw [hfin]
        unfold execOp
        simp [go_sem, Act.eval]
      · intro v w8 hb hd
        have g10 : v 10 = .bool true := hd 10 (by kernel_rfl)
        have h11 : v 11 = .int .i64 E := hd 11 (by kernel_rfl)
        have h12 : v 12 = .int .i64 E := hd 12 (by kernel_rfl)
        refine done_want 10 true rfl g10 (yields_run (u := .bool true) (w' := w8) ?_ (Below.refl _ _) rfl)
        rw [hfin]
        unfold execOp
        simp [go_sem, Act.eval, h11, h12]
      · intro v w8 hb hd
        have h10 : v 10 = .bool true := hd 10 (by kernel_rfl)
        have h13 : v 13 = .bool true := hd 13 (by kernel_rfl)
        refine done_plain rfl (yields_run (u := .bool true) (w' := w8) ?_ (Below.refl _ _) rfl)
        rw [hfin]
        unfold execOp
        simp [go_sem, Act.eval, h10, h13]
      · intro v w8 hb hd
        have h14 : v 14 = .bool true := hd 14 (by kernel_rfl)
        refine done_plain rfl (yields_run (u := .bool true) (w' := w8) ?_ (Below.refl _ _) rfl)
        rw [hfin]
        unfold execOp
        simp [go_sem, Act.eval, h14]
      · intro v w8 hb hd
        have g15 : v 15 = .bool true := hd 15 (by kernel_rfl)
        have x0 := XX.out w8 (D7.out w8 hb) 0
        have x1 := XX.out w8 (D7.out w8 hb) 1
        have x2 := XX.out w8 (D7.out w8 hb) 2
        have x3 := XX.out w8 (D7.out w8 hb) 3
        refine done_want 15 true rfl g15 (yields_run (u := .agg #[.slice xa g.c.length xi, .slice xb g.l.length xj, .slice xd g.o.length xk, .slice xe g.h.length xm]) (w' := w8) ?_ (Below.refl _ _) rfl)
        rw [hfin]
        unfold execOp
        simp [go_sem, Act.eval, x0, x1, x2, x3]
      · intro v w8 hb hd
        have g15 : v 15 = .bool true := hd 15 (by kernel_rfl)
        have h16 : v 16 = .agg #[.slice xa g.c.length xi, .slice xb g.l.length xj, .slice xd g.o.length xk, .slice xe g.h.length xm] := hd 16 (by kernel_rfl)
        refine done_want 15 true rfl g15 (yields_call (f := 12) rfl (vs := #[.agg #[.slice xa g.c.length xi, .slice xb g.l.length xj, .slice xd g.o.length xk, .slice xe g.h.length xm]]) (by rw [hfin]; simp [Act.eval, h16]) rfl Tryd.func12 (by kernel_rfl) (by kernel_rfl) ?_)
        exact (PF.out w8 (XL.out w8 (D7.out w8 hb)) (HK.out w8 (X2.out w8 (D7.out w8 hb)))).mono fun e w' ⟨D, c, he, ho, hb'⟩ => ⟨_, he, hb', D, c, rfl, OwnG.lg CELLS_cI ho⟩
      · intro v w8 hb hd
        have g15 : v 15 = .bool true := hd 15 (by kernel_rfl)
        have k0 := GG.out w8 (X2.out w8 (D7.out w8 hb)) 0
        have k1 := GG.out w8 (X2.out w8 (D7.out w8 hb)) 1
        have k2 := GG.out w8 (X2.out w8 (D7.out w8 hb)) 2
        have k3 := GG.out w8 (X2.out w8 (D7.out w8 hb)) 3
        refine done_want 15 true rfl g15 (yields_run (u := .agg #[.slice va g.c.length vi, .slice vb g.l.length vj, .slice vd g.o.length vk, .slice ve g.h.length vm]) (w' := w8) ?_ (Below.refl _ _) rfl)
        rw [hfin]
        unfold execOp
        simp [go_sem, Act.eval, k0, k1, k2, k3]
      · intro v w8 hb hd
        have g15 : v 15 = .bool true := hd 15 (by kernel_rfl)
        have h18 : v 18 = .agg #[.slice va g.c.length vi, .slice vb g.l.length vj, .slice vd g.o.length vk, .slice ve g.h.length vm] := hd 18 (by kernel_rfl)
        refine done_want 15 true rfl g15 (yields_call (f := 13) rfl (vs := #[.agg #[.slice va g.c.length vi, .slice vb g.l.length vj, .slice vd g.o.length vk, .slice ve g.h.length vm]]) (by rw [hfin]; simp [Act.eval, h18]) rfl Tryd.func13 (by kernel_rfl) (by kernel_rfl) ?_)
        exact (FR.out w8 (HL.out w8 (X2.out w8 (D7.out w8 hb)))).mono fun e w' ⟨D, c, he, ho, hb'⟩ => ⟨_, he, hb', D, c, rfl, OwnG.lg CELLS_cI ho⟩
      · intro v w8 hb hd
        have g15 : v 15 = .bool true := hd 15 (by kernel_rfl)
        obtain ⟨D1, c1, h17, l1⟩ : FlP N (v 17) w8 := hd 17 (by kernel_rfl)
        obtain ⟨D2, c2, h19, l2⟩ : FlP N (v 19) w8 := hd 19 (by kernel_rfl)
        refine done_want 15 true rfl g15 (yields_call (f := 11) rfl (vs := #[.slice D1 N.length c1, .slice D2 N.length c2]) (by rw [hfin]; simp [Act.eval, h17, h19]) rfl Tryd.func11 (by kernel_rfl) (by kernel_rfl) ?_)
        exact (sameI_any N D1 D2 c1 c2 w8 l1 l2 LN.out).mono fun e w' ⟨he, hb'⟩ => ⟨_, he, hb', rfl⟩
      · intro v w8 hb hd
        have h15 : v 15 = .bool true := hd 15 (by kernel_rfl)
        have h20 : v 20 = .bool true := hd 20 (by kernel_rfl)
        refine done_plain rfl (yields_run (u := .bool true) (w' := w8) ?_ (Below.refl _ _) rfl)
        rw [hfin]
        unfold execOp
        simp [go_sem, Act.eval, h15, h20]
      · intro v w8 hb hd
        have h21 : v 21 = .bool true := hd 21 (by kernel_rfl)
        refine done_plain rfl (yields_run (u := .bool true) (w' := w8) ?_ (Below.refl _ _) rfl)
        rw [hfin]
        unfold execOp
        simp [go_sem, Act.eval, h21]
      · intro v w8 hb hd
        have g22 : v 22 = .bool true := hd 22 (by kernel_rfl)
        have x0 := XX.out w8 (D7.out w8 hb) 0
        have x1 := XX.out w8 (D7.out w8 hb) 1
        have x2 := XX.out w8 (D7.out w8 hb) 2
        have x3 := XX.out w8 (D7.out w8 hb) 3
        refine done_want 22 true rfl g22 (yields_run (u := .agg #[.slice xa g.c.length xi, .slice xb g.l.length xj, .slice xd g.o.length xk, .slice xe g.h.length xm]) (w' := w8) ?_ (Below.refl _ _) rfl)
        rw [hfin]
        unfold execOp
        simp [go_sem, Act.eval, x0, x1, x2, x3]
      · intro v w8 hb hd
        have g22 : v 22 = .bool true := hd 22 (by kernel_rfl)
        have h23 : v 23 = .agg #[.slice xa g.c.length xi, .slice xb g.l.length xj, .slice xd g.o.length xk, .slice xe g.h.length xm] := hd 23 (by kernel_rfl)
        refine done_want 22 true rfl g22 (yields_call (f := 15) rfl (vs := #[.agg #[.slice xa g.c.length xi, .slice xb g.l.length xj, .slice xd g.o.length xk, .slice xe g.h.length xm]]) (by rw [hfin]; simp [Act.eval, h23]) rfl Tryd.func15 (by kernel_rfl) (by kernel_rfl) ?_)
        exact (FF.out w8 (XL.out w8 (D7.out w8 hb))).mono fun e w' ⟨v', he, hl, _, hb'⟩ => ⟨_, he, hb', v', rfl, hl⟩
      · intro v w8 hb hd
        have g22 : v 22 = .bool true := hd 22 (by kernel_rfl)
        have k0 := GG.out w8 (X2.out w8 (D7.out w8 hb)) 0
        have k1 := GG.out w8 (X2.out w8 (D7.out w8 hb)) 1
        have k2 := GG.out w8 (X2.out w8 (D7.out w8 hb)) 2
        have k3 := GG.out w8 (X2.out w8 (D7.out w8 hb)) 3
        refine done_want 22 true rfl g22 (yields_run (u := .agg #[.slice va g.c.length vi, .slice vb g.l.length vj, .slice vd g.o.length vk, .slice ve g.h.length vm]) (w' := w8) ?_ (Below.refl _ _) rfl)
        rw [hfin]
        unfold execOp
        simp [go_sem, Act.eval, k0, k1, k2, k3]
      · intro v w8 hb hd
        have g22 : v 22 = .bool true := hd 22 (by kernel_rfl)
        have h25 : v 25 = .agg #[.slice va g.c.length vi, .slice vb g.l.length vj, .slice vd g.o.length vk, .slice ve g.h.length vm] := hd 25 (by kernel_rfl)
        obtain ⟨v2, h24, l1⟩ : FrP g (v 24) w8 := hd 24 (by kernel_rfl)
        refine done_want 22 true rfl g22 (yields_call (f := 14) rfl (vs := #[gV v2 g, .agg #[.slice va g.c.length vi, .slice vb g.l.length vj, .slice vd g.o.length vk, .slice ve g.h.length vm]]) (by rw [hfin]; simp [Act.eval, h24, h25]) rfl Tryd.func14 (by kernel_rfl) (by kernel_rfl) ?_)
        exact (SM.out v2 w8 (HL.out w8 (X2.out w8 (D7.out w8 hb))) l1).mono fun e w' ⟨he, hb'⟩ => ⟨_, he, hb', rfl⟩
      · intro v w8 hb hd
        have h22 : v 22 = .bool true := hd 22 (by kernel_rfl)
        have h26 : v 26 = .bool true := hd 26 (by kernel_rfl)
        refine done_plain rfl (yields_run (u := .bool true) (w' := w8) ?_ (Below.refl _ _) rfl)
        rw [hfin]
        unfold execOp
        simp [go_sem, Act.eval, h22, h26]
      · intro v w8 hb hd
        have h27 : v 27 = .bool true := hd 27 (by kernel_rfl)
        refine done_plain rfl (yields_run (u := .bool true) (w' := w8) ?_ (Below.refl _ _) rfl)
        rw [hfin]
        unfold execOp
        simp [go_sem, Act.eval, h27]
      · intro v w8 hb hv
        have h28 : v 28 = .bool true := hv 28 (by decide)
        rw [hfin]
        generalize v 28 = v28 at h28 ⊢
        subst h28
        have B8 := Lib.hid (HW.out w8 (X2.out w8 (D7.out w8 hb)))
        clear hfin hv hb
        go_wp2_with fail
        go_ret
        exact ⟨rfl, hgw.out ▸ B8.out⟩
end Go.Proofs.YtlbphlhbofjfgaaDoor.graph
