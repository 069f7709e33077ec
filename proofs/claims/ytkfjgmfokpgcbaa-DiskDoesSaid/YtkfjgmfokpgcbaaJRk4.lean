/-
  The document's disk: Copy, Names.
  The contract of the law's Same: a disk of the program's and one of the document's that hold the same.
-/
import Derived.Test.YtkfjgmfokpgcbaaJRk2
import Derived.Test.YtkfjgmfokpgcbaaJYc
import Derived.Test.YtkfjgmfokpgcbaaJRt
import Derived.Test.YtkfjgmfokpgcbaaJRt7
import Derived.Test.YtkfjgmfokpgcbaaJKit
import Derived.Test.YtkfjgmfokpgcbaaJKs2
set_option linter.unusedSimpArgs false
set_option linter.unusedVariables false
namespace Go.Proofs.Ytkfjgmfokpgcbaa.disk
open Go.ChangeShapes Go.WideShapes Go.ChangeAt Go.RowKit
open Go.Proofs.Ytkfjgmfokpgcbaa.words Go.Proofs.Ytkfjgmfokpgcbaa.opened Go.Proofs.Ytkfjgmfokpgcbaa.block Go.Proofs.Ytkfjgmfokpgcbaa.data Go.Proofs.Ytkfjgmfokpgcbaa.region

theorem infoF : (Try.prog.info? 61).map (fun i => (i.zero, i.size, i.bytes)) = some (some (.agg #[.string ByteArray.empty, .string ByteArray.empty, .int .i64 0]), 3, 40) := by kernel_rfl
theorem infoF_parts : ∃ i, Try.prog.info? 61 = some i ∧ i.zero = some (.agg #[.string ByteArray.empty, .string ByteArray.empty, .int .i64 0]) ∧ i.size = 3 ∧ i.bytes = 40 := by
  have h := infoF
  rw [Option.map_eq_some_iff] at h
  obtain ⟨i, hi, he⟩ := h
  simp only [Prod.mk.injEq] at he
  exact ⟨i, hi, he.1, he.2.1, he.2.2⟩
theorem flat0F {w : World} {L : List Fl} {A : Option Addr} (h : Lf w A L) (hn : L ≠ []) : ∃ ad, A = some ad ∧ ∀ j u, (L.flatMap cF)[j]? = some u → w.cell? (ad.add j) = some u := by
  cases L with
  | nil => exact absurd rfl hn
  | cons x r =>
    obtain ⟨b, off, rfl, -⟩ := at_f h (k := 0) (f := x) rfl
    exact ⟨_, rfl, lg_flat cellsF (by decide) h⟩
abbrev OwnFs (w : World) (z : Nat) (v : Value) (F : List Fl) : Prop := OwnG 61 3 cF w z v F
theorem ownF0 (W : World) (z : Nat) (h : z ≤ W.heap.size) : OwnFs (W.alloc (.cells #[] 61)) z (.slice (some ⟨W.heap.size, 0, none⟩) 0 0) [] := ⟨rfl, .inr ⟨W.heap.size, 0, #[], rfl, h, heap_alloc_new W _, Nat.le_refl _, by simp [maxLen], rfl, rfl⟩⟩
def EmptyF (z : Nat) : Value → World → Prop := fun u w => ∃ b, u = .slice (some ⟨b, 0, none⟩) 0 0 ∧ z ≤ b ∧ OwnFs w z (.slice (some ⟨b, 0, none⟩) 0 0) []
theorem keeps_emptyF (z : Nat) : Keeps (EmptyF z) := fun _ _ _ hb ⟨b, h1, h2, h3⟩ => ⟨b, h1, h2, h3.below hb⟩
def RowF (z : Nat) (F : List Fl) : Value → World → Prop := fun u w => ∃ B c, u = .slice B F.length c ∧ OwnFs w z (.slice B F.length c) F
theorem keeps_rowF (z : Nat) (F : List Fl) : Keeps (RowF z F) := fun _ _ _ hb ⟨B, c, h1, h2⟩ => ⟨B, c, h1, h2.below hb⟩
def AggF (z : Nat) (D : Dk) (n : Int) : Value → World → Prop := fun u w => ∃ B c, u = .agg #[.slice B D.F.length c, .bool (decide (0 ≤ D.left)), .int .i64 n, .bool D.off] ∧ OwnFs w z (.slice B D.F.length c) D.F
theorem keeps_aggF (z : Nat) (D : Dk) (n : Int) : Keeps (AggF z D n) := fun _ _ _ hb ⟨B, c, h1, h2⟩ => ⟨B, c, h1, h2.below hb⟩
def BoxF (z : Nat) (D : Dk) (n : Int) : Value → World → Prop := fun u w => ∃ g, u = .pointer (some ⟨g, 0, none⟩) ∧ z ≤ g ∧ ∃ B c, RefE w g D (.slice B D.F.length c) n ∧ ∀ k, (Value.slice B D.F.length c).ownBlock = some k → z ≤ k
theorem keeps_boxF (z : Nat) (D : Dk) (n : Int) : Keeps (BoxF z D n) := fun _ _ _ hb ⟨g, h1, h2, B, c, h3, h4⟩ => ⟨g, h1, h2, B, c, h3.below hb, h4⟩
set_option maxRecDepth 100000 in
set_option maxHeartbeats 1000000 in
theorem copyR_any {S : Nat → Prop} {g : Nat} {D : Dk} (hF : D.F.length ≤ 100000) (w : World) (h : RefP w S g D) :
    Calls Try.prog 20 #[.pointer (some ⟨g, 0, none⟩)] w fun e w' => ∃ g', e = .returned (.pointer (some ⟨g', 0, none⟩)) ∧ RefP w' (fun k => w.heap.size ≤ k) g' D ∧ Below w.heap.size w w' := by
  obtain ⟨i0, hi0, hz0, hz1, hz2⟩ := infoF_parts
  obtain ⟨V, n, h, -, -⟩ := h
  obtain ⟨A, c, rfl, -, -⟩ := h.own.shape
  have H := Lib.hid h
  clear h
  go_enter Try.func20, Try.ntmps20
  go_upto_region 1 with fail
  refine region_kinds 23 [EmptyF w.heap.size, Is (.pointer (some ⟨g, 0, none⟩)), Is (.pointer (some ⟨g, 0, none⟩)), Is (.pointer (some ⟨g, 0, none⟩)), Is (.slice A D.F.length c), RowF w.heap.size D.F, Is (.pointer (some ⟨g, 0, none⟩)), Is (.pointer (some ⟨g, 0, none⟩)), Is (.pointer (some ⟨g, 1, none⟩)), Is (.bool (decide (0 ≤ D.left))), Is (.pointer (some ⟨g, 0, none⟩)), Is (.pointer (some ⟨g, 0, none⟩)), Is (.pointer (some ⟨g, 2, none⟩)), Is (.int .i64 n), Is (.pointer (some ⟨g, 0, none⟩)), Is (.pointer (some ⟨g, 0, none⟩)), Is (.pointer (some ⟨g, 3, none⟩)), Is (.bool D.off), AggF w.heap.size D n, BoxF w.heap.size D n, BoxF w.heap.size D n] (by kernel_rfl) rfl (by kernel_rfl) ?_ ?_
  · exact ⟨keeps_emptyF _, keeps_is _, keeps_is _, keeps_is _, keeps_is _, keeps_rowF _ _, keeps_is _, keeps_is _, keeps_is _, keeps_is _, keeps_is _, keeps_is _, keeps_is _, keeps_is _, keeps_is _, keeps_is _, keeps_is _, keeps_is _, keeps_aggF _ _ _, keeps_boxF _ _ _, keeps_boxF _ _ _, trivial⟩
  · intro fin hfin
    simp [lexPut, Act.put] at hfin
    refine ⟨⟨?_, ?_, ?_, ?_, ?_, ?_, ?_, ?_, ?_, ?_, ?_, ?_, ?_, ?_, ?_, ?_, ?_, ?_, ?_, ?_, ?_, trivial⟩, ?_⟩
    · intro v w2 hb hd
      refine yields_run (u := .slice (some ⟨w2.heap.size, 0, none⟩) 0 0) (w' := w2.alloc (.cells #[] 61)) ?_ (fresh0 w2 _) ⟨w2.heap.size, rfl, hb.size, ownF0 _ _ hb.size⟩
      rw [hfin]
      unfold execOp
      simp [go_sem, Act.eval]
    · intro v w2 hb hd
      exact yields_is (tells_move rfl (by rw [hfin]; rfl)) hb
    · intro v w2 hb hd
      have h1 : v 1 = _ := hd 1 (by kernel_rfl)
      refine yields_run (u := .pointer (some ⟨g, 0, none⟩)) (w' := w2) ?_ (Below.refl _ _) rfl
      rw [hfin]
      unfold execOp
      simp [go_sem, Act.eval, h1]
    · intro v w2 hb hd
      have h2 : v 2 = _ := hd 2 (by kernel_rfl)
      refine yields_run (u := .pointer (some ⟨g, 0, none⟩)) (w' := w2) ?_ (Below.refl _ _) rfl
      rw [hfin]
      unfold execOp
      simp [go_sem, Act.eval, h2]
    · intro v w2 hb hd
      have h3 : v 3 = _ := hd 3 (by kernel_rfl)
      have hc : w2.cell? ⟨g, 0, none⟩ = some (.slice A D.F.length c) := (H.out.below hb).cells.read 0
      refine yields_run (u := .slice A D.F.length c) (w' := w2) ?_ (Below.refl _ _) rfl
      rw [hfin]
      unfold execOp
      simp [go_sem, Act.eval, h3, hc]
    · intro v w2 hb hd
      have h4 : v 4 = _ := hd 4 (by kernel_rfl)
      obtain ⟨b4, h0, z4, o4⟩ : EmptyF w.heap.size (v 0) w2 := hd 0 (by kernel_rfl)
      refine yields_copied (.tmp 3) (.tmp 7) 26 rfl 61 i0 (.agg #[.string ByteArray.empty, .string ByteArray.empty, .int .i64 0]) 3 40 Try.underlying26 hi0 hz0 hz1 hz2 rfl (by decide) ⟨b4, 0, none⟩ (by rw [hfin]; simp [Act.eval, h0]) A D.F.length c (D.F.flatMap cF) (by rw [hfin]; simp [Act.eval, h4]) (flatG_len cellsF _) (fun hn => flat0F ((H.out.below hb).own.lg cellsF) (fun e => hn (by rw [e]; rfl))) (by unfold maxLen; omega) (by omega) (fun h0 => ⟨some ⟨b4, 0, none⟩, 0, by rw [h0], by rw [List.eq_nil_of_length_eq_zero h0]; exact o4⟩) ?_
      intro hn v' w' hown _
      obtain ⟨B, c', rfl, -, -⟩ := OwnG.shape (N := D.F) (m := 3) (f := cF) (T := 61) hown
      exact ⟨B, c', rfl, OwnG.low hown hb.size⟩
    · intro v w2 hb hd
      exact yields_is (tells_move rfl (by rw [hfin]; rfl)) hb
    · intro v w2 hb hd
      have h6 : v 6 = _ := hd 6 (by kernel_rfl)
      refine yields_run (u := .pointer (some ⟨g, 0, none⟩)) (w' := w2) ?_ (Below.refl _ _) rfl
      rw [hfin]
      unfold execOp
      simp [go_sem, Act.eval, h6]
    · intro v w2 hb hd
      have h7 : v 7 = _ := hd 7 (by kernel_rfl)
      refine yields_run (u := .pointer (some ⟨g, 1, none⟩)) (w' := w2) ?_ (Below.refl _ _) rfl
      rw [hfin]
      unfold execOp
      simp [go_sem, Act.eval, h7]
    · intro v w2 hb hd
      have h8 : v 8 = _ := hd 8 (by kernel_rfl)
      have hc : w2.cell? ⟨g, 1, none⟩ = some (.bool (decide (0 ≤ D.left))) := (H.out.below hb).cells.read 1
      refine yields_run (u := .bool (decide (0 ≤ D.left))) (w' := w2) ?_ (Below.refl _ _) rfl
      rw [hfin]
      unfold execOp
      simp [go_sem, Act.eval, h8, hc]
    · intro v w2 hb hd
      exact yields_is (tells_move rfl (by rw [hfin]; rfl)) hb
    · intro v w2 hb hd
      have h10 : v 10 = _ := hd 10 (by kernel_rfl)
      refine yields_run (u := .pointer (some ⟨g, 0, none⟩)) (w' := w2) ?_ (Below.refl _ _) rfl
      rw [hfin]
      unfold execOp
      simp [go_sem, Act.eval, h10]
    · intro v w2 hb hd
      have h11 : v 11 = _ := hd 11 (by kernel_rfl)
      refine yields_run (u := .pointer (some ⟨g, 2, none⟩)) (w' := w2) ?_ (Below.refl _ _) rfl
      rw [hfin]
      unfold execOp
      simp [go_sem, Act.eval, h11]
    · intro v w2 hb hd
      have h12 : v 12 = _ := hd 12 (by kernel_rfl)
      have hc : w2.cell? ⟨g, 2, none⟩ = some (.int .i64 n) := (H.out.below hb).cells.read 2
      refine yields_run (u := .int .i64 n) (w' := w2) ?_ (Below.refl _ _) rfl
      rw [hfin]
      unfold execOp
      simp [go_sem, Act.eval, h12, hc]
    · intro v w2 hb hd
      exact yields_is (tells_move rfl (by rw [hfin]; rfl)) hb
    · intro v w2 hb hd
      have h14 : v 14 = _ := hd 14 (by kernel_rfl)
      refine yields_run (u := .pointer (some ⟨g, 0, none⟩)) (w' := w2) ?_ (Below.refl _ _) rfl
      rw [hfin]
      unfold execOp
      simp [go_sem, Act.eval, h14]
    · intro v w2 hb hd
      have h15 : v 15 = _ := hd 15 (by kernel_rfl)
      refine yields_run (u := .pointer (some ⟨g, 3, none⟩)) (w' := w2) ?_ (Below.refl _ _) rfl
      rw [hfin]
      unfold execOp
      simp [go_sem, Act.eval, h15]
    · intro v w2 hb hd
      have h16 : v 16 = _ := hd 16 (by kernel_rfl)
      have hc : w2.cell? ⟨g, 3, none⟩ = some (.bool D.off) := (H.out.below hb).cells.read 3
      refine yields_run (u := .bool D.off) (w' := w2) ?_ (Below.refl _ _) rfl
      rw [hfin]
      unfold execOp
      simp [go_sem, Act.eval, h16, hc]
    · intro v w2 hb hd
      obtain ⟨B, c5, h5, o5⟩ : RowF w.heap.size D.F (v 5) w2 := hd 5 (by kernel_rfl)
      have h9 : v 9 = _ := hd 9 (by kernel_rfl)
      have h13 : v 13 = _ := hd 13 (by kernel_rfl)
      have h17 : v 17 = _ := hd 17 (by kernel_rfl)
      refine yields_run (u := .agg #[.slice B D.F.length c5, .bool (decide (0 ≤ D.left)), .int .i64 n, .bool D.off]) (w' := w2) ?_ (Below.refl _ _) ⟨B, c5, rfl, o5⟩
      rw [hfin]
      unfold execOp
      simp [go_sem, Act.eval, h5, h9, h13, h17]
    · intro v w2 hb hd
      obtain ⟨B, c5, h18, o5⟩ : AggF w.heap.size D n (v 18) w2 := hd 18 (by kernel_rfl)
      refine yields_run (u := .pointer (some ⟨w2.heap.size, 0, none⟩)) (w' := w2.alloc (.cells #[.slice B D.F.length c5, .bool (decide (0 ≤ D.left)), .int .i64 n, .bool D.off] 28)) ?_ (fresh0 w2 _) ⟨w2.heap.size, rfl, hb.size, B, c5, ⟨Whole.fresh w2 _ _, H.out.left, (OwnG.low o5 (Nat.zero_le _)).below (fresh0 w2 _), fun e => OwnG.away o5 (Nat.le_refl _) e.symm⟩, fun k e => OwnG.above o5 e⟩
      rw [hfin]
      unfold execOp
      simp [go_sem, Act.eval, h18]
    · intro v w2 hb hd
      exact yields_assign rfl (by rw [hfin]; exact hd 19 (by kernel_rfl))
    · intro v w2 hb hv
      have h20 : BoxF w.heap.size D n (v 20) w2 := hv 20 (by decide)
      rw [hfin]
      clear hfin hv
      generalize v 20 = v20 at h20 ⊢
      obtain ⟨g2, rfl, z2, B, c5, hm, hk⟩ := h20
      have HM := Lib.hid hm
      have HB := Lib.hid hb
      have HK := Lib.hid hk
      clear hm hb hk
      go_wp2_with fail
      go_ret
      exact ⟨g2, rfl, ⟨_, n, HM.out, z2, HK.out⟩, HB.out⟩
def cN (f : Fl) : List Value := [sV f.n]
theorem cellsN : Cells 1 cN := ⟨fun _ => rfl, fun x v hv => by
  simp [cN] at hv
  rw [hv]; rfl⟩
theorem infoS' : (Try.prog.info? 9).map (fun i => (i.zero, i.size, i.bytes)) = some (some (.string ByteArray.empty), 1, 16) := by kernel_rfl
theorem infoS_parts' : ∃ i, Try.prog.info? 9 = some i ∧ i.zero = some (.string ByteArray.empty) ∧ i.size = 1 ∧ i.bytes = 16 := by
  have h := infoS'
  rw [Option.map_eq_some_iff] at h
  obtain ⟨i, hi, he⟩ := h
  simp only [Prod.mk.injEq] at he
  exact ⟨i, hi, he.1, he.2.1, he.2.2⟩
theorem lg_lone (w : World) (f : Fl) : Lg 1 cN (w.alloc (.cells #[sV f.n] 9)) (some ⟨w.heap.size, 0, none⟩) [f] := by
  refine .inr ⟨w.heap.size, 0, rfl, by simp, fun i x hx => ?_⟩
  cases i with
  | zero =>
    obtain rfl : cN f = x := by simpa using hx
    refine ⟨rfl, fun j hj => ?_⟩
    obtain rfl : j = 0 := by omega
    exact (Whole.fresh w 9 #[sV f.n]).read 0
  | succ i => simp at hx
set_option maxRecDepth 100000 in
theorem namesR_any {S : Nat → Prop} {g : Nat} {D : Dk} (hF : D.F.length ≤ 100000) (w : World) (h : RefP w S g D) :
    Calls Try.prog 39 #[.pointer (some ⟨g, 0, none⟩)] w fun e w' => ∃ B c, e = .returned (.slice B D.F.length c) ∧ Lg 1 cN w' B D.F ∧ Below w.heap.size w w' := by
  obtain ⟨i0, hi0, hz0, hz1, hz2⟩ := infoS_parts'
  obtain ⟨V, n, h, -, -⟩ := h
  obtain ⟨A, c, rfl, -, -⟩ := h.own.shape
  have H := Lib.hid h
  have hL0 := Lib.hid (h.own.lg cellsF)
  clear h
  obtain ⟨F, hFe⟩ : ∃ F, F = D.F := ⟨_, rfl⟩
  rw [← hFe] at hF hL0 ⊢
  have K0 : Hid (∀ W, Below w.heap.size w W → W.cell? ⟨g, 0, none⟩ = some (.slice A F.length c)) := Lib.hid (fun W b => by rw [hFe]; exact (H.out.below b).cells.read 0)
  clear H hFe
  go_enter Try.func39, Try.ntmps39
  go_wp2_with fail
  go_loopw [3, 4] (fun v3 s wr => ∃ (k : Nat) (B : Option Addr) (c3 : Nat) (U : List Fl), k ≤ F.length ∧ s = .int .i64 k ∧ v3 = .slice B U.length c3 ∧ Hid (U = F.take k) ∧ Hid (OwnG 9 1 cN wr w.heap.size (.slice B U.length c3) U) ∧ Hid (Below w.heap.size w wr)) (fun _ s _ => F.length - (intOf s).toNat)
  case atStart => exact ⟨0, none, 0, [], Nat.zero_le _, rfl, rfl, Lib.hid (by simp), Lib.hid (ownG_nil _ _), Lib.hid (Below.refl _ _)⟩
  case round =>
    obtain ⟨k, B, c3, U, hk, rfl, rfl, HU, HV, HB⟩ := hrel
    have k0 := K0.out wr HB.out
    by_cases hlt : k < F.length
    · obtain ⟨f, hf⟩ : ∃ f, F[k]? = some f := ⟨_, List.getElem?_eq_getElem hlt⟩
      obtain ⟨b, off, rfl, hb, c0, -, -⟩ := at_f (hL0.out.below HB.out) hf
      have HX : Hid (U ++ [f] = F.take (k + 1)) := Lib.hid (by rw [HU.out, List.take_add_one, hf]; rfl)
      have HUL : Hid (U.length ≤ 100000) := Lib.hid (by rw [HU.out, List.length_take]; omega)
      have HSZ := Lib.hid HB.out.size
      have HV1 := Lib.hid (HV.out.below (fresh0 wr (.cells #[sV f.n] 9)))
      have HL1 := Lib.hid (lg_lone wr f)
      have HB1 := Lib.hid (HB.out.trans ((fresh0 wr (.cells #[sV f.n] 9)).mono HB.out.size))
      have HSZ1 : Hid (w.heap.size ≤ (wr.alloc (.cells #[sV f.n] 9)).heap.size) := Lib.hid HB1.out.size
      clear hf HU HV HB
      go_wp2_with (at_builtin; refine wpList_append_row (T := 9) (f := cN) cellsN (by decide) rfl _ _ 46 rfl w.heap.size i0 (.string ByteArray.empty) 16 Try.underlying46 hi0 hz0 hz1 hz2 rfl (N := U) (M := [f]) rfl rfl HV1.out HL1.out (by have := HUL.out; unfold maxLen; simp; omega) (by have := HUL.out; simp; omega) HSZ1.out ?_; intro B5 cap5 w5 hown5 hgrow hat; have HX5 := HX; generalize U ++ [f] = U5 at hown5 HX5 ⊢; have HV5 := Lib.hid hown5; have HB5 := Lib.hid (HB1.out.grown hgrow HSZ1.out (fun j e => (HV1.out.lt j e).1)); clear hown5 hgrow hat)
      go_roundw
      case rel => exact ⟨k + 1, _, _, _, by omega, by go_num, rfl, HX5, HV5, HB5⟩
      case measure => simp [intOf]; omega
    · have e : U = F := by rw [HU.out, List.take_of_length_le (by omega)]
      subst e
      clear HU
      go_wp2_with fail
      go_ret
      exact ⟨_, _, rfl, OwnG.lg cellsN HV.out, HB.out⟩
end Go.Proofs.Ytkfjgmfokpgcbaa.disk
set_option linter.unusedSimpArgs false
set_option linter.unusedVariables false
namespace Go.Proofs.Ytkfjgmfokpgcbaa.disk
open Go.ChangeShapes Go.WideShapes Go.ChangeAt Go.RowKit Go.Maps Go.WideMaps
open Go.Proofs.Ytkfjgmfokpgcbaa.words Go.Proofs.Ytkfjgmfokpgcbaa.opened Go.Proofs.Ytkfjgmfokpgcbaa.block Go.Proofs.Ytkfjgmfokpgcbaa.data Go.Proofs.Ytkfjgmfokpgcbaa.region

theorem ls_at {w : World} {A : Option Addr} {N : List Bs} (h : Lies w A (N.map sV)) {k : Nat} {x : Bs} (hk : N[k]? = some x) : ∃ b off, A = some ⟨b, off, none⟩ ∧ b < w.heap.size ∧ w.cell? ⟨b, off + k, none⟩ = some (sV x) := by
  rcases h with h | ⟨b, off, hA, hb, hc⟩
  · have : N = [] := by simpa using h
    subst this
    simp at hk
  · exact ⟨b, off, hA, hb, hc k (sV x) (by rw [List.getElem?_map, hk]; rfl)⟩
theorem ls_below {w w' : World} {A : Option Addr} {N : List Bs} (h : Lies w A (N.map sV)) (hb : Below w.heap.size w w') : Lies w' A (N.map sV) := by
  rcases h with h | ⟨b, off, hA, hbl, hc⟩
  · exact .inl h
  · exact .inr ⟨b, off, hA, Nat.lt_of_lt_of_le hbl hb.size, fun i x hx => (hb.cell (p := ⟨b, off + i, none⟩) hbl).trans (hc i x hx)⟩
set_option maxRecDepth 100000 in
theorem sameS_self (A B : Option Addr) (c d : Nat) (N : List Bs) (hN : N.length ≤ 100000) (w : World) (h1 : Lies w A (N.map sV)) (h2 : Lies w B (N.map sV)) :
    Calls Try.prog 40 #[.slice A N.length c, .slice B N.length d] w fun e w' => e = .returned (.bool true) ∧ Below w.heap.size w w' := by
  have H1 := Lib.hid h1
  have H2 := Lib.hid h2
  clear h1 h2
  go_enter Try.func40, Try.ntmps40
  go_wp2_with fail
  go_loopw [5] (fun s wr => ∃ k : Nat, k ≤ N.length ∧ s = .int .i64 k ∧ Hid (Below w.heap.size w wr)) (fun s _ => N.length - (intOf s).toNat)
  case atStart => exact ⟨0, Nat.zero_le _, rfl, Lib.hid (Below.refl _ _)⟩
  case round =>
    obtain ⟨k, hk, rfl, HB⟩ := hrel
    by_cases hlt : k < N.length
    · obtain ⟨x, hx⟩ : ∃ x, N[k]? = some x := ⟨_, List.getElem?_eq_getElem hlt⟩
      obtain ⟨b1, o1, rfl, hb1, c1⟩ := ls_at (ls_below H1.out HB.out) hx
      obtain ⟨b2, o2, rfl, hb2, c2⟩ := ls_at (ls_below H2.out HB.out) hx
      clear hx
      go_upto_region 6 with fail
      go_quiet (fail)
      go_wp2_with fail
      go_roundw
      case rel => exact ⟨k + 1, by omega, by go_num, Lib.hid (below_drewN HB.out _)⟩
      case measure => simp [intOf]; omega
    · go_wp2_with fail
      go_ret
      exact ⟨rfl, HB.out⟩
def RowS (N : List Bs) : Value → World → Prop := fun u w => ∃ B c, u = .slice B N.length c ∧ Lies w B (N.map sV)
theorem keeps_rowS (N : List Bs) : Keeps (RowS N) := fun _ _ _ hb ⟨B, c, h1, h2⟩ => ⟨B, c, h1, ls_below h2 hb⟩
set_option maxRecDepth 100000 in
set_option maxHeartbeats 4000000 in
theorem sameD_any {S1 S2 : Nat → Prop} {g1 g2 : Nat} {D : Dk} (G : GoodD D) (hF : D.F.length ≤ 1000) (w : World) (h1 : DiskP w S1 g1 D) (h2 : RefP w S2 g2 D) :
    Calls Try.prog 25 #[.pointer (some ⟨g1, 0, none⟩), .pointer (some ⟨g2, 0, none⟩)] w fun e w' => e = .returned (.bool true) ∧ Below w.heap.size w w' := by
  obtain ⟨N, hN⟩ : ∃ N, N = D.F.map Fl.n := ⟨_, rfl⟩
  have hNl : N.length = D.F.length := by rw [hN]; simp
  have HNM : Hid (∀ x ∈ N, x.length ≤ 100000) := Lib.hid (fun x hx => by
    rw [hN] at hx
    obtain ⟨f, hf, rfl⟩ := List.mem_map.1 hx
    have := G.names f hf
    unfold nameB at this
    simp at this
    omega)
  have HD := Lib.hid (fun W (b : Below w.heap.size w W) => h1.below b)
  have HR : Hid (∀ W, Below w.heap.size w W → RefP W S2 g2 D) := Lib.hid (fun W b => by
    obtain ⟨V, n, a, e1, e2⟩ := h2
    exact ⟨V, n, a.below b, e1, e2⟩)
  have NR : Hid (Calls Try.prog 39 #[.pointer (some ⟨g2, 0, none⟩)] w fun e w' => ∃ B c, e = .returned (.slice B N.length c) ∧ Lies w' B (N.map sV) ∧ Below w.heap.size w w') := Lib.hid ((namesR_any (by omega) w h2).mono fun e w' ⟨B, c, a1, a2, a3⟩ => ⟨B, c, by rw [hNl]; exact a1, by
    rw [hN, List.map_map]
    rcases a2 with a2 | ⟨b, off, hA, hb, hc⟩
    · exact .inl (by have : D.F = [] := by simpa using a2
                     rw [this]; rfl)
    · refine .inr ⟨b, off, hA, hb, fun i y hy => ?_⟩
      rw [List.getElem?_map] at hy
      obtain ⟨f, hf, rfl⟩ := Option.map_eq_some_iff.1 hy
      have := (hc i (cN f) (by rw [List.getElem?_map, hf]; rfl)).2 0 (by omega)
      simpa [cN] using this, a3⟩)
  have NM : Hid (∀ W, Below w.heap.size w W → Calls Try.prog 29 #[.pointer (some ⟨g1, 0, none⟩)] W fun e w' => ∃ A c, e = .returned (.slice A N.length c) ∧ Lies w' A (N.map sV) ∧ Below W.heap.size W w') := Lib.hid (fun W b => by
    obtain ⟨mb, E, e1, -⟩ := HD.out W b
    refine (names_any G hF W e1).mono fun e w' ⟨A, c, a1, a2, a3⟩ => ⟨A, c, by rw [hN]; exact a1, ?_, a3⟩
    have := OwnS.lies a2
    rw [hN]
    exact this)
  have DN : Hid (∀ W, Below w.heap.size w W → Calls Try.prog 28 #[.pointer (some ⟨g1, 0, none⟩)] W fun e w' => e = .returned (.bool D.off) ∧ Below W.heap.size W w') := Lib.hid (fun W b => by
    obtain ⟨mb, E, e1, -⟩ := HD.out W b
    exact (down_any W e1).mono fun e w' ⟨a, b⟩ => ⟨a, b ▸ Below.refl _ _⟩)
  have K3 : Hid (∀ W, Below w.heap.size w W → W.cell? ⟨g2, 3, none⟩ = some (.bool D.off)) := Lib.hid (fun W b => by
    obtain ⟨V, n, a, -, -⟩ := HR.out W b
    exact a.cells.read 3)
  have RP : Hid (∀ x ∈ N, ∀ W, Below w.heap.size w W → Calls Try.prog 21 #[.pointer (some ⟨g1, 0, none⟩), sV x] W fun e w' => e = .returned (.tuple #[sV (readV D x), .int .i64 (readE D x)]) ∧ Below W.heap.size W w') := Lib.hid (fun x hx W b => by
    obtain ⟨mb, E, e1, -⟩ := HD.out W b
    exact read_any x (HNM.out x hx) W e1)
  have LP0 : Hid (∀ x ∈ N, ∀ W, Below w.heap.size w W → Calls Try.prog 23 #[.pointer (some ⟨g1, 0, none⟩), sV x] W fun e w' => e = .returned (.int .i64 (oldL D.F x : Int)) ∧ Below W.heap.size W w') := Lib.hid (fun x hx W b => by
    obtain ⟨mb, E, e1, -⟩ := HD.out W b
    exact (lasts_any x (HNM.out x hx) W e1).mono fun e w' ⟨a, b⟩ => ⟨a, b ▸ Below.refl _ _⟩)
  have RR : Hid (∀ x, ∀ W, Below w.heap.size w W → Calls Try.prog 22 #[.pointer (some ⟨g2, 0, none⟩), sV x] W fun e w' => e = .returned (.tuple #[sV (readV D x), .int .i64 (readE D x)]) ∧ W = w') := Lib.hid (fun x W b => by
    obtain ⟨V, n, a, -, -⟩ := HR.out W b
    exact readR_any (by omega) x W a)
  have LR0 : Hid (∀ x, ∀ W, Below w.heap.size w W → Calls Try.prog 24 #[.pointer (some ⟨g2, 0, none⟩), sV x] W fun e w' => e = .returned (.int .i64 (oldL D.F x : Int)) ∧ Below W.heap.size W w') := Lib.hid (fun x W b => by
    obtain ⟨V, n, a, -, -⟩ := HR.out W b
    exact (lastsR_any (by omega) x W a).mono fun e w' ⟨a, b⟩ => ⟨a, b ▸ Below.refl _ _⟩)
  have SM := Lib.hid (fun A B c d W h k => sameS_self A B c d N (by omega) W h k)
  have HNL : Hid (N.length ≤ 1000) := Lib.hid (by omega)
  clear h1 h2 hN hNl HD HR
  go_enter Try.func25, Try.ntmps25
  go_upto_region 2 with (go_at_call 39; refine NR.out.mono ?_; rintro e w1 ⟨B, cB, rfl, hl, b1⟩; have HLB := Lib.hid hl; have B1 := Lib.hid b1; clear hl b1)
  clear NR
  have up := B1.out
  replace NM := Lib.hid (fun W b => NM.out W (up.trans (Below.mono b up.size)))
  replace DN := Lib.hid (fun W b => DN.out W (up.trans (Below.mono b up.size)))
  replace K3 := Lib.hid (fun W b => K3.out W (up.trans (Below.mono b up.size)))
  replace RP := Lib.hid (fun x hx W b => RP.out x hx W (up.trans (Below.mono b up.size)))
  replace LP0 := Lib.hid (fun x hx W b => LP0.out x hx W (up.trans (Below.mono b up.size)))
  replace RR := Lib.hid (fun x W b => RR.out x W (up.trans (Below.mono b up.size)))
  replace LR0 := Lib.hid (fun x W b => LR0.out x W (up.trans (Below.mono b up.size)))
  clear up
  refine region_fullZ 74 [] [] [] (fun _ => false) (fun w7 => Below w1.heap.size w1 w7) ?hR ?r0 [pdOne 0 (Is (.pointer (some ⟨g1, 0, none⟩))), pdOne 1 (RowS N), pdOne 2 (Is (.slice B N.length cB)), pdOne 3 (Is (.bool true)), pdOne 4 (Is (.bool false)), pdOne 5 (Is (.bool false)), pdOne 6 (Is (.pointer (some ⟨g1, 0, none⟩))), pdOne 7 (Is (.bool D.off)), pdOne 8 (Is (.pointer (some ⟨g2, 0, none⟩))), pdOne 9 (Is (.pointer (some ⟨g2, 0, none⟩))), pdOne 10 (Is (.pointer (some ⟨g2, 3, none⟩))), pdOne 11 (Is (.bool D.off)), pdOne 12 (Is (.bool false)), pdOne 13 (Is (.bool false))] (fun _ _ => True) (by kernel_rfl) rfl (by kernel_rfl) (by kernel_rfl) (by kernel_rfl) (by kernel_rfl) (by kernel_rfl) ?keep ?hO ?h0 ?tell
  case hR => exact fun wa wb hb h => h.trans (hb.mono h.size)
  case r0 => exact Below.refl _ _
  case keep => exact ⟨keep_one (keeps_is _), keep_one (keeps_rowS _), keep_one (keeps_is _), keep_one (keeps_is _), keep_one (keeps_is _), keep_one (keeps_is _), keep_one (keeps_is _), keep_one (keeps_is _), keep_one (keeps_is _), keep_one (keeps_is _), keep_one (keeps_is _), keep_one (keeps_is _), keep_one (keeps_is _), keep_one (keeps_is _), trivial⟩
  case hO => exact fun _ _ _ _ h => h
  case h0 => exact fun _ _ => trivial
  case tell =>
    intro fin hfin
    simp [lexPut, Act.put] at hfin
    simp only [TellZ]
    refine ⟨⟨?_, ?_, ?_, ?_, ?_, ?_, ?_, ?_, ?_, ?_, ?_, ?_, ?_, ?_, trivial⟩, ?_⟩
    · intro v2 w7 hr hd
      refine ⟨by intro j b e; simp at e, ?_⟩
      refine yields_run (u := .pointer (some ⟨g1, 0, none⟩)) (w' := w7) ?_ (Below.refl _ _) rfl
      unfold execOp
      simp [go_sem, Act.eval, Act.put]
    · intro v2 w7 hr hd
      refine ⟨by intro j b e; simp at e, ?_⟩
      have h0 : v2 0 = _ := hd 0 (by kernel_rfl)
      refine yields_call (f := 29) rfl (vs := #[.pointer (some ⟨g1, 0, none⟩)]) (by simp [Act.eval, Act.put, h0]) rfl Try.func29 (by kernel_rfl) (by kernel_rfl) ?_
      exact (NM.out w7 hr).mono fun e w' ⟨A9, c9, he, hl9, hb'⟩ => ⟨_, he, hb', A9, c9, rfl, hl9⟩
    · intro v2 w7 hr hd
      refine ⟨by intro j b e; simp at e, ?_⟩
      refine yields_run (u := .slice B N.length cB) (w' := w7) ?_ (Below.refl _ _) rfl
      unfold execOp
      simp [go_sem, Act.eval, Act.put]
    · intro v2 w7 hr hd
      refine ⟨by intro j b e; simp at e, ?_⟩
      obtain ⟨A1, c1, h1, l1⟩ : RowS N (v2 1) w7 := hd 1 (by kernel_rfl)
      have h2 : v2 2 = _ := hd 2 (by kernel_rfl)
      refine yields_call (f := 40) rfl (vs := #[.slice A1 N.length c1, .slice B N.length cB]) (by simp [Act.eval, Act.put, h1, h2]) rfl Try.func40 (by kernel_rfl) (by kernel_rfl) ?_
      exact (SM.out A1 B c1 cB w7 l1 (ls_below HLB.out hr)).mono fun e w' ⟨he, hb'⟩ => ⟨_, he, hb', rfl⟩
    · intro v2 w7 hr hd
      refine ⟨by intro j b e; simp at e, ?_⟩
      have h3 : v2 3 = _ := hd 3 (by kernel_rfl)
      refine yields_run (u := .bool false) (w' := w7) ?_ (Below.refl _ _) rfl
      unfold execOp
      simp [go_sem, Act.eval, Act.put, h3]
    · intro v2 w7 hr hd
      refine ⟨by intro j b e; simp at e, ?_⟩
      have h4 : v2 4 = _ := hd 4 (by kernel_rfl)
      refine yields_run (u := .bool false) (w' := w7) ?_ (Below.refl _ _) rfl
      unfold execOp
      simp [go_sem, Act.eval, Act.put, h4]
    · intro v2 w7 hr hd
      refine ⟨(by
        intro j b e
        simp only [Option.some.injEq, Prod.mk.injEq] at e
        obtain ⟨rfl, rfl⟩ := e
        exact hd 5 (by kernel_rfl)), ?_⟩
      refine yields_run (u := .pointer (some ⟨g1, 0, none⟩)) (w' := w7) ?_ (Below.refl _ _) rfl
      unfold execOp
      simp [go_sem, Act.eval, Act.put]
    · intro v2 w7 hr hd
      refine ⟨(by
        intro j b e
        simp only [Option.some.injEq, Prod.mk.injEq] at e
        obtain ⟨rfl, rfl⟩ := e
        exact hd 5 (by kernel_rfl)), ?_⟩
      have h6 : v2 6 = _ := hd 6 (by kernel_rfl)
      refine yields_call (f := 28) rfl (vs := #[.pointer (some ⟨g1, 0, none⟩)]) (by simp [Act.eval, Act.put, h6]) rfl Try.func28 (by kernel_rfl) (by kernel_rfl) ?_
      exact (DN.out w7 hr).mono fun e w' ⟨he, hb'⟩ => ⟨_, he, hb', rfl⟩
    · intro v2 w7 hr hd
      refine ⟨(by
        intro j b e
        simp only [Option.some.injEq, Prod.mk.injEq] at e
        obtain ⟨rfl, rfl⟩ := e
        exact hd 5 (by kernel_rfl)), ?_⟩
      refine yields_run (u := .pointer (some ⟨g2, 0, none⟩)) (w' := w7) ?_ (Below.refl _ _) rfl
      unfold execOp
      simp [go_sem, Act.eval, Act.put]
    · intro v2 w7 hr hd
      refine ⟨(by
        intro j b e
        simp only [Option.some.injEq, Prod.mk.injEq] at e
        obtain ⟨rfl, rfl⟩ := e
        exact hd 5 (by kernel_rfl)), ?_⟩
      have h8 : v2 8 = _ := hd 8 (by kernel_rfl)
      refine yields_run (u := .pointer (some ⟨g2, 0, none⟩)) (w' := w7) ?_ (Below.refl _ _) rfl
      unfold execOp
      simp [go_sem, Act.eval, Act.put, h8]
    · intro v2 w7 hr hd
      refine ⟨(by
        intro j b e
        simp only [Option.some.injEq, Prod.mk.injEq] at e
        obtain ⟨rfl, rfl⟩ := e
        exact hd 5 (by kernel_rfl)), ?_⟩
      have h9 : v2 9 = _ := hd 9 (by kernel_rfl)
      refine yields_run (u := .pointer (some ⟨g2, 3, none⟩)) (w' := w7) ?_ (Below.refl _ _) rfl
      unfold execOp
      simp [go_sem, Act.eval, Act.put, h9]
    · intro v2 w7 hr hd
      refine ⟨(by
        intro j b e
        simp only [Option.some.injEq, Prod.mk.injEq] at e
        obtain ⟨rfl, rfl⟩ := e
        exact hd 5 (by kernel_rfl)), ?_⟩
      have h10 : v2 10 = _ := hd 10 (by kernel_rfl)
      have hc := K3.out w7 hr
      refine yields_run (u := .bool D.off) (w' := w7) ?_ (Below.refl _ _) rfl
      unfold execOp
      simp [go_sem, Act.eval, Act.put, h10, hc]
    · intro v2 w7 hr hd
      refine ⟨(by
        intro j b e
        simp only [Option.some.injEq, Prod.mk.injEq] at e
        obtain ⟨rfl, rfl⟩ := e
        exact hd 5 (by kernel_rfl)), ?_⟩
      have h7 : v2 7 = _ := hd 7 (by kernel_rfl)
      have h11 : v2 11 = _ := hd 11 (by kernel_rfl)
      refine yields_run (u := .bool false) (w' := w7) ?_ (Below.refl _ _) rfl
      unfold execOp
      simp [go_sem, Act.eval, Act.put, h7, h11]
    · intro v2 w7 hr hd
      refine ⟨by intro j b e; simp at e, ?_⟩
      have h5 : v2 5 = _ := hd 5 (by kernel_rfl)
      have h12 : v2 12 = _ := hd 12 (by kernel_rfl)
      refine yields_run (u := .bool false) (w' := w7) ?_ (Below.refl _ _) rfl
      unfold execOp
      simp [go_sem, Act.eval, Act.put, h5, h12]
    · intro v w7 hr hv
      have hl : v 13 = .bool false := hv 13 (by decide) (by kernel_rfl)
      have R7 := Lib.hid hr
      rw [hfin]
      clear hfin hv hr
      generalize v 13 = vl at hl ⊢
      subst hl
      go_wp2_with fail
      go_loopw [6] (fun s wr => ∃ k : Nat, k ≤ N.length ∧ s = .int .i64 k ∧ Hid (Below w1.heap.size w1 wr)) (fun s _ => N.length - (intOf s).toNat)
      case atStart => exact ⟨0, Nat.zero_le _, rfl, R7⟩
      case round =>
        rename World => w2
        obtain ⟨k, hk, rfl, HB⟩ := hrel
        have hNL := HNL.out
        by_cases hlt : k < N.length
        · obtain ⟨x, hx⟩ : ∃ x, N[k]? = some x := ⟨_, List.getElem?_eq_getElem hlt⟩
          have hxm := List.mem_of_getElem? hx
          obtain ⟨b, o, rfl, hb, -⟩ := ls_at HLB.out hx
          have KX0 : Hid (∀ W, Below w1.heap.size w1 W → W.cell? ⟨b, o + k, none⟩ = some (sV x)) := Lib.hid (fun W b1 => by
            obtain ⟨b', o', e, -, c0⟩ := ls_at (ls_below HLB.out b1) hx
            injection (Option.some.inj e) with e1 e2
            rw [e1, e2]; exact c0)
          have cx := KX0.out w2 HB.out
          have RP1 := Lib.hid (RP.out x hxm w2 HB.out)
          have RR1 := Lib.hid (fun W b => RR.out x W b)
          have hkl : (k : Int) < (N.length : Int) := by omega
          clear hx
          go_upto_region 8 with (go_at_call 21; refine RP1.out.mono ?_; rintro e w3 ⟨rfl, b3⟩; have B3 := Lib.hid (HB.out.trans (b3.mono HB.out.size)); clear b3)
          have cx3 := KX0.out w3 B3.out
          clear cx
          go_upto_region 9 with (go_at_call 22; refine (RR1.out _ B3.out).mono ?_; rintro e w4 ⟨rfl, rfl⟩)
          have KX := Lib.hid (fun W (b : Below w3.heap.size w3 W) => KX0.out W (B3.out.trans (b.mono B3.out.size)))
          have LP := Lib.hid (fun W (b : Below w3.heap.size w3 W) => LP0.out x hxm W (B3.out.trans (b.mono B3.out.size)))
          have LR := Lib.hid (fun W (b : Below w3.heap.size w3 W) => LR0.out x W (B3.out.trans (b.mono B3.out.size)))
          clear cx3 RP1 RR1
          refine region_fullZ 74 [] [] [] (fun _ => false) (fun w7 => Below w3.heap.size w3 w7) ?hR ?r0 [pdOne 0 (Is (sV (readV D x))), pdOne 1 (Is (sV (readV D x))), pdOne 2 (Is (.bool false)), pdOne 3 (Is (.bool false)), pdOne 4 (Is (.int .i64 (readE D x))), pdOne 5 (Is (.int .i64 (readE D x))), pdOne 6 (Is (.bool false)), pdOne 7 (Is (.bool false)), pdOne 8 (Is (.bool false)), pdOne 9 (Is (.pointer (some ⟨g1, 0, none⟩))), pdOne 10 (Is (.slice (some ⟨b, o, none⟩) N.length cB)), pdOne 11 (Is (.int .i64 (k : Int))), pdOne 12 (Is (.pointer (some ⟨b, o + k, none⟩))), pdOne 13 (Is (sV x)), pdOne 14 (Is (.int .i64 (oldL D.F x : Int))), pdOne 15 (Is (.pointer (some ⟨g2, 0, none⟩))), pdOne 16 (Is (.slice (some ⟨b, o, none⟩) N.length cB)), pdOne 17 (Is (.int .i64 (k : Int))), pdOne 18 (Is (.pointer (some ⟨b, o + k, none⟩))), pdOne 19 (Is (sV x)), pdOne 20 (Is (.int .i64 (oldL D.F x : Int))), pdOne 21 (Is (.bool false)), pdOne 22 (Is (.bool false))] (fun _ _ => True) (by kernel_rfl) rfl (by kernel_rfl) (by kernel_rfl) (by kernel_rfl) (by kernel_rfl) (by kernel_rfl) ?keep ?hO ?h0 ?tell
          case hR => exact fun wa wb hb h => h.trans (hb.mono h.size)
          case r0 => exact Below.refl _ _
          case keep => exact ⟨keep_one (keeps_is _), keep_one (keeps_is _), keep_one (keeps_is _), keep_one (keeps_is _), keep_one (keeps_is _), keep_one (keeps_is _), keep_one (keeps_is _), keep_one (keeps_is _), keep_one (keeps_is _), keep_one (keeps_is _), keep_one (keeps_is _), keep_one (keeps_is _), keep_one (keeps_is _), keep_one (keeps_is _), keep_one (keeps_is _), keep_one (keeps_is _), keep_one (keeps_is _), keep_one (keeps_is _), keep_one (keeps_is _), keep_one (keeps_is _), keep_one (keeps_is _), keep_one (keeps_is _), keep_one (keeps_is _), trivial⟩
          case hO => exact fun _ _ _ _ h => h
          case h0 => exact fun _ _ => trivial
          case tell =>
            intro fin hfin
            simp [lexPut, Act.put] at hfin
            simp only [TellZ]
            refine ⟨⟨?_, ?_, ?_, ?_, ?_, ?_, ?_, ?_, ?_, ?_, ?_, ?_, ?_, ?_, ?_, ?_, ?_, ?_, ?_, ?_, ?_, ?_, ?_, trivial⟩, ?_⟩
            · intro v2 w7 hr hd
              refine ⟨by intro j b e; simp at e, ?_⟩
              refine yields_run (u := sV (readV D x)) (w' := w7) ?_ (Below.refl _ _) rfl
              unfold execOp
              simp [go_sem, Act.eval, Act.put]
            · intro v2 w7 hr hd
              refine ⟨by intro j b e; simp at e, ?_⟩
              refine yields_run (u := sV (readV D x)) (w' := w7) ?_ (Below.refl _ _) rfl
              unfold execOp
              simp [go_sem, Act.eval, Act.put]
            · intro v2 w7 hr hd
              refine ⟨by intro j b e; simp at e, ?_⟩
              have h0 : v2 0 = _ := hd 0 (by kernel_rfl)
              have h1 : v2 1 = _ := hd 1 (by kernel_rfl)
              refine yields_run (u := .bool false) (w' := w7) ?_ (Below.refl _ _) rfl
              unfold execOp
              simp [go_sem, Act.eval, Act.put, h0, h1]
            · intro v2 w7 hr hd
              refine ⟨by intro j b e; simp at e, ?_⟩
              have h2 : v2 2 = _ := hd 2 (by kernel_rfl)
              refine yields_run (u := .bool false) (w' := w7) ?_ (Below.refl _ _) rfl
              unfold execOp
              simp [go_sem, Act.eval, Act.put, h2]
            · intro v2 w7 hr hd
              refine ⟨(by
                intro j b e
                simp only [Option.some.injEq, Prod.mk.injEq] at e
                obtain ⟨rfl, rfl⟩ := e
                exact hd 3 (by kernel_rfl)), ?_⟩
              refine yields_run (u := .int .i64 (readE D x)) (w' := w7) ?_ (Below.refl _ _) rfl
              unfold execOp
              simp [go_sem, Act.eval, Act.put]
            · intro v2 w7 hr hd
              refine ⟨(by
                intro j b e
                simp only [Option.some.injEq, Prod.mk.injEq] at e
                obtain ⟨rfl, rfl⟩ := e
                exact hd 3 (by kernel_rfl)), ?_⟩
              refine yields_run (u := .int .i64 (readE D x)) (w' := w7) ?_ (Below.refl _ _) rfl
              unfold execOp
              simp [go_sem, Act.eval, Act.put]
            · intro v2 w7 hr hd
              refine ⟨(by
                intro j b e
                simp only [Option.some.injEq, Prod.mk.injEq] at e
                obtain ⟨rfl, rfl⟩ := e
                exact hd 3 (by kernel_rfl)), ?_⟩
              have h4 : v2 4 = _ := hd 4 (by kernel_rfl)
              have h5 : v2 5 = _ := hd 5 (by kernel_rfl)
              refine yields_run (u := .bool false) (w' := w7) ?_ (Below.refl _ _) rfl
              unfold execOp
              simp [go_sem, Act.eval, Act.put, h4, h5]
            · intro v2 w7 hr hd
              refine ⟨by intro j b e; simp at e, ?_⟩
              have h3 : v2 3 = _ := hd 3 (by kernel_rfl)
              have h6 : v2 6 = _ := hd 6 (by kernel_rfl)
              refine yields_run (u := .bool false) (w' := w7) ?_ (Below.refl _ _) rfl
              unfold execOp
              simp [go_sem, Act.eval, Act.put, h3, h6]
            · intro v2 w7 hr hd
              refine ⟨by intro j b e; simp at e, ?_⟩
              have h7 : v2 7 = _ := hd 7 (by kernel_rfl)
              refine yields_run (u := .bool false) (w' := w7) ?_ (Below.refl _ _) rfl
              unfold execOp
              simp [go_sem, Act.eval, Act.put, h7]
            · intro v2 w7 hr hd
              refine ⟨(by
                intro j b e
                simp only [Option.some.injEq, Prod.mk.injEq] at e
                obtain ⟨rfl, rfl⟩ := e
                exact hd 8 (by kernel_rfl)), ?_⟩
              refine yields_run (u := .pointer (some ⟨g1, 0, none⟩)) (w' := w7) ?_ (Below.refl _ _) rfl
              unfold execOp
              simp [go_sem, Act.eval, Act.put]
            · intro v2 w7 hr hd
              refine ⟨(by
                intro j b e
                simp only [Option.some.injEq, Prod.mk.injEq] at e
                obtain ⟨rfl, rfl⟩ := e
                exact hd 8 (by kernel_rfl)), ?_⟩
              refine yields_run (u := .slice (some ⟨b, o, none⟩) N.length cB) (w' := w7) ?_ (Below.refl _ _) rfl
              unfold execOp
              simp [go_sem, Act.eval, Act.put]
            · intro v2 w7 hr hd
              refine ⟨(by
                intro j b e
                simp only [Option.some.injEq, Prod.mk.injEq] at e
                obtain ⟨rfl, rfl⟩ := e
                exact hd 8 (by kernel_rfl)), ?_⟩
              refine yields_run (u := .int .i64 (k : Int)) (w' := w7) ?_ (Below.refl _ _) rfl
              unfold execOp
              simp [go_sem, Act.eval, Act.put]
            · intro v2 w7 hr hd
              refine ⟨(by
                intro j b e
                simp only [Option.some.injEq, Prod.mk.injEq] at e
                obtain ⟨rfl, rfl⟩ := e
                exact hd 8 (by kernel_rfl)), ?_⟩
              have h10 : v2 10 = _ := hd 10 (by kernel_rfl)
              have h11 : v2 11 = _ := hd 11 (by kernel_rfl)
              refine yields_run (u := .pointer (some ⟨b, o + k, none⟩)) (w' := w7) ?_ (Below.refl _ _) rfl
              unfold execOp
              simp [go_sem, Act.eval, Act.put, h10, h11, hkl]
            · intro v2 w7 hr hd
              refine ⟨(by
                intro j b e
                simp only [Option.some.injEq, Prod.mk.injEq] at e
                obtain ⟨rfl, rfl⟩ := e
                exact hd 8 (by kernel_rfl)), ?_⟩
              have h12 : v2 12 = _ := hd 12 (by kernel_rfl)
              have hc := KX.out w7 hr
              refine yields_run (u := sV x) (w' := w7) ?_ (Below.refl _ _) rfl
              unfold execOp
              simp [go_sem, Act.eval, Act.put, h12, hc]
            · intro v2 w7 hr hd
              refine ⟨(by
                intro j b e
                simp only [Option.some.injEq, Prod.mk.injEq] at e
                obtain ⟨rfl, rfl⟩ := e
                exact hd 8 (by kernel_rfl)), ?_⟩
              have h9 : v2 9 = _ := hd 9 (by kernel_rfl)
              have h13 : v2 13 = _ := hd 13 (by kernel_rfl)
              refine yields_call (f := 23) rfl (vs := #[.pointer (some ⟨g1, 0, none⟩), sV x]) (by simp [Act.eval, Act.put, h9, h13]) rfl Try.func23 (by kernel_rfl) (by kernel_rfl) ?_
              exact (LP.out w7 hr).mono fun e w' ⟨he, hb'⟩ => ⟨_, he, hb', rfl⟩
            · intro v2 w7 hr hd
              refine ⟨(by
                intro j b e
                simp only [Option.some.injEq, Prod.mk.injEq] at e
                obtain ⟨rfl, rfl⟩ := e
                exact hd 8 (by kernel_rfl)), ?_⟩
              refine yields_run (u := .pointer (some ⟨g2, 0, none⟩)) (w' := w7) ?_ (Below.refl _ _) rfl
              unfold execOp
              simp [go_sem, Act.eval, Act.put]
            · intro v2 w7 hr hd
              refine ⟨(by
                intro j b e
                simp only [Option.some.injEq, Prod.mk.injEq] at e
                obtain ⟨rfl, rfl⟩ := e
                exact hd 8 (by kernel_rfl)), ?_⟩
              refine yields_run (u := .slice (some ⟨b, o, none⟩) N.length cB) (w' := w7) ?_ (Below.refl _ _) rfl
              unfold execOp
              simp [go_sem, Act.eval, Act.put]
            · intro v2 w7 hr hd
              refine ⟨(by
                intro j b e
                simp only [Option.some.injEq, Prod.mk.injEq] at e
                obtain ⟨rfl, rfl⟩ := e
                exact hd 8 (by kernel_rfl)), ?_⟩
              refine yields_run (u := .int .i64 (k : Int)) (w' := w7) ?_ (Below.refl _ _) rfl
              unfold execOp
              simp [go_sem, Act.eval, Act.put]
            · intro v2 w7 hr hd
              refine ⟨(by
                intro j b e
                simp only [Option.some.injEq, Prod.mk.injEq] at e
                obtain ⟨rfl, rfl⟩ := e
                exact hd 8 (by kernel_rfl)), ?_⟩
              have h16 : v2 16 = _ := hd 16 (by kernel_rfl)
              have h17 : v2 17 = _ := hd 17 (by kernel_rfl)
              refine yields_run (u := .pointer (some ⟨b, o + k, none⟩)) (w' := w7) ?_ (Below.refl _ _) rfl
              unfold execOp
              simp [go_sem, Act.eval, Act.put, h16, h17, hkl]
            · intro v2 w7 hr hd
              refine ⟨(by
                intro j b e
                simp only [Option.some.injEq, Prod.mk.injEq] at e
                obtain ⟨rfl, rfl⟩ := e
                exact hd 8 (by kernel_rfl)), ?_⟩
              have h18 : v2 18 = _ := hd 18 (by kernel_rfl)
              have hc := KX.out w7 hr
              refine yields_run (u := sV x) (w' := w7) ?_ (Below.refl _ _) rfl
              unfold execOp
              simp [go_sem, Act.eval, Act.put, h18, hc]
            · intro v2 w7 hr hd
              refine ⟨(by
                intro j b e
                simp only [Option.some.injEq, Prod.mk.injEq] at e
                obtain ⟨rfl, rfl⟩ := e
                exact hd 8 (by kernel_rfl)), ?_⟩
              have h15 : v2 15 = _ := hd 15 (by kernel_rfl)
              have h19 : v2 19 = _ := hd 19 (by kernel_rfl)
              refine yields_call (f := 24) rfl (vs := #[.pointer (some ⟨g2, 0, none⟩), sV x]) (by simp [Act.eval, Act.put, h15, h19]) rfl Try.func24 (by kernel_rfl) (by kernel_rfl) ?_
              exact (LR.out w7 hr).mono fun e w' ⟨he, hb'⟩ => ⟨_, he, hb', rfl⟩
            · intro v2 w7 hr hd
              refine ⟨(by
                intro j b e
                simp only [Option.some.injEq, Prod.mk.injEq] at e
                obtain ⟨rfl, rfl⟩ := e
                exact hd 8 (by kernel_rfl)), ?_⟩
              have h14 : v2 14 = _ := hd 14 (by kernel_rfl)
              have h20 : v2 20 = _ := hd 20 (by kernel_rfl)
              refine yields_run (u := .bool false) (w' := w7) ?_ (Below.refl _ _) rfl
              unfold execOp
              simp [go_sem, Act.eval, Act.put, h14, h20]
            · intro v2 w7 hr hd
              refine ⟨by intro j b e; simp at e, ?_⟩
              have h8 : v2 8 = _ := hd 8 (by kernel_rfl)
              have h21 : v2 21 = _ := hd 21 (by kernel_rfl)
              refine yields_run (u := .bool false) (w' := w7) ?_ (Below.refl _ _) rfl
              unfold execOp
              simp [go_sem, Act.eval, Act.put, h8, h21]
            · intro v w7 hr hv
              have hl : v 22 = .bool false := hv 22 (by decide) (by kernel_rfl)
              have R7 := Lib.hid hr
              rw [hfin]
              clear hfin hv hr
              generalize v 22 = vl at hl ⊢
              subst hl
              go_wp2_with fail
              go_roundw
              case rel => exact ⟨k + 1, by omega, by go_num, Lib.hid (B3.out.trans (R7.out.mono B3.out.size))⟩
              case measure => simp [intOf]; omega
        · go_wp2_with fail
          go_ret
          exact ⟨rfl, B1.out.trans (HB.out.mono B1.out.size)⟩
end Go.Proofs.Ytkfjgmfokpgcbaa.disk
