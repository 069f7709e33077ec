/-
  The document's disk: the contracts of Arm, step, Read, Lasts, Copy.
  The document's disk: a cell of a file is set; Sync, Names.
-/
import Derived.Test.YtkfjgmfokpgcbaaJKc
import Derived.StillTailTactics
import Derived.Deep.CutBlock
set_option linter.unusedSimpArgs false
set_option linter.unusedVariables false
namespace Go.Proofs.Ytkfjgmfokpgcbaa.disk
open Go.ChangeShapes Go.WideShapes Go.ChangeAt Go.RowKit
open Go.Proofs.Ytkfjgmfokpgcbaa.words Go.Proofs.Ytkfjgmfokpgcbaa.opened Go.Proofs.Ytkfjgmfokpgcbaa.block Go.Proofs.Ytkfjgmfokpgcbaa.data

theorem RefE.write {w w' : World} {g : Nat} {D : Dk} {V : Value} {n : Int} (h : RefE w g D V n) (D' : Dk) (hF : D'.F = D.F) (n' : Int) (hc : Whole w' g 28 #[V, .bool (decide (0 ≤ D'.left)), .int .i64 n', .bool D'.off])
    (hl : 0 ≤ D'.left → n' = D'.left) (hg : w.grownBy w' (some g)) : RefE w' g D' V n' :=
  ⟨hc, hl, by rw [hF]; exact h.own.past hg (fun k e he => h.far (by rw [← he, ← e])), h.far⟩
theorem grown0 (w : World) (g : Nat) : w.grownBy w (some g) := ⟨rfl, rfl, rfl, Nat.le_refl _, fun _ _ _ => rfl⟩
theorem stepR_any {g : Nat} {D : Dk} {V : Value} {n : Int} (h1 : D.left ≤ 9223372036854775807) (w : World) (h : RefE w g D V n) :
    Calls Try.prog 34 #[.pointer (some ⟨g, 0, none⟩)] w fun e w' => e = .returned (.int .i64 (stpE D)) ∧ (∃ n', RefE w' g (stpV D) V n') ∧ w.grownBy w' (some g) ∧ w'.heap.size = w.heap.size := by
  have c1 : w.cell? ⟨g, 1, none⟩ = some (.bool (decide (0 ≤ D.left))) := h.cells.read 1
  have c2 : w.cell? ⟨g, 2, none⟩ = some (.int .i64 n) := h.cells.read 2
  have f2 : w.frozen? ⟨g, 2, none⟩ = false := h.cells.soft 2
  have f3 : w.frozen? ⟨g, 3, none⟩ = false := h.cells.soft 3
  have c3 : w.cell? ⟨g, 3, none⟩ = some (.bool D.off) := h.cells.read 3
  have hs2 := h.cells.store 2 (.int .i64 (D.left - 1))
  have hs3 := h.cells.store 3 (.bool true)
  by_cases z : D.left = 0
  · have hn : n = 0 := by rw [h.left (by omega)]; exact z
    have HV : Hid (∃ n', RefE (w.setCell ⟨g, 3, none⟩ (.bool true)) g (stpV D) V n') := Lib.hid (by
      unfold stpV
      rw [if_pos z]
      exact ⟨n, h.write { D with off := true } rfl n (by simpa using hs3) h.left (only_store (grown0 w g) _)⟩)
    have HG : Hid (w.grownBy (w.setCell ⟨g, 3, none⟩ (.bool true)) (some g)) := Lib.hid (only_store (grown0 w g) _)
    have HE : Hid (stpE D = 14) := Lib.hid (by unfold stpE; rw [if_pos z])
    rw [z, decide_eq_true (by omega)] at c1
    subst hn
    generalize stpE D = k at HE ⊢
    generalize stpV D = D' at HV ⊢
    obtain rfl : k = 14 := HE.out
    clear h hs2 hs3 z h1 HE
    go_enter Try.func34, Try.ntmps34
    go_wp2_with fail
    go_ret
    exact ⟨rfl, HV.out, HG.out, by simp [World.setCell]⟩
  · by_cases p : 0 < D.left
    · have hn : n = D.left := h.left (by omega)
      have HV : Hid (∃ n', RefE (w.setCell ⟨g, 2, none⟩ (.int .i64 (D.left - 1))) g (stpV D) V n') := Lib.hid (by
        unfold stpV
        rw [if_neg z, if_pos p]
        rw [decide_eq_true (by omega)] at hs2
        exact ⟨D.left - 1, h.write { D with left := D.left - 1 } rfl (D.left - 1) (by show Whole _ _ _ #[V, .bool (decide (0 ≤ D.left - 1)), _, _]; rw [decide_eq_true (by omega)]; simpa using hs2) (fun _ => rfl) (only_store (grown0 w g) _)⟩)
      have HG : Hid (w.grownBy (w.setCell ⟨g, 2, none⟩ (.int .i64 (D.left - 1))) (some g)) := Lib.hid (only_store (grown0 w g) _)
      have HE : Hid (stpE D = 0) := Lib.hid (by unfold stpE; rw [if_neg z])
      rw [decide_eq_true (by omega)] at c1
      subst hn
      generalize stpE D = k at HE ⊢
      generalize stpV D = D' at HV ⊢
      obtain rfl : k = 0 := HE.out
      clear h hs2 hs3 z HE
      generalize D.left = lf at c2 p h1 HV HG
      have hz : (lf == 0) = false := by simp; omega
      have hw : IntKind.i64.wrap (lf - 1) = lf - 1 := by rw [IntKind.wrap_i64]; omega
      go_enter Try.func34, Try.ntmps34
      go_wp2_with fail
      go_ret
      exact ⟨rfl, HV.out, HG.out, by simp [World.setCell]⟩
    · have HV : Hid (∃ n', RefE w g (stpV D) V n') := Lib.hid (by
        unfold stpV
        rw [if_neg z, if_neg p]
        exact ⟨n, h⟩)
      have HE : Hid (stpE D = 0) := Lib.hid (by unfold stpE; rw [if_neg z])
      rw [decide_eq_false (by omega)] at c1
      generalize stpE D = k at HE ⊢
      generalize stpV D = D' at HV ⊢
      obtain rfl : k = 0 := HE.out
      clear h hs2 hs3 z h1 HE
      go_enter Try.func34, Try.ntmps34
      go_wp2_with fail
      go_ret
      exact ⟨rfl, HV.out, grown0 _ _, rfl⟩
theorem armR_any {g : Nat} {D : Dk} {V : Value} {n : Int} (m : Int) (w : World) (h : RefE w g D V n) :
    Calls Try.prog 16 #[.pointer (some ⟨g, 0, none⟩), .int .i64 m] w fun e w' => e = .returned (.tuple #[]) ∧ RefE w' g (armV D m) V m ∧ w.grownBy w' (some g) ∧ w'.heap.size = w.heap.size := by
  have f1 : w.frozen? ⟨g, 1, none⟩ = false := h.cells.soft 1
  have f2 : w.frozen? ⟨g, 2, none⟩ = false := h.cells.soft 2
  have hs := (h.cells.store 1 (.bool (decide (0 ≤ m)))).store 2 (.int .i64 m)
  have HV : Hid (RefE ((w.setCell ⟨g, 1, none⟩ (.bool (decide (0 ≤ m)))).setCell ⟨g, 2, none⟩ (.int .i64 m)) g (armV D m) V m) := Lib.hid (h.write (armV D m) rfl m (by show Whole _ _ _ #[V, .bool (decide (0 ≤ m)), .int .i64 m, .bool D.off]; simpa using hs) (fun _ => rfl) (only_store (only_store (grown0 w g) _) _))
  have HG : Hid (w.grownBy ((w.setCell ⟨g, 1, none⟩ (.bool (decide (0 ≤ m)))).setCell ⟨g, 2, none⟩ (.int .i64 m)) (some g)) := Lib.hid (only_store (only_store (grown0 w g) _) _)
  have g2 := (h.cells.store 1 (.bool (decide (0 ≤ m)))).soft 2
  have c1 : w.cell? ⟨g, 1, none⟩ = some (.bool (decide (0 ≤ D.left))) := h.cells.read 1
  have c2 : (w.setCell ⟨g, 1, none⟩ (.bool (decide (0 ≤ m)))).cell? ⟨g, 2, none⟩ = some (.int .i64 n) := (h.cells.store 1 (.bool (decide (0 ≤ m)))).read 2
  clear h hs
  generalize armV D m = D' at HV ⊢
  go_enter Try.func16, Try.ntmps16
  go_wp2_with fail
  go_end0
  exact ⟨rfl, HV.out, HG.out, by simp [World.setCell]⟩
theorem readR_any {g : Nat} {D : Dk} {V : Value} {n0 : Int} (hF : D.F.length ≤ 100000) (n : Bs) (w : World) (h : RefE w g D V n0) :
    Calls Try.prog 22 #[.pointer (some ⟨g, 0, none⟩), sV n] w fun e w' => e = .returned (.tuple #[sV (readV D n), .int .i64 (readE D n)]) ∧ w = w' := by
  have PL := Lib.hid (place_any hF n w h)
  have c3 : w.cell? ⟨g, 3, none⟩ = some (.bool D.off) := h.cells.read 3
  obtain ⟨A, c, rfl, -, -⟩ := h.own.shape
  have k0 : w.cell? ⟨g, 0, none⟩ = some (.slice A D.F.length c) := h.cells.read 0
  have HL := Lib.hid (h.own.lg cellsF)
  clear h
  by_cases ho : D.off = true
  · have HA : Hid (readV D n = [] ∧ readE D n = 14) := Lib.hid ⟨by unfold readV; rw [if_pos ho], by unfold readE; rw [if_pos ho]⟩
    rw [HA.out.1, HA.out.2]
    rw [ho] at c3
    clear ho
    go_enter Try.func22, Try.ntmps22
    go_wp2_with (go_at_call 35; refine PL.out.mono ?_; rintro e w1 ⟨rfl, rfl⟩)
    go_ret2
    exact ⟨rfl, rfl⟩
  · have hf : D.off = false := by simpa using ho
    rw [hf] at c3
    cases hk : lk D.F n with
    | none =>
      have HA : Hid (readV D n = [] ∧ readE D n = 3) := Lib.hid ⟨by unfold readV oldB; rw [if_neg ho, hk]; rfl, by unfold readE; rw [if_neg ho, if_pos hk]⟩
      rw [HA.out.1, HA.out.2]
      rw [pl_none hk] at PL
      clear ho hf hk
      go_enter Try.func22, Try.ntmps22
      go_wp2_with (go_at_call 35; refine PL.out.mono ?_; rintro e w1 ⟨rfl, rfl⟩)
      go_ret2
      exact ⟨rfl, rfl⟩
    | some f =>
      have HA : Hid (readV D n = f.b ∧ readE D n = 0) := Lib.hid ⟨by unfold readV oldB; rw [if_neg ho, hk]; rfl, by unfold readE; rw [if_neg ho, hk, if_neg (by simp)]⟩
      rw [HA.out.1, HA.out.2]
      obtain ⟨P, R, hs, -, -, hp⟩ := lk_split hk
      rw [hp] at PL
      have hi : D.F[P.length]? = some f := by rw [hs]; simp
      have hlt : P.length < D.F.length := by rw [hs]; simp
      obtain ⟨b, off, rfl, hb, -, c1, -⟩ := at_f HL.out hi
      clear ho hf hk hs hp hi
      generalize P.length = i at PL c1 hlt
      go_enter Try.func22, Try.ntmps22
      go_wp2_with (go_at_call 35; refine PL.out.mono ?_; rintro e w1 ⟨rfl, rfl⟩)
      go_ret2
      exact ⟨rfl, rfl⟩
theorem lastsR_any {g : Nat} {D : Dk} {V : Value} {n0 : Int} (hF : D.F.length ≤ 100000) (n : Bs) (w : World) (h : RefE w g D V n0) :
    Calls Try.prog 24 #[.pointer (some ⟨g, 0, none⟩), sV n] w fun e w' => e = .returned (.int .i64 (oldL D.F n : Nat)) ∧ w = w' := by
  have PL := Lib.hid (place_any hF n w h)
  obtain ⟨A, c, rfl, -, -⟩ := h.own.shape
  have k0 : w.cell? ⟨g, 0, none⟩ = some (.slice A D.F.length c) := h.cells.read 0
  have HL := Lib.hid (h.own.lg cellsF)
  clear h
  cases hk : lk D.F n with
  | none =>
    have HA : Hid (oldL D.F n = 0) := Lib.hid (by unfold oldL; rw [hk]; rfl)
    rw [HA.out]
    rw [pl_none hk] at PL
    clear hk
    go_enter Try.func24, Try.ntmps24
    go_wp2_with (go_at_call 35; refine PL.out.mono ?_; rintro e w1 ⟨rfl, rfl⟩)
    go_ret
    exact ⟨rfl, rfl⟩
  | some f =>
    have HA : Hid (oldL D.F n = f.l) := Lib.hid (by unfold oldL; rw [hk]; rfl)
    rw [HA.out]
    obtain ⟨P, R, hs, -, -, hp⟩ := lk_split hk
    rw [hp] at PL
    have hi : D.F[P.length]? = some f := by rw [hs]; simp
    have hlt : P.length < D.F.length := by rw [hs]; simp
    obtain ⟨b, off, rfl, hb, -, -, c2⟩ := at_f HL.out hi
    clear hk hs hp hi
    generalize P.length = i at PL c2 hlt
    go_enter Try.func24, Try.ntmps24
    go_wp2_with (go_at_call 35; refine PL.out.mono ?_; rintro e w1 ⟨rfl, rfl⟩)
    go_ret
    exact ⟨rfl, rfl⟩
end Go.Proofs.Ytkfjgmfokpgcbaa.disk
set_option linter.unusedSimpArgs false
set_option linter.unusedVariables false
namespace Go.Proofs.Ytkfjgmfokpgcbaa.disk
open Go.ChangeShapes Go.WideShapes Go.ChangeAt Go.RowKit
open Go.Proofs.Ytkfjgmfokpgcbaa.words Go.Proofs.Ytkfjgmfokpgcbaa.opened Go.Proofs.Ytkfjgmfokpgcbaa.block Go.Proofs.Ytkfjgmfokpgcbaa.data

theorem flat_set {A R : List Fl} {f g : Fl} {j : Nat} {v : Value} (hj : j < 3) (hv : cF g = (cF f).set j v) : ((A ++ f :: R).flatMap cF).set (A.length * 3 + j) v = (A ++ g :: R).flatMap cF := by
  have hl : (A.flatMap cF).length = A.length * 3 := flatG_len cellsF A
  rw [List.flatMap_append, List.flatMap_append, List.flatMap_cons, List.flatMap_cons, List.set_append_right _ _ (by omega), hl, Nat.add_sub_cancel_left, List.set_append_left _ _ (by rw [cellsF.len]; exact hj), hv]
theorem own_set {T : TypeId} {w : World} {base : Nat} {V : Value} {A R : List Fl} {f g : Fl} {j : Nat} {v : Value} (h : OwnG T 3 cF w base V (A ++ f :: R)) (hj : j < 3) (hv : cF g = (cF f).set j v) :
    ∃ b c, V = .slice (some ⟨b, 0, none⟩) (A ++ f :: R).length c ∧ V.ownBlock = some b ∧ OwnG T 3 cF (w.setCell ⟨b, A.length * 3 + j, none⟩ v) base V (A ++ g :: R) := by
  have hlen : (A ++ g :: R).length = (A ++ f :: R).length := by simp
  rcases h.2 with ⟨-, hn⟩ | ⟨b, cap, cur, hV, hb, hg, hc, hcm, hs, ht⟩
  · simp at hn
  · refine ⟨b, cap, hV, by rw [hV]; rfl, ?_⟩
    unfold OwnG
    rw [hlen]
    have hw : Whole (w.setCell ⟨b, A.length * 3 + j, none⟩ v) b T (cur.setIfInBounds (A.length * 3 + j) v) := Whole.store hg _ _
    refine ⟨by rw [flatG_len cellsF, hlen], .inr ⟨b, cap, _, hV, hb, hw, hc, hcm, by rw [Array.size_setIfInBounds]; exact hs, ?_⟩⟩
    rw [Array.toList_setIfInBounds, List.take_set, ht]
    exact flat_set hj hv
theorem RefE.below {w w' : World} {g : Nat} {D : Dk} {V : Value} {n : Int} (h : RefE w g D V n) (hb : Below w.heap.size w w') : RefE w' g D V n := ⟨h.cells.below hb h.cells.inside, h.left, h.own.below hb, h.far⟩
theorem RefE.drew {w : World} {g : Nat} {D : Dk} {V : Value} {n : Int} (h : RefE w g D V n) : RefE w.drew g D V n := h.below (Below.refl _ _).drew
/-- A file at its place. -/
structure Spot (w : World) (g : Nat) (D : Dk) (V : Value) (n : Int) (A R : List Fl) (f : Fl) (b c : Nat) : Prop where
  val : V = .slice (some ⟨b, 0, none⟩) D.F.length c
  own : V.ownBlock = some b
  cb : w.cell? ⟨b, A.length * 3 + 1, none⟩ = some (sV f.b)
  cl : w.cell? ⟨b, A.length * 3 + 2, none⟩ = some (.int .i64 (f.l : Int))
  fb : w.frozen? ⟨b, A.length * 3 + 1, none⟩ = false
  fl : w.frozen? ⟨b, A.length * 3 + 2, none⟩ = false
  gb : g ≠ b
  lt : b < w.heap.size
  set : ∀ (f' : Fl) (j : Nat) (v : Value), j < 3 → cF f' = (cF f).set j v → RefE (w.setCell ⟨b, A.length * 3 + j, none⟩ v) g { D with F := A ++ f' :: R } V n ∧ w.grownBy (w.setCell ⟨b, A.length * 3 + j, none⟩ v) (some b)
theorem RefE.spot {w : World} {g : Nat} {D : Dk} {V : Value} {n : Int} {A R : List Fl} {f : Fl} (h : RefE w g D V n) (hF : D.F = A ++ f :: R) : ∃ b c, Spot w g D V n A R f b c := by
  have ho := h.own
  have hL := h.own
  rw [hF] at ho
  rcases ho.2 with ⟨-, hn⟩ | ⟨b, cap, cur, hV, hb, hg, hc, hcm, hs, ht⟩
  · simp at hn
  · have hb0 : V.ownBlock = some b := by rw [hV]; rfl
    have hg' : Whole w b 61 cur := hg
    have hgb : g ≠ b := fun e => h.far (by rw [hb0, e])
    rw [hV, hF] at hL
    obtain ⟨b2, off, hA, -, -, c1, c2⟩ := at_f (hL.lg cellsF) (k := A.length) (f := f) (by simp)
    injection (Option.some.inj hA) with e1 e2
    subst e1 e2
    rw [Nat.zero_add] at c1 c2
    refine ⟨b, cap, ⟨by rw [hF]; exact hV, hb0, c1, c2, hg'.soft _, hg'.soft _, hgb, hg'.inside, fun f' j v hj hv => ?_⟩⟩
    obtain ⟨b3, c3, hV3, -, h3⟩ := own_set (v := v) ho hj hv
    have e3 : b3 = b := by
      rw [hV] at hV3
      injection hV3 with q1
      injection (Option.some.inj q1) with q2
      exact q2.symm
    subst e3
    exact ⟨⟨h.cells.aside (by simpa using hgb) _, h.left, h3, h.far⟩, only_store (grown0 w _) _⟩
theorem RefE.step {w w' : World} {g : Nat} {D : Dk} {V : Value} {n : Int} (hg : w.grownBy w' (some g)) (_h : RefE w' g D V n) {S : Nat → Prop} (hS : S g) : Turn w w' S := turn_grown hg fun k e => by cases e; exact hS
theorem on_bad {D : Dk} {n : Bs} (h : chk D n ≠ 0) : onE D n = chk D n ∧ onV D n = D ∧ synV D n = D ∧ remV D n = D := by
  have e : onE D n = chk D n := by unfold onE; rw [if_pos h]
  have e2 : onV D n = D := by unfold onV; rw [if_neg (fun q => h q.1)]
  exact ⟨e, e2, by unfold synV; rw [e, if_neg h, e2], by unfold remV; rw [e, if_neg h, e2]⟩
theorem on_none {D : Dk} {n : Bs} (h : chk D n = 0) (hk : lk D.F n = none) : onE D n = 3 ∧ onV D n = D ∧ synV D n = D ∧ remV D n = D := by
  have e : onE D n = 3 := by unfold onE; rw [if_neg (by simpa using h), if_pos hk]
  have e2 : onV D n = D := by unfold onV; rw [if_neg (fun q => q.2 hk)]
  exact ⟨e, e2, by unfold synV; rw [e, if_neg (by decide), e2], by unfold remV; rw [e, if_neg (by decide), e2]⟩
theorem on_some {D : Dk} {n : Bs} {f : Fl} (h : chk D n = 0) (hk : lk D.F n = some f) : onE D n = stpE D ∧ onV D n = stpV D := by
  have hk' : lk D.F n ≠ none := by rw [hk]; simp
  exact ⟨by unfold onE; rw [if_neg (by simpa using h), if_neg hk'], by unfold onV; rw [if_pos ⟨h, hk'⟩]⟩
theorem stp_two (D : Dk) : stpE D = 0 ∨ stpE D = 14 := by
  unfold stpE
  by_cases h : D.left = 0
  · exact .inr (if_pos h)
  · exact .inl (if_neg h)
set_option maxRecDepth 100000 in
theorem syncR_any {S : Nat → Prop} {g : Nat} {D : Dk} (G : GoodD D) (hF : D.F.length ≤ 100000) (n : Bs) (w : World) (h : RefP w S g D) :
    Calls Try.prog 12 #[.pointer (some ⟨g, 0, none⟩), sV n] w fun e w' => e = .returned (.int .i64 (onE D n)) ∧ RefP w' S g (synV D n) ∧ Turn w w' S := by
  obtain ⟨V, n0, h, hSg, hS⟩ := h
  have AH := Lib.hid (ahead_any n w h)
  have PL := Lib.hid (fun W (b : Below w.heap.size w W) => place_any hF n W (h.below b))
  have ST := Lib.hid (fun W (b : Below w.heap.size w W) => stepR_any G.hi W (h.below b))
  have HB := Lib.hid (fun W (b : Below w.heap.size w W) => h.below b)
  clear h
  by_cases hc : chk D n = 0
  · rw [hc] at AH
    cases hk : lk D.F n with
    | none =>
      obtain ⟨e1, -, e2, -⟩ := on_none hc hk
      rw [e1, e2]
      rw [pl_none hk] at PL
      have HR := Lib.hid (fun W b => (⟨V, n0, HB.out W b, hSg, hS⟩ : RefP W S g D))
      clear hc hk e1 e2 ST HB hSg hS
      go_enter Try.func12, Try.ntmps12
      go_wp2_with (first
        | (go_at_call 35; refine (PL.out _ B1.out).mono ?_; rintro e w2 ⟨rfl, rfl⟩)
        | (go_at_call 33; refine AH.out.mono ?_; rintro e w1 ⟨rfl, b1⟩; have B1 := Lib.hid b1; clear b1))
      go_ret
      exact ⟨rfl, HR.out _ B1.out, turn_below B1.out _⟩
    | some f =>
      obtain ⟨e1, e2⟩ := on_some hc hk
      obtain ⟨P, R, hs, hfn, -, hp⟩ := lk_split hk
      rw [hp] at PL
      have hln := G.len (f := f) (by rw [hs]; simp)
      have hlt : P.length < D.F.length := by rw [hs]; simp
      have hFl := hF
      have hnn : ¬ ((P.length : Nat) : Int) < 0 := by omega
      have hsv : (stpV D).F = P ++ f :: R := by rw [stpV_F]; exact hs
      rcases stp_two D with hz | hz
      · have e3 : synV D n = { stpV D with F := P ++ ⟨f.n, f.b, f.b.length⟩ :: R } := by
          have ho : oldB D.F n = f.b := by unfold oldB; rw [hk]; rfl
          unfold synV
          rw [e1, if_pos hz, ho, ← hfn, hs, put_mid (A := P) (R := R) (f := f) (g := ⟨f.n, f.b, f.b.length⟩) (hs ▸ G.srt) rfl]
        rw [e1, hz, e3]
        rw [hz] at ST
        have HSV := Lib.hid hsv
        have HFL : Hid ((stpV D).F.length = D.F.length) := Lib.hid (by rw [stpV_F])
        clear e1 e2 e3 hsv hz hc hk hp hs
        go_enter Try.func12, Try.ntmps12
        go_upto_region 8 with (first
          | (go_at_call 34; refine (ST.out _ B1.out).mono ?_; rintro e w3 ⟨rfl, ⟨n1, h1⟩, g1, s1⟩; have H1 := Lib.hid h1; have G1 := Lib.hid g1; clear h1 g1 s1)
          | (go_at_call 35; refine (PL.out _ B1.out).mono ?_; rintro e w2 ⟨rfl, rfl⟩)
          | (go_at_call 33; refine AH.out.mono ?_; rintro e w1 ⟨rfl, b1⟩; have B1 := Lib.hid b1; clear b1))
        obtain ⟨b, c, sp⟩ := H1.out.drew.spot HSV.out
        have hV := sp.val
        rw [HFL.out] at hV
        have k0 : w3.cell? ⟨g, 0, none⟩ = some (.slice (some ⟨b, 0, none⟩) D.F.length c) := by have := H1.out.cells.read 0; rw [hV] at this; exact this
        have cb : w3.cell? ⟨b, P.length * 3 + 1, none⟩ = some (sV f.b) := sp.cb
        have hbl : b < w3.heap.size := sp.lt
        have cl : w3.drew.cell? ⟨b, P.length * 3 + 2, none⟩ = some (.int .i64 (f.l : Int)) := sp.cl
        have fl : w3.drew.frozen? ⟨b, P.length * 3 + 2, none⟩ = false := sp.fl
        obtain ⟨q1, q2⟩ := sp.set ⟨f.n, f.b, f.b.length⟩ 2 (.int .i64 (f.b.length : Int)) (by decide) rfl
        have HQ := Lib.hid q1
        have TQ := Lib.hid ((turn_below B1.out S).trans ((turn_grown G1.out (fun k e => by cases e; exact hSg) : Turn _ _ S).trans ((turn_below (Below.refl _ _).drew S).trans (turn_grown q2 (fun k e => by cases e; exact hS _ sp.own) : Turn _ _ S) (fun j hj => .inl hj)) (fun j hj => .inl hj)) (fun j hj => .inl hj))
        clear q1 q2 sp hV H1 G1
        go_still_tail 16, (by kernel_rfl)
        change wpList _ _ _ _ _ w3.drew
        go_wp2_with fail
        go_ret
        exact ⟨rfl, ⟨V, _, HQ.out, hSg, hS⟩, TQ.out⟩
      · have e3 : synV D n = stpV D := by
          unfold synV
          rw [e1, hz, if_neg (by decide), e2]
        rw [e1, hz, e3]
        rw [hz] at ST
        clear e1 e2 e3 hsv hz hc hk hp hs
        go_enter Try.func12, Try.ntmps12
        go_wp2_with (first
          | (go_at_call 34; refine (ST.out _ B1.out).mono ?_; rintro e w3 ⟨rfl, ⟨n1, h1⟩, g1, s1⟩; have H1 := Lib.hid h1; have G1 := Lib.hid g1; clear h1 g1 s1)
          | (go_at_call 35; refine (PL.out _ B1.out).mono ?_; rintro e w2 ⟨rfl, rfl⟩)
          | (go_at_call 33; refine AH.out.mono ?_; rintro e w1 ⟨rfl, b1⟩; have B1 := Lib.hid b1; clear b1))
        go_ret
        exact ⟨rfl, ⟨V, _, H1.out, hSg, hS⟩, (turn_below B1.out S).trans (turn_grown G1.out (fun k e => by cases e; exact hSg) : Turn _ _ S) (fun j hj => .inl hj)⟩
  · obtain ⟨e1, -, e2, -⟩ := on_bad hc
    rw [e1, e2]
    have hne : (chk D n == 0) = false := by rw [beq_eq_false_iff_ne]; exact hc
    have HR := Lib.hid (fun W b => (⟨V, n0, HB.out W b, hSg, hS⟩ : RefP W S g D))
    clear hc e1 e2 ST HB hSg hS
    generalize chk D n = x at AH hne ⊢
    go_enter Try.func12, Try.ntmps12
    go_wp2_with (first
      | (go_at_call 35; refine (PL.out _ B1.out).mono ?_; rintro e w2 ⟨rfl, rfl⟩)
      | (go_at_call 33; refine AH.out.mono ?_; rintro e w1 ⟨rfl, b1⟩; have B1 := Lib.hid b1; clear b1))
    go_ret
    exact ⟨rfl, HR.out _ B1.out, turn_below B1.out _⟩
end Go.Proofs.Ytkfjgmfokpgcbaa.disk
