/-
  The walk of HopStale (by gen_hst.py).
-/
import Derived.Test.YtbomlapmoiamgaaHw2
import Derived.Deep.CutRange
import Derived.Deep.CutBlock
import Derived.LoopTactic
set_option linter.unusedSimpArgs false
set_option linter.unusedVariables false
namespace Go.Proofs.Ytbomlapmoiamgaa.hop
open Go.ChangeShapes Go.WideShapes Go.ChangeAt Go.RowKit
open Go.Proofs.Ytbomlapmoiamgaa.opened Go.Proofs.Ytbomlapmoiamgaa.block Go.Proofs.Ytbomlapmoiamgaa.words Go.Proofs.Ytbomlapmoiamgaa.region
set_option maxRecDepth 100000 in
theorem mod_is (n : Int) (q : Nat) (hq : 0 < q) (hq2 : q < 1000000) : ∃ m : Nat, m < q ∧ wrap64 ((IntKind.u64.wrap n).tmod (q : Int)) = (m : Int) := by
  have h0 : 0 ≤ IntKind.u64.wrap n := by rw [IntKind.wrap_u64]; omega
  rw [Int.tmod_eq_emod_of_nonneg h0]
  generalize IntKind.u64.wrap n = z at h0
  have hz0 : 0 ≤ z % (q : Int) := Int.emod_nonneg _ (by omega)
  have hz1 : z % (q : Int) < q := Int.emod_lt_of_pos _ (by omega)
  refine ⟨(z % (q : Int)).toNat, by omega, ?_⟩
  rw [IntWalk.wrap64_in _ ⟨by omega, by omega⟩]
  omega
/-- A sender to which so much was put. -/
structure Stl (a : Int) (j : Nat) (S : Sn) : Prop where
  good : GoodS S
  e : S.e = 5
  a : S.a = a
  l : S.L.length = j
theorem Stl.put {a : Int} {j : Nat} {S : Sn} (h : Stl a j S) (ha : a ≤ 999) (hj : j < 59) (t : Bs) (ht : t.length ≤ 6000) : putE S t = 0 ∧ putN S t = a + 1 + j ∧ Stl a (j + 1) (putV S t) := by
  have h1 := h.e; have h2 := h.a; have h3 := h.l
  have hn : nextV S = a + 1 + j := by unfold nextV; omega
  have he : putE S t = 0 := by unfold putE; rw [if_neg (by omega), if_neg (by rw [hn]; omega)]
  refine ⟨he, by unfold putN; rw [if_pos he, hn], h.good.put t, ?_, ?_, ?_⟩
  · unfold putV; rw [if_pos he]; exact h1
  · unfold putV; rw [if_pos he]; exact h2
  · unfold putV; rw [if_pos he]; show (S.L ++ [_]).length = j + 1; rw [List.length_append]; simp [h3]
theorem Stl.yes {a : Int} {n : Nat} {S : Sn} (h : Stl a n S) {w : Int} (h1 : a < w) (h2 : w ≤ a + n) : ackB S 5 w = true ∧ (ackV S 5 w).a = w ∧ nextV (ackV S 5 w) = a + n + 1 ∧ ((ackV S 5 w).L.length : Int) = a + n - w := by
  have e1 := h.e; have e2 := h.a; have e3 := h.l
  have hb : ackB S 5 w = true := decide_eq_true ⟨e1.symm, by omega, by unfold nextV; omega⟩
  have hl : ((ackV S 5 w).L.length : Int) = a + n - w := by
    unfold ackV
    rw [if_pos hb]
    show ((S.L.drop _).length : Int) = _
    rw [List.length_drop]
    omega
  have ha : (ackV S 5 w).a = w := by rw [ack_a, if_pos hb]
  exact ⟨hb, ha, by unfold nextV; omega, hl⟩
theorem Stl.no {a : Int} {n : Nat} {S : Sn} (h : Stl a n S) {e w : Int} (h1 : ¬ (e = 5 ∧ a < w ∧ w ≤ a + n)) : ackB S e w = false ∧ (ackV S e w).a = a ∧ nextV (ackV S e w) = a + n + 1 ∧ ((ackV S e w).L.length : Int) = n := by
  have e1 := h.e; have e2 := h.a; have e3 := h.l
  have hb : ackB S e w = false := decide_eq_false (fun hx => h1 ⟨by omega, by omega, by have := hx.2.2; unfold nextV at this; omega⟩)
  rw [ack_not hb]
  exact ⟨hb, e2, by unfold nextV; omega, by omega⟩
section
variable {w : World}
end
end Go.Proofs.Ytbomlapmoiamgaa.hop
