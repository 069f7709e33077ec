/-
  Counts, least and greatest values by keys, as mathematics.
-/
import Derived.Test.YtpbdfiddgbkkmaaDoorOm
namespace Go.Proofs.YtpbdfiddgbkkmaaDoor.oper
open Go.Proofs.YtpbdfiddgbkkmaaDoor.tm Go.Proofs.YtpbdfiddgbkkmaaDoor.data

theorem sum_zero : ∀ K : List Int, (K.map fun _ => 0).sum = (0 : Nat)
  | [] => rfl
  | q :: K => by simpa using sum_zero K
def cntV (L : List Rc) (K : List Int) : Nat := (K.map fun q => (vals q L).length).sum
theorem cnt_add (x : Rc) (L : List Rc) : ∀ K : List Int, cntV (x :: L) K = (K.map fun q => if x.k = q then 1 else 0).sum + cntV L K
  | [] => by simp [cntV]
  | q :: K => by
    have ih := cnt_add x L K
    unfold cntV at ih ⊢
    simp only [List.map_cons, List.sum_cons]
    rw [ih]
    have : (vals q (x :: L)).length = (if x.k = q then 1 else 0) + (vals q L).length := by
      rw [show x :: L = [x] ++ L from rfl, vals_app, vals_one, List.length_append]
      split <;> rfl
    omega
theorem one_of (x : Int) : ∀ K : List Int, K.Pairwise (· < ·) → x ∈ K → (K.map fun q => if x = q then 1 else 0).sum = 1
  | [], _, h => by simp at h
  | q :: K, hp, h => by
    obtain ⟨h1, h2⟩ := List.pairwise_cons.1 hp
    simp only [List.map_cons, List.sum_cons]
    rcases List.mem_cons.1 h with rfl | h
    · have : (K.map fun q => if x = q then 1 else 0).sum = 0 := by
        have h3 : ∀ q ∈ K, (if x = q then 1 else 0) = 0 := fun q hq => by
          have := h1 q hq
          rw [if_neg (by omega)]
        rw [List.map_congr_left h3]
        exact sum_zero K
      rw [this, if_pos rfl]
    · have := h1 x h
      rw [if_neg (by omega), one_of x K h2 h]
theorem cnt_all : ∀ (L : List Rc) (K : List Int), K.Pairwise (· < ·) → (∀ r ∈ L, r.k ∈ K) → cntV L K = L.length
  | [], K, _, _ => by
    unfold cntV
    have : ∀ q ∈ K, (vals q []).length = 0 := fun _ _ => rfl
    rw [List.map_congr_left this]
    exact sum_zero K
  | x :: L, K, hp, h => by
    rw [cnt_add, one_of x.k K hp (h x (by simp)), cnt_all L K hp fun r hr => h r (List.mem_cons_of_mem _ hr), List.length_cons]
    omega
theorem cnt_keys (L : List Rc) : cntV L (keysS L) = L.length := cnt_all L _ (keysS_rise L) fun r hr => mem_keysS.2 ⟨r, hr, rfl⟩
theorem cnt_next {L : List Rc} {K : List Int} {i : Nat} {q : Int} (h : K[i]? = some q) : cntV L (K.take (i + 1)) = cntV L (K.take i) + (vals q L).length := by
  rw [take_next h]
  simp [cntV]
theorem cnt_le (L : List Rc) {i : Nat} : cntV L ((keysS L).take i) ≤ L.length := by
  have h : cntV L ((keysS L).take i) + cntV L ((keysS L).drop i) = cntV L (keysS L) := by
    unfold cntV
    rw [← List.sum_append, ← List.map_append, List.take_append_drop]
  rw [cnt_keys] at h
  omega
theorem foldV_get {k : Int} {L : List Rc} {i : Nat} {q : Int} (h : (keysS L)[i]? = some q) : (foldV k L)[i]? = some ⟨q, totV k (vals q L)⟩ := by
  unfold foldV
  rw [List.getElem?_map, h]
  rfl
theorem foldV_len (k : Int) (L : List Rc) : (foldV k L).length = (keysS L).length := by simp [foldV]
theorem vals_next_yes {q : Int} {L : List Rc} {k : Nat} {x : Rc} (hx : L[k]? = some x) (h : x.k = q) : vals q (L.take (k + 1)) = vals q (L.take k) ++ [x.v] := by
  rw [take_next hx, vals_app, vals_one, if_pos h]
theorem vals_next_no {q : Int} {L : List Rc} {k : Nat} {x : Rc} (hx : L[k]? = some x) (h : x.k ≠ q) : vals q (L.take (k + 1)) = vals q (L.take k) := by
  rw [take_next hx, vals_app, vals_one, if_neg h, List.append_nil]
theorem seen_next (u x : Int) (l : List Int) : decide (u ∈ l ++ [x]) = (decide (u ∈ l) || x == u) := by
  rw [Bool.eq_iff_iff, decide_eq_true_iff, List.mem_append, Bool.or_eq_true, decide_eq_true_iff, List.mem_singleton, beq_iff_eq]
  exact ⟨fun h => h.imp id Eq.symm, fun h => h.imp id Eq.symm⟩
end Go.Proofs.YtpbdfiddgbkkmaaDoor.oper
