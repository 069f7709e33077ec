/-
  What the document's Parse has read, byte by byte, as mathematics.
-/
import Derived.Test.YtfjfohkdlikpiaaDoorDp
namespace Go.Proofs.YtfjfohkdlikpiaaDoor.data
open Go.Proofs.YtfjfohkdlikpiaaDoor.words

/-- The bytes between two places. -/
def mid (s : Bs) (a i : Nat) : Bs := (s.drop a).take (i - a)
theorem mid_self (s : Bs) (a : Nat) : mid s a a = [] := by simp [mid]
theorem mid_next {s : Bs} {a i : Nat} {c : UInt8} (ha : a ≤ i) (h : s[i]? = some c) : mid s a (i + 1) = mid s a i ++ [c] := by
  unfold mid
  rw [show i + 1 - a = (i - a) + 1 by omega, List.take_add_one, List.getElem?_drop, show a + (i - a) = i by omega, h]
  rfl
theorem drop_at {s : Bs} {i : Nat} {c : UInt8} (h : s[i]? = some c) : s.drop i = c :: s.drop (i + 1) := by
  obtain ⟨hi, rfl⟩ := List.getElem?_eq_some_iff.1 h
  exact List.drop_eq_getElem_cons hi
/-- So far: these parts are whole, this one has begun. -/
def SoFar (s : Bs) (P : List Bs) (a i : Nat) : Prop := a ≤ i ∧ i ≤ s.length ∧ cutsL s = P ++ cutsC (mid s a i) (s.drop i)
theorem far_start (s : Bs) : SoFar s [] 0 0 := ⟨Nat.le_refl _, Nat.zero_le _, by simp [mid_self, cutsL]⟩
theorem far_char {s : Bs} {P : List Bs} {a i : Nat} {c : UInt8} (h : SoFar s P a i) (hc : s[i]? = some c) (n : c ≠ 44) : SoFar s P a (i + 1) := by
  have hi := (List.getElem?_eq_some_iff.1 hc).1
  refine ⟨by have := h.1; omega, hi, ?_⟩
  rw [h.2.2, drop_at hc, cutsC, if_neg n, mid_next h.1 hc]
theorem far_comma {s : Bs} {P : List Bs} {a i : Nat} (h : SoFar s P a i) (hc : s[i]? = some 44) : SoFar s (P ++ [mid s a i]) (i + 1) (i + 1) := by
  have hi := (List.getElem?_eq_some_iff.1 hc).1
  refine ⟨Nat.le_refl _, hi, ?_⟩
  rw [h.2.2, drop_at hc, cutsC, if_pos rfl, mid_self]
  simp
theorem far_end {s : Bs} {P : List Bs} {a : Nat} (h : SoFar s P a s.length) : cutsL s = P ++ [mid s a s.length] := by
  rw [h.2.2, List.drop_length, cutsC]
theorem far_bad {s : Bs} {P : List Bs} {a i : Nat} (h : SoFar s P a i) (he : i = s.length ∨ s[i]? = some 44) (n : recP (mid s a i) = none) : recs (cutsL s) = none := by
  rcases he with rfl | hc
  · rw [far_end h]
    exact recs_none n []
  · have := (far_comma h hc).2.2
    rw [this, List.append_assoc]
    exact recs_none n _
end Go.Proofs.YtfjfohkdlikpiaaDoor.data
