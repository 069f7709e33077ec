/-
  The contracts of the document's Lines and Split.
-/
import Derived.Test.YtcogehhjofgbiaaGreatDoorJWc
set_option linter.unusedSimpArgs false
set_option linter.unusedVariables false
namespace Go.Proofs.YtcogehhjofgbiaaGreatDoor.words
open Go.ChangeShapes Go.WideShapes Go.ChangeAt Go.RowKit
open Go.Proofs.YtcogehhjofgbiaaGreatDoor.opened Go.Proofs.YtcogehhjofgbiaaGreatDoor.block

theorem size_str (s : Bs) : (⟨s.toArray⟩ : ByteArray).size = s.length := by show s.toArray.size = _; simp
theorem byteU {s : Bs} {k : Nat} (h : k < (⟨s.toArray⟩ : ByteArray).size) : s[k]? = some ((⟨s.toArray⟩ : ByteArray)[k]'h) := by
  have h' : k < s.length := by rw [size_str] at h; exact h
  rw [List.getElem?_eq_getElem h']
  rfl
theorem extractU (s : Bs) (a b : Nat) : (⟨s.toArray⟩ : ByteArray).extract a b = ⟨((s.drop a).take (b - a)).toArray⟩ := by
  have := Lib.extract_eq (⟨s.toArray⟩ : ByteArray) a b
  simpa using this
theorem drop_at {s : Bs} {k : Nat} {c : UInt8} (h : s[k]? = some c) : s.drop k = c :: s.drop (k + 1) := by
  obtain ⟨hl, e⟩ := List.getElem?_eq_some_iff.1 h
  rw [List.drop_eq_getElem_cons hl, e]
theorem piece_more {s : Bs} {a k : Nat} {c : UInt8} (h : s[k]? = some c) (ha : a ≤ k) : (s.drop a).take (k + 1 - a) = (s.drop a).take (k - a) ++ [c] := by
  rw [show k + 1 - a = (k - a) + 1 by omega, List.take_add_one, List.getElem?_drop, show a + (k - a) = k by omega, h]
  rfl
end Go.Proofs.YtcogehhjofgbiaaGreatDoor.words
