/-
  The contracts of the document's Lines and Split.
  The contract of the document's Split.
-/
import Derived.Test.YtfpmcomigolacaaGreatDoorJWc
set_option linter.unusedSimpArgs false
set_option linter.unusedVariables false
namespace Go.Proofs.YtfpmcomigolacaaGreatDoor.words
open Go.ChangeShapes Go.WideShapes Go.ChangeAt Go.RowKit
open Go.Proofs.YtfpmcomigolacaaGreatDoor.opened Go.Proofs.YtfpmcomigolacaaGreatDoor.block

theorem size_str (s : Bs) : (⟨s.toArray⟩ : ByteArray).size = s.length := by show s.toArray.size = _; simp
theorem byteU {s : Bs} {k : Nat} (h : k < (⟨s.toArray⟩ : ByteArray).size) : s[k]? = some ((⟨s.toArray⟩ : ByteArray)[k]'h) := by
  have h' : k < s.length := by rw [size_str] at h; exact h
  rw [List.getElem?_eq_getElem h']
  rfl
theorem extractU (s : Bs) (a b : Nat) : (⟨s.toArray⟩ : ByteArray).extract a b = ⟨((s.drop a).take (b - a)).toArray⟩ := by
  have := Lib.extract_eq (⟨s.toArray⟩ : ByteArray) a b
  simpa using this
theorem drop_at {s : Bs} {k : Nat} {c : UInt8} (h : s[k]? = some c) : s.drop k = c :: s.drop (k + 1) := by
  obtain ⟨hl, e⟩ := List.getElem?_eq_some_iff.1 h
  rw [List.drop_eq_getElem_cons hl, e]
theorem piece_more {s : Bs} {a k : Nat} {c : UInt8} (h : s[k]? = some c) (ha : a ≤ k) : (s.drop a).take (k + 1 - a) = (s.drop a).take (k - a) ++ [c] := by
  rw [show k + 1 - a = (k - a) + 1 by omega, List.take_add_one, List.getElem?_drop, show a + (k - a) = k by omega, h]
  rfl
end Go.Proofs.YtfpmcomigolacaaGreatDoor.words
set_option linter.unusedSimpArgs false
set_option linter.unusedVariables false
namespace Go.Proofs.YtfpmcomigolacaaGreatDoor.words
open Go.ChangeShapes Go.WideShapes Go.ChangeAt Go.RowKit
open Go.Proofs.YtfpmcomigolacaaGreatDoor.opened Go.Proofs.YtfpmcomigolacaaGreatDoor.block

theorem slice_str (s : Bs) (a b : Nat) (h : a ≤ b) (hb : b ≤ s.length) (W : World) : (Instr.slice 9 (.string ⟨s.toArray⟩) (some (.int .i64 (a : Int))) (some (.int .i64 (b : Int))) none).run Tryz.prog W = .ok (.string ((⟨s.toArray⟩ : ByteArray).extract a b)) W := by
  go_simp
theorem u8_is {c : UInt8} {n : Nat} (hn : n < 256) {z : Bool} (h : ((c.toNat : Int) == (n : Int)) = z) : c = UInt8.ofNat n ↔ z = true := by
  rw [← h, beq_iff_eq]
  constructor
  · rintro rfl
    simp
    omega
  · intro h
    refine UInt8.toNat_inj.1 ?_
    simp
    omega
theorem u8_not {c : UInt8} {n : Nat} (hn : n < 256) {z : Bool} (h : ((c.toNat : Int) != (n : Int)) = z) : c = UInt8.ofNat n ↔ z = false := by
  have := u8_is (c := c) hn (z := !z) (by rw [← h]; simp [bne])
  rw [this]
  cases z <;> simp
end Go.Proofs.YtfpmcomigolacaaGreatDoor.words
