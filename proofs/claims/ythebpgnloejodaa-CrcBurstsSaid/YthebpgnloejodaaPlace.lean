/-
  A place in a text, drawn by an int.
-/
import Derived.WalkKit
import Derived.ProofKit
namespace Go.Proofs.Ythebpgnloejodaa.crc
theorem wrap_u64_bd (n : Int) : 0 ≤ IntKind.u64.wrap n ∧ IntKind.u64.wrap n ≤ 18446744073709551615 := by
  simp [IntKind.wrap, IntKind.bits, IntKind.signed]
  omega
theorem place (n : Int) {d : Nat} (h : 1 ≤ d) (h2 : d ≤ 281474976710656) : ∃ k : Nat, (IntKind.u64.wrap n).tmod (d : Int) = (k : Int) ∧ k < d := by
  have hu := (wrap_u64_bd n).1
  have h0 := Int.emod_nonneg (IntKind.u64.wrap n) (show (d : Int) ≠ 0 by omega)
  have h1 := Int.emod_lt_of_pos (IntKind.u64.wrap n) (show (0 : Int) < (d : Int) by omega)
  rw [Int.tmod_eq_emod_of_nonneg hu]
  exact ⟨(IntKind.u64.wrap n % (d : Int)).toNat, by omega, by omega⟩
end Go.Proofs.Ythebpgnloejodaa.crc
