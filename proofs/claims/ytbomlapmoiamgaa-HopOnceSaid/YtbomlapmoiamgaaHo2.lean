/-
  Numbers that are drawn from others.
-/
import Derived.Test.YtbomlapmoiamgaaHo1
set_option linter.unusedSimpArgs false
set_option linter.unusedVariables false
namespace Go.Proofs.Ytbomlapmoiamgaa.hop
open Go.ChangeShapes Go.WideShapes Go.ChangeAt Go.RowKit
open Go.Proofs.Ytbomlapmoiamgaa.opened Go.Proofs.Ytbomlapmoiamgaa.block Go.Proofs.Ytbomlapmoiamgaa.words Go.Proofs.Ytbomlapmoiamgaa.region
set_option maxRecDepth 100000 in
theorem one_mod (n : Int) (q : Nat) (hq : 0 < q) (hq2 : q < 1000000) : ∃ m : Nat, 1 ≤ m ∧ m ≤ q ∧ wrap64 (1 + wrap64 ((IntKind.u64.wrap n).tmod (q : Int))) = (m : Int) := by
  have h0 : 0 ≤ IntKind.u64.wrap n := by rw [IntKind.wrap_u64]; omega
  rw [Int.tmod_eq_emod_of_nonneg h0]
  generalize IntKind.u64.wrap n = z at h0
  have hz0 : 0 ≤ z % (q : Int) := Int.emod_nonneg _ (by omega)
  have hz1 : z % (q : Int) < q := Int.emod_lt_of_pos _ (by omega)
  refine ⟨(1 + z % (q : Int)).toNat, by omega, by omega, ?_⟩
  rw [IntWalk.wrap64_in (z % (q : Int)) ⟨by omega, by omega⟩, IntWalk.wrap64_in _ ⟨by omega, by omega⟩]
  omega
end Go.Proofs.Ytbomlapmoiamgaa.hop
