/-
  An index of a slice in a drawn region. It names no number of a program.
-/
import Derived.Test.YtbomlapmoiamgaaOg
set_option linter.unusedSimpArgs false
set_option linter.unusedVariables false
set_option linter.unusedSimpArgs false
namespace Go.Proofs.Ytbomlapmoiamgaa.region
open Go.ChangeShapes Go.WideShapes Go.ChangeAt Go.RowKit
open Go.Proofs.Ytbomlapmoiamgaa.opened Go.Proofs.Ytbomlapmoiamgaa.block
theorem yields_index {P : Program} {w : World} {o : Oper} {ρ : Operand → Value} {ty : TypeId} {x y : Operand} (ho : o.op = .indexAddr ty x y) {b off n c i m : Nat} {e : TypeId} (hx : ρ x = .slice (some ⟨b, off, none⟩) n c) (hy : ρ y = .int .i64 i) (hi : i < n)
    (ht : P.underlying ty = some (.slice e)) (hs : ∀ w, (sizeOf e).run P w = .ok m w) : Yields P o ρ w (Is (.pointer (some ⟨b, off + i * m, none⟩))) := by
  refine yields_run (u := .pointer (some ⟨b, off + i * m, none⟩)) (w' := w) ?_ (Below.refl _ _) rfl
  have h1 : 0 ≤ (i : Int) ∧ (i : Int) < (n : Int) := by omega
  unfold execOp
  simp [ho, hx, hy, go_sem, Instr.indexAt, Sem.run_bind, run_underlying ht, hs, h1, asIntOf, hi]
end Go.Proofs.Ytbomlapmoiamgaa.region
