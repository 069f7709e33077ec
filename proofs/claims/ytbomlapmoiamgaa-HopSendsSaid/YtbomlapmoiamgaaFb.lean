/-
  Operations of a drawn region, by their operands' values. It names no number of a program.
-/
import Derived.Test.YtbomlapmoiamgaaFa
set_option linter.unusedSimpArgs false
set_option linter.unusedVariables false
namespace Go.Proofs.Ytbomlapmoiamgaa.region
open Go.ChangeShapes Go.WideShapes Go.ChangeAt Go.RowKit
open Go.Proofs.Ytbomlapmoiamgaa.opened Go.Proofs.Ytbomlapmoiamgaa.block
section
variable {P : Program} {w : World} {o : Oper} {ρ : Operand → Value}
theorem yields_nilCheck {x : Operand} {a : Addr} (ho : o.op = .nilCheck x) (hx : ρ x = .pointer (some a)) : Yields P o ρ w (Is (.pointer (some a))) := by
  refine yields_run (u := .pointer (some a)) (w' := w) ?_ (Below.refl _ _) rfl
  unfold execOp
  simp [ho, go_sem, hx]
theorem yields_len {x : Operand} {t e : TypeId} {A : Option Addr} {n c : Nat} (ho : o.op = .call { callee := .builtin .len, args := #[x], argTypes := #[t] }) (ht : P.underlying t = some (.slice e)) (hx : ρ x = .slice A n c) : Yields P o ρ w (Is (.int .i64 (n : Int))) := by
  refine yields_run (u := .int .i64 (n : Int)) (w' := w) ?_ (Below.refl _ _) rfl
  unfold execOp
  simp [ho, go_sem, hx, ht]
theorem yields_pick_false {c a b : Operand} {v : Value} (ho : o.op = .pick c a b) (hc : ρ c = .bool false) (hb : ρ b = v) : Yields P o ρ w (Is v) := by
  refine yields_run (u := v) (w' := w) ?_ (Below.refl _ _) rfl
  unfold execOp
  simp [ho, go_sem, hc, hb]
end
end Go.Proofs.Ytbomlapmoiamgaa.region
