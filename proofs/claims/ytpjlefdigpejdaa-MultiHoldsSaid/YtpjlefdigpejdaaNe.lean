/-
  Two paths are not the same: the model's '!=', off its '=='.
-/
import Derived.Test.YtpjlefdigpejdaaEqP
namespace Go.Proofs.Ytpjlefdigpejdaa.path
open Go.ChangeShapes Go.WideShapes Go.ChangeAt Go.RowKit
open Go.Proofs.Ytpjlefdigpejdaa.tm Go.Proofs.Ytpjlefdigpejdaa.opened Go.Proofs.Ytpjlefdigpejdaa.block Go.Proofs.Ytpjlefdigpejdaa.stamp Go.Proofs.Ytpjlefdigpejdaa.pa

theorem run_ne_agg {P : Program} {t : TypeId} {x y : Array Value} {b : Bool} {w : World} (h : (binOp .eql t (.agg x) (.agg y)).run P w = .ok (.bool b) w) : (binOp .neq t (.agg x) (.agg y)).run P w = .ok (.bool (!b)) w := by
  simp only [binOp, Sem.run_bind, Sem.run_pure] at h ⊢
  cases hr : (Op.equal t (.agg x) (.agg y)).run P w with
  | ok v w2 =>
    rw [hr] at h
    simp only [Result.andThen_ok] at h ⊢
    injection h with h1 h2
    injection h1 with h1
    rw [h1, h2]
  | _ => rw [hr] at h; simp [Result.andThen] at h
end Go.Proofs.Ytpjlefdigpejdaa.path
