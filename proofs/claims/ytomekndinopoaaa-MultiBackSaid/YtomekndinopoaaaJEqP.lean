/-
  '==' of two paths.
  Two paths are not the same: the model's '!=', off its '=='.
-/
import Derived.Test.YtomekndinopoaaaJOpen
import Derived.Test.YtomekndinopoaaaJTm
namespace Go.Proofs.Ytomekndinopoaaa.path
open Go.ChangeShapes Go.WideShapes Go.ChangeAt Go.RowKit
open Go.Proofs.Ytomekndinopoaaa.tm Go.Proofs.Ytomekndinopoaaa.opened Go.Proofs.Ytomekndinopoaaa.block Go.Proofs.Ytomekndinopoaaa.stamp Go.Proofs.Ytomekndinopoaaa.pa

theorem range4 : List.range 4 = [0, 1, 2, 3] := by decide
theorem run_part3 (l : Array Value) (k : Nat) (w : World) : (part 31 l k).run Try.prog w = .ok (.agg (l.extract k (k + 3))) w := by
  have h := size23
  cases hq : Try.prog.info? 31 with
  | none => simp [hq] at h
  | some i =>
    have hs : i.size = 3 := by simpa [hq] using h
    simp [part, Sem.run_bind, sizeOf, typeInfo, hq, hs]
/-- Are two paths one? -/
def eqP (p q : Pa) : Bool := decide (p = q)
theorem eqP_self (p : Pa) : eqP p p = true := by simp [eqP]
theorem eqP_no {p q : Pa} (h : p ≠ q) : eqP p q = false := by simp [eqP, h]
end Go.Proofs.Ytomekndinopoaaa.path
namespace Go.Proofs.Ytomekndinopoaaa.path
open Go.ChangeShapes Go.WideShapes Go.ChangeAt Go.RowKit
open Go.Proofs.Ytomekndinopoaaa.tm Go.Proofs.Ytomekndinopoaaa.opened Go.Proofs.Ytomekndinopoaaa.block Go.Proofs.Ytomekndinopoaaa.stamp Go.Proofs.Ytomekndinopoaaa.pa

theorem run_ne_agg {P : Program} {t : TypeId} {x y : Array Value} {b : Bool} {w : World} (h : (binOp .eql t (.agg x) (.agg y)).run P w = .ok (.bool b) w) : (binOp .neq t (.agg x) (.agg y)).run P w = .ok (.bool (!b)) w := by
  simp only [binOp, Sem.run_bind, Sem.run_pure] at h ⊢
  cases hr : (Op.equal t (.agg x) (.agg y)).run P w with
  | ok v w2 =>
    rw [hr] at h
    simp only [Result.andThen_ok] at h ⊢
    injection h with h1 h2
    injection h1 with h1
    rw [h1, h2]
  | _ => rw [hr] at h; simp [Result.andThen] at h
end Go.Proofs.Ytomekndinopoaaa.path
