/-
  '==' of two paths.
-/
import Derived.Test.YtpjlefdigpejdaaEq
import Derived.Test.YtpjlefdigpejdaaPa
namespace Go.Proofs.Ytpjlefdigpejdaa.path
open Go.ChangeShapes Go.WideShapes Go.ChangeAt Go.RowKit
open Go.Proofs.Ytpjlefdigpejdaa.tm Go.Proofs.Ytpjlefdigpejdaa.opened Go.Proofs.Ytpjlefdigpejdaa.block Go.Proofs.Ytpjlefdigpejdaa.stamp Go.Proofs.Ytpjlefdigpejdaa.pa

theorem range4 : List.range 4 = [0, 1, 2, 3] := by decide
theorem run_part3 (l : Array Value) (k : Nat) (w : World) : (part 31 l k).run Try.prog w = .ok (.agg (l.extract k (k + 3))) w := by
  have h := size23
  cases hq : Try.prog.info? 31 with
  | none => simp [hq] at h
  | some i =>
    have hs : i.size = 3 := by simpa [hq] using h
    simp [part, Sem.run_bind, sizeOf, typeInfo, hq, hs]
/-- Are two paths one? -/
def eqP (p q : Pa) : Bool := decide (p = q)
theorem eqP_self (p : Pa) : eqP p p = true := by simp [eqP]
theorem eqP_no {p q : Pa} (h : p ≠ q) : eqP p q = false := by simp [eqP, h]
end Go.Proofs.Ytpjlefdigpejdaa.path
