/-
  The contracts of stamp.LE and of watershedref04.LE, at any two times.
-/
import Derived.Test.YtlbphlhbofjfgaaDoorJChk
import Derived.Deep.QuietTactic
import Derived.BigQuiet
namespace Go.Proofs.YtlbphlhbofjfgaaDoor.stamp
open Go.ChangeShapes Go.WideShapes Go.ChangeAt Go.RowKit
open Go.Proofs.YtlbphlhbofjfgaaDoor.tm Go.Proofs.YtlbphlhbofjfgaaDoor.opened Go.Proofs.YtlbphlhbofjfgaaDoor.block

theorem ret_bool {a b : Bool} (h : a = b) : Ending.returned (.bool a) = .returned (.bool b) := by rw [h]
theorem fresh2 (w : World) (o o' : Obj) : Below w.heap.size w ((w.alloc o).alloc o') := ((Below.refl _ _).alloc (Nat.le_refl _) _).alloc (by simp) _
end Go.Proofs.YtlbphlhbofjfgaaDoor.stamp
