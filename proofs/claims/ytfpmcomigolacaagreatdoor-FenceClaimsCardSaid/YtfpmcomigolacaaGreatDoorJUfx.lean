/-
  What holds of the whole cut, for each of its laws (closed facts).
-/
import Derived.Test.YtfpmcomigolacaaGreatDoorRows
import Derived.ProofKit
import Derived.OpenShut
import Derived.Stop.Joined
import Derived.Handed
set_option linter.unusedSimpArgs false
set_option linter.unusedVariables false
namespace Go.Proofs.YtfpmcomigolacaaGreatDoor.whole
open Go.ChangeShapes Go.WideShapes Go.ChangeAt Go.RowKit
theorem a1 : mapsRowed Tryz.prog = true := by kernel_rfl
theorem a2 : laidOutB Tryz.prog = true := by kernel_rfl
theorem a3 : Tryz.prog.stopsHeard = true := by kernel_rfl
theorem a4 : Tryz.prog.mayEnter = true := by kernel_rfl
theorem a5 : (Tryz.prog.stops == []) = true := by kernel_rfl
theorem a6 : Tryz.prog.liftsFinal = false := by kernel_rfl
theorem a7 : Tryz.prog.plainKeys = true := by kernel_rfl
end Go.Proofs.YtfpmcomigolacaaGreatDoor.whole
