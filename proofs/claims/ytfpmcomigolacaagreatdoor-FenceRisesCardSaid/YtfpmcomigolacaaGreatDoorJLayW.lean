/-
  (The layings are in LayL.)
-/
import Derived.Test.YtfpmcomigolacaaGreatDoorProg
set_option linter.unusedSimpArgs false
set_option linter.unusedVariables false
