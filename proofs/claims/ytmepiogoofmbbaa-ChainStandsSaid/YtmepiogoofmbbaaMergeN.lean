/-
  The contracts of stamp.merge with the lesser of two.
-/
import Derived.Test.YtmepiogoofmbbaaMerge
namespace Go.Proofs.Ytmepiogoofmbbaa.stamp
open Go.ChangeShapes Go.WideShapes Go.ChangeAt Go.RowKit
open Go.Proofs.Ytmepiogoofmbbaa.tm Go.Proofs.Ytmepiogoofmbbaa.opened Go.Proofs.Ytmepiogoofmbbaa.block

end Go.Proofs.Ytmepiogoofmbbaa.stamp
