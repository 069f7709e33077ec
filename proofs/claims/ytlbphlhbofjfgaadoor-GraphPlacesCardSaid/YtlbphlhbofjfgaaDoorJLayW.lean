/-
  The shelf of words, where the seat has none of it.
-/
import Derived.Shelf.Lay
import Derived.Test.YtlbphlhbofjfgaaDoorProg
namespace Go.Proofs.YtlbphlhbofjfgaaDoor.words
end Go.Proofs.YtlbphlhbofjfgaaDoor.words
