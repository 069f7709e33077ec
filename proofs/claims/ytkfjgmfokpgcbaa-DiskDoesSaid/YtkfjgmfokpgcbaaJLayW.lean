/-
  The shelf of words, where the seat has none of it.
-/
import Derived.Shelf.Lay
import Derived.Test.YtkfjgmfokpgcbaaProg
namespace Go.Proofs.Ytkfjgmfokpgcbaa.words
end Go.Proofs.Ytkfjgmfokpgcbaa.words
