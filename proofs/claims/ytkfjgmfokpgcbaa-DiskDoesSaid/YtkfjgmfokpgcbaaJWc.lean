/-
  The contracts of words.Lines, words.Split and words.Option, and of the comparison of two lists of texts.
-/
import Derived.Test.YtkfjgmfokpgcbaaJBlock
import Derived.Test.YtkfjgmfokpgcbaaJLayW
import Derived.Deep.QuietTactic
import Derived.BigQuiet
import Derived.WalkKit
namespace Go.Proofs.Ytkfjgmfokpgcbaa.words
open Go.ChangeShapes Go.WideShapes Go.ChangeAt Go.RowKit
open Go.Proofs.Ytkfjgmfokpgcbaa.opened Go.Proofs.Ytkfjgmfokpgcbaa.block

theorem opt_drop {name x : Bs} (h : optF name x = true) : Lib.trimPrefix x (name ++ [61]) = x.drop (name.length + 1) := by
  unfold Lib.trimPrefix
  rw [show Lib.hasPrefix x (name ++ [61]) = true from h, if_pos rfl]
  simp
theorem str_app (a b : Bs) : ({ data := a.toArray } : ByteArray) ++ { data := b.toArray } = ⟨(a ++ b).toArray⟩ := ByteArray.ext (by simp)
end Go.Proofs.Ytkfjgmfokpgcbaa.words
