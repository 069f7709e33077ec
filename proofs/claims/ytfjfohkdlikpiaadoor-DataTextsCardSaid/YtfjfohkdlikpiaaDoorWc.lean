/-
  The contracts of words.Lines, words.Split and words.Option, and of the comparison of two lists of texts.
-/
import Derived.Test.YtfjfohkdlikpiaaDoorOs
import Derived.Test.YtfjfohkdlikpiaaDoorLayW
import Derived.Deep.QuietTactic
import Derived.BigQuiet
import Derived.WalkKit
namespace Go.Proofs.YtfjfohkdlikpiaaDoor.words
open Go.ChangeShapes Go.WideShapes Go.ChangeAt Go.RowKit
open Go.Proofs.YtfjfohkdlikpiaaDoor.opened Go.Proofs.YtfjfohkdlikpiaaDoor.block

theorem cut_any (s : Bs) (x : UInt8) (hs : s.length ≤ 100000) (w : World) (hm : MaxIs w) :
    Calls Tryd.prog 17 #[.string ⟨s.toArray⟩, .string ⟨#[x]⟩] w fun e w' => e = .returned (.tuple #[sV (Lib.cut s [x]).1, sV (Lib.cut s [x]).2.1, .bool (Lib.cut s [x]).2.2]) ∧ Below w.heap.size w w' := by
  obtain ⟨m, hm⟩ := hm
  refine (Any.strings_Cut Tryd.lays145 ⟨s.toArray⟩ ⟨#[x]⟩ m w (by show s.toArray.size < _; simp; omega) hm).mono ?_
  rintro e w' ⟨he, n, rfl⟩
  exact ⟨he, below_drewN (Below.refl _ _) n⟩
theorem opt_drop {name x : Bs} (h : optF name x = true) : Lib.trimPrefix x (name ++ [61]) = x.drop (name.length + 1) := by
  unfold Lib.trimPrefix
  rw [show Lib.hasPrefix x (name ++ [61]) = true from h, if_pos rfl]
  simp
theorem str_app (a b : Bs) : ({ data := a.toArray } : ByteArray) ++ { data := b.toArray } = ⟨(a ++ b).toArray⟩ := ByteArray.ext (by simp)
end Go.Proofs.YtfjfohkdlikpiaaDoor.words
