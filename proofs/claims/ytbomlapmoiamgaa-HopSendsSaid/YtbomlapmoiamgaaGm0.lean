/-
  Elements of any kind that lie behind one another.
-/
import Derived.Test.YtbomlapmoiamgaaOs
set_option linter.unusedSimpArgs false
set_option linter.unusedVariables false
namespace Go.Proofs.Ytbomlapmoiamgaa.graph
open Go.ChangeShapes Go.WideShapes Go.ChangeAt Go.RowKit
open Go.Proofs.Ytbomlapmoiamgaa.opened Go.Proofs.Ytbomlapmoiamgaa.block Go.Proofs.Ytbomlapmoiamgaa.words

/-- A row of parts. -/
def Lg {α : Type} (m : Nat) (f : α → List Value) (w : World) (A : Option Addr) (M : List α) : Prop := LiesN w A m (M.map f)
theorem Lg.below {α : Type} {m : Nat} {f : α → List Value} {w w' : World} {A : Option Addr} {M : List α} (h : Lg m f w A M) (hb : Below w.heap.size w w') : Lg m f w' A M := by
  rcases h with h | ⟨b, off, hA, hbl, hc⟩
  · exact .inl h
  · exact .inr ⟨b, off, hA, Nat.lt_of_lt_of_le hbl hb.size, fun i x hx => ⟨(hc i x hx).1, fun j hj => (hb.cell (p := ⟨b, off + (i * m + j), none⟩) hbl).trans ((hc i x hx).2 j hj)⟩⟩
theorem Lg.cells {α : Type} {m : Nat} {f : α → List Value} {w : World} {A : Option Addr} {M : List α} (h : Lg m f w A M) {k : Nat} {p : α} (hk : M[k]? = some p) :
    ∃ b off, A = some ⟨b, off, none⟩ ∧ b < w.heap.size ∧ ∀ j, j < m → w.cell? ⟨b, off + (k * m + j), none⟩ = (f p)[j]? := by
  rcases h with h | ⟨b, off, hA, hbl, hc⟩
  · have : M = [] := by simpa using h
    subst this
    simp at hk
  · have hx : (M.map f)[k]? = some (f p) := by rw [List.getElem?_map, hk]; rfl
    exact ⟨b, off, hA, hbl, (hc k (f p) hx).2⟩
end Go.Proofs.Ytbomlapmoiamgaa.graph
