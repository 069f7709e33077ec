/-
  The contracts of chain.LE, watershedref06.LE and of slices.Equal over times.
-/
import Derived.Test.YtpjlefdigpejdaaHd
namespace Go.Proofs.Ytpjlefdigpejdaa.chain
open Go.ChangeShapes Go.WideShapes Go.ChangeAt Go.RowKit Go.Shelf
open Go.Proofs.Ytpjlefdigpejdaa.tm Go.Proofs.Ytpjlefdigpejdaa.opened Go.Proofs.Ytpjlefdigpejdaa.block Go.Proofs.Ytpjlefdigpejdaa.stamp

/-- Is a list of times not behind another one? -/
def leL (L M : List Tm) : Bool := M.all fun t => holdsB L t
theorem all_no {M : List Tm} {k : Nat} {t : Tm} {p : Tm → Bool} (hk : M[k]? = some t) (h : p t = false) : M.all p = false := by
  rw [← Bool.not_eq_true, List.all_eq_true]
  exact fun hh => by rw [hh t (List.mem_of_getElem? hk)] at h; cases h
theorem all_of_take {M : List Tm} {p : Tm → Bool} (h : ∀ y ∈ M, p y = true) : M.all p = true := List.all_eq_true.2 h
instance : Inhabited Tm := ⟨T0⟩
theorem neqT : NeqAt Try.prog 33 (fun t : Tm => .agg (cT t).toArray) eqT := ⟨fun x y w => run_neT x y w, GuardAt.agg _ (by kernel_rfl)⟩
theorem cell_cT {w : World} {A : Option Addr} {L : List Tm} {b off : Nat} (hL : Lt w A L) (hA : A = some ⟨b, off, none⟩) (j : Nat) (hj : j < L.length) (i : Nat) (v : Value) (hi : (cT L[j]!)[i]? = some v) : w.cell? ⟨b, off + j * 5 + i, none⟩ = some v := by
  have e : L[j]? = some L[j]! := by rw [getElem!_pos L j hj]; exact List.getElem?_eq_getElem hj
  obtain ⟨b', off', hA', -, c0, c1, c2, c3, c4⟩ := hL.at e
  rw [hA] at hA'
  injection (Option.some.inj hA') with h1 h2
  subst h1 h2
  generalize L[j]! = x at hi c0 c1 c2 c3 c4
  match i, hi with
  | 0, hi => simp [cT] at hi; rw [← hi]; exact c0
  | 1, hi => simp [cT] at hi; rw [← hi]; exact c1
  | 2, hi => simp [cT] at hi; rw [← hi]; exact c2
  | 3, hi => simp [cT] at hi; rw [← hi]; exact c3
  | 4, hi => simp [cT] at hi; rw [← hi]; exact c4
  | i + 5, hi => simp [cT] at hi
end Go.Proofs.Ytpjlefdigpejdaa.chain
