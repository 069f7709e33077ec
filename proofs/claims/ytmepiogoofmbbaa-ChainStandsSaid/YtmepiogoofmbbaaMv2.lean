/-
  The contracts of what makes one time of another, where nothing is wrong.
-/
import Derived.Test.YtmepiogoofmbbaaMv
namespace Go.Proofs.Ytmepiogoofmbbaa.stamp
open Go.ChangeShapes Go.WideShapes Go.ChangeAt Go.RowKit
open Go.Proofs.Ytmepiogoofmbbaa.tm Go.Proofs.Ytmepiogoofmbbaa.opened Go.Proofs.Ytmepiogoofmbbaa.block

theorem fst2 {w w1 : World} {o o' : Obj} (b1 : Below ((w.alloc o).alloc o').heap.size ((w.alloc o).alloc o') w1) {cs : Array Value} (ho : o = .cells cs 26) : Whole w1 w.heap.size 26 cs := by
  subst ho
  exact Whole.below (Whole.alloc (Whole.fresh w 26 cs) _) b1 (by simp; omega)
theorem put_other {w : World} {g : Nat} {t : TypeId} {cs : Array Value} (h : Whole w g t cs) (i : Nat) : ∀ (v : Value) (j : Nat), i ≠ j → (w.setCell ⟨g, i, none⟩ v).cell? ⟨g, j, none⟩ = cs[j]? := fun v j hj => by
  rw [(h.store i v).read j, Array.getElem?_setIfInBounds_ne hj]
theorem put_same {w : World} {g : Nat} {t : TypeId} {cs : Array Value} (h : Whole w g t cs) (i : Nat) (hi : i < cs.size) : ∀ v : Value, (w.setCell ⟨g, i, none⟩ v).cell? ⟨g, i, none⟩ = some v := fun v => by
  rw [(h.store i v).read i]
  simp [hi]
theorem put2_other {w : World} {g : Nat} {t : TypeId} {cs : Array Value} (h : Whole w g t cs) (i k : Nat) : ∀ (u v : Value) (j : Nat), i ≠ j → k ≠ j → ((w.setCell ⟨g, i, none⟩ u).setCell ⟨g, k, none⟩ v).cell? ⟨g, j, none⟩ = cs[j]? := fun u v j hi hk => by
  rw [((h.store i u).store k v).read j, Array.getElem?_setIfInBounds_ne hk, Array.getElem?_setIfInBounds_ne hi]
theorem put2_first {w : World} {g : Nat} {t : TypeId} {cs : Array Value} (h : Whole w g t cs) (i k : Nat) (hik : k ≠ i) (hi : i < cs.size) : ∀ u v : Value, ((w.setCell ⟨g, i, none⟩ u).setCell ⟨g, k, none⟩ v).cell? ⟨g, i, none⟩ = some u := fun u v => by
  rw [((h.store i u).store k v).read i, Array.getElem?_setIfInBounds_ne hik]
  simp [hi]
theorem put2_second {w : World} {g : Nat} {t : TypeId} {cs : Array Value} (h : Whole w g t cs) (i k : Nat) (hk : k < cs.size) : ∀ u v : Value, ((w.setCell ⟨g, i, none⟩ u).setCell ⟨g, k, none⟩ v).cell? ⟨g, k, none⟩ = some v := fun u v => by
  rw [((h.store i u).store k v).read k]
  simp [hk]
end Go.Proofs.Ytmepiogoofmbbaa.stamp
