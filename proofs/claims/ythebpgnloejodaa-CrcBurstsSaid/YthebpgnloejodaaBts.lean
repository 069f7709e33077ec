/-
  A row of bytes of the call's own, made of a text: what it holds, what a store makes of it, and the text that it is again.
-/
import Derived.WalkKit
import Derived.ProofKit
import Derived.Laws.IdiomStrings
import Derived.Laws.Rows
import Derived.Laws.NewBlocks
import Derived.Below
import Derived.Deep.Draws
namespace Go.Proofs.Ythebpgnloejodaa.bts
open Go.RowKit

/-- Block g begins with the bytes l, none of its cells frozen. -/
def Bts (w : World) (g : Nat) (e : TypeId) (l : List UInt8) : Prop :=
  ∃ (cs : Array Value) (fr : Nat × Nat), w.heap[g]? = some (.cells cs e fr) ∧ l.length ≤ cs.size ∧ cs.size ≤ fr.1 ∧ ∀ j (hj : j < l.length), cs[j]? = some (.int .u8 (l[j].toNat : Int))
section
variable {P : Program} {w w' : World} {g : Nat} {e : TypeId} {l : List UInt8}
theorem Bts.inside (h : Bts w g e l) : g < w.heap.size := by
  obtain ⟨cs, fr, hg, _⟩ := h
  exact (Array.getElem?_eq_some_iff.1 hg).1
theorem Bts.read (h : Bts w g e l) (j : Nat) (hj : j < l.length) : w.cell? ⟨g, j, none⟩ = some (.int .u8 (l[j].toNat : Int)) := by
  obtain ⟨cs, fr, hg, _, _, hc⟩ := h
  rw [cell_of_row w g j cs e fr hg]
  exact hc j hj
theorem Bts.soft (h : Bts w g e l) (j : Nat) (hj : j < l.length) : w.frozen? ⟨g, j, none⟩ = false := by
  obtain ⟨cs, fr, hg, h1, h2, _⟩ := h
  simp [World.frozen?, hg]
  omega
theorem Bts.drewN (h : Bts w g e l) (n : Nat) : Bts (w.drewN n) g e l := h
theorem Bts.drew (h : Bts w g e l) : Bts w.drew g e l := h
theorem Bts.alloc (h : Bts w g e l) (o : Obj) : Bts (w.alloc o) g e l := by
  have hin := h.inside
  obtain ⟨cs, fr, hg, hr⟩ := h
  exact ⟨cs, fr, (Below.heap_alloc w o g hin).trans hg, hr⟩
theorem Bts.below {B : Nat} (h : Bts w g e l) (hb : Below B w w') (hg : g < B) : Bts w' g e l := by
  obtain ⟨cs, fr, h1, hr⟩ := h
  exact ⟨cs, fr, (hb.block g hg).trans h1, hr⟩
theorem Bts.store (h : Bts w g e l) (j : Nat) (hj : j < l.length) (b : UInt8) : Bts (w.setCell ⟨g, j, none⟩ (.int .u8 (b.toNat : Int))) g e (l.set j b) := by
  obtain ⟨cs, fr, hg, h1, h2, hc⟩ := h
  refine ⟨cs.setIfInBounds j (.int .u8 (b.toNat : Int)), fr, ?_, by simpa using h1, by simpa using h2, ?_⟩
  · simp [World.setCell, Array.getElem?_modify, hg]
  · intro i hi
    rw [Array.getElem?_setIfInBounds]
    simp only [List.length_set] at hi
    by_cases hij : j = i
    · subst hij
      simp
      omega
    · rw [if_neg hij, hc i hi]
      simp [hij]
/-- '[]byte(s)'. -/
theorem bts_of_string {src dst : TypeId} (w : World) (l : List UInt8) (hs : P.underlying src = some .string) (hd : P.underlying dst = some (.slice e)) (he : P.underlying e = some (.int .u8)) :
    ∃ (cap : Nat) (w' : World), (convert src dst (.string ⟨l.toArray⟩)).run P w = .ok (.slice (some ⟨w.heap.size, 0, none⟩) l.length cap) w' ∧ Bts w' w.heap.size e l ∧ Below w.heap.size w w' := by
  refine ⟨_, _, run_bytes_of_string w src dst e ⟨l.toArray⟩ hs hd he, ?_, (Below.refl _ _).drew.alloc (Nat.le_refl _) _⟩
  refine ⟨_, _, heap_alloc_new w.drew _, ?_, Nat.le_refl _, ?_⟩
  · simp [bytesRow]
  · intro j hj
    rw [bytesRow_at _ _ _ (by simpa using hj)]
    simp
/-- 'string(b)'. -/
theorem Bts.text {src dst : TypeId} (h : Bts w g e l) (cap : Nat) (hs : P.underlying src = some (.slice e)) (hd : P.underlying dst = some .string) (he : P.underlying e = some (.int .u8)) :
    (convert src dst (.slice (some ⟨g, 0, none⟩) l.length cap)).run P w = .ok (.string ⟨l.toArray⟩) w := by
  refine run_convert_bytes_back w src dst e _ cap l hs he hd ?_
  intro j hj
  have ha : (⟨g, 0, none⟩ : Addr).add j = ⟨g, j, none⟩ := by
    unfold Addr.add
    by_cases h : j = 0 <;> simp [h]
  rw [ha]
  exact h.read j hj
end
end Go.Proofs.Ythebpgnloejodaa.bts
