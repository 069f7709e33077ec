/-
  A row of a nest grows by a record, and its slice is stored: what holds throughout a region that does so.
  The contract of the document's Cut (by gen_ct.py).
-/
import Derived.Test.YtkfjgmfokpgcbaaGreatDoorJDe
import Derived.Handy
import Derived.BigQuiet
import Derived.Test.YtkfjgmfokpgcbaaGreatDoorJDo
namespace Go.Proofs.YtkfjgmfokpgcbaaGreatDoor.data
open Go.ChangeShapes Go.WideShapes Go.ChangeAt Go.RowKit
open Go.Proofs.YtkfjgmfokpgcbaaGreatDoor.opened Go.Proofs.YtkfjgmfokpgcbaaGreatDoor.block Go.Proofs.YtkfjgmfokpgcbaaGreatDoor.region

/-- What holds throughout: nothing elder has turned; a record lies in its place. -/
structure RN (w wx : World) (b e : Nat) (x : Rc) (w7 : World) : Prop where
  old : Below w.heap.size w w7
  size : wx.heap.size ≤ w7.heap.size
  c0 : w7.cell? ⟨b, e, none⟩ = some (.int .i64 x.k)
  c1 : w7.cell? ⟨b, e + 1, none⟩ = some (.int .i64 x.v)
theorem RN.run {w wx w7 w8 : World} {b e : Nat} {x : Rc} (h : RN w wx b e x w7) (hw : w.heap.size ≤ wx.heap.size) (hb : b < wx.heap.size) (k : Below w7.heap.size w7 w8) : RN w wx b e x w8 :=
  ⟨h.old.trans (k.mono (Nat.le_trans hw h.size)), Nat.le_trans h.size k.size, (k.cell (p := ⟨b, e, none⟩) (Nat.lt_of_lt_of_le hb h.size)).trans h.c0, (k.cell (p := ⟨b, e + 1, none⟩) (Nat.lt_of_lt_of_le hb h.size)).trans h.c1⟩
theorem RN.grow {w wx w7 w8 : World} {b e : Nat} {x : Rc} {row : Option Nat} (h : RN w wx b e x w7) (hw : w.heap.size ≤ wx.heap.size) (hne : some b ≠ row) (hlo : ∀ j, row = some j → w.heap.size ≤ j) (k : w7.grownBy w8 row) : RN w wx b e x w8 :=
  ⟨h.old.grown k (Nat.le_trans hw h.size) hlo, Nat.le_trans h.size k.size, k.cell h.c0 hne, k.cell h.c1 hne⟩
theorem flat_one (x : Rc) : ([x].flatMap cR) = cR x := by simp
theorem own_snoc {w : World} {base : Nat} {v : Value} {N : List Rc} {x : Rc} (h : w.ownsRow base 33 2 v (N.length + 1) (N.flatMap cR ++ cR x)) : OwnR w base v (N ++ [x]) := by
  unfold OwnR OwnG
  rw [List.length_append, List.flatMap_append, flat_one]
  exact h
/-- What a region that lets row i grow by a record wants. -/
structure Rdy (w wx : World) (g n cap i : Nat) (vs : List Value) (NN : List (List Rc)) (B : Option Addr) (c0 : Nat) (N : List Rc) (b e : Nat) (x : Rc) : Prop where
  wl : w.heap.size ≤ wx.heap.size
  eb : b < wx.heap.size
  r0 : RN w wx b e x wx
  gw : g < wx.heap.size
  cv : wx.cell? ⟨g, i, none⟩ = some (.slice B N.length c0)
  rl : ∀ gx, (Value.slice B N.length c0).ownBlock = some gx → gx < wx.heap.size
  ro : OwnR wx w.heap.size (.slice B N.length c0) N
  rb : some b ≠ (Value.slice B N.length c0).ownBlock
  ra : ∀ j, (Value.slice B N.length c0).ownBlock = some j → w.heap.size ≤ j
  rg : some b ≠ some g
  gl : ∀ j, some g = some j → w.heap.size ≤ j
  ga : some g ≠ (Value.slice B N.length c0).ownBlock
  gs : ∃ o, wx.heap[g]? = some o
  hl : vs.length = n
  hn : Nest 22 33 2 cR wx w.heap.size (.slice (some ⟨g, 0, none⟩) n cap) vs NN
  hv : vs[i]? = some (.slice B N.length c0)
  hm : NN[i]? = some N
/-- The record lies outside of the nest: in a block that is elder, or newer. -/
theorem rdy_of {w wx : World} {g n cap i : Nat} {vs : List Value} {NN : List (List Rc)} {N : List Rc} {b e : Nat} {x : Rc} (hl : vs.length = n) (hn : Nest 22 33 2 cR wx w.heap.size (.slice (some ⟨g, 0, none⟩) n cap) vs NN)
    (hm : NN[i]? = some N) (hB : Below w.heap.size w wx) (eb : b < wx.heap.size) (hb : b < w.heap.size ∨ (b ≠ g ∧ ∀ v ∈ vs, v.ownBlock ≠ some b)) (c0 : wx.cell? ⟨b, e, none⟩ = some (.int .i64 x.k)) (c1 : wx.cell? ⟨b, e + 1, none⟩ = some (.int .i64 x.v)) :
    ∃ B c0, Rdy w wx g n cap i vs NN B c0 N b e x := by
  have hi := (List.getElem?_eq_some_iff.1 hm).1
  have hv : vs[i]? = some (vs[i]'(by rw [hn.len]; exact hi)) := List.getElem?_eq_getElem (by rw [hn.len]; exact hi)
  have ro := hn.row i _ N hv hm
  obtain ⟨B, c0', e', -, -⟩ := ro.shape
  rw [e'] at ro hv
  obtain ⟨k1, k2, k3, k4⟩ := hn.cell hv
  have hoff : ∀ k, (Value.slice B N.length c0').ownBlock = some k → k ≠ g := fun k hk e => hn.off i _ hv k hk (by rw [e]; rfl)
  refine ⟨B, c0', hB.size, eb, ⟨hB, Nat.le_refl _, c0, c1⟩, k3, k1, fun gx h => (ro.lt gx h).2, ro, ?_, fun j h => (ro.lt j h).1, ?_, fun j h => by cases h; exact k4, fun h => hoff g h.symm rfl, ⟨_, Array.getElem?_eq_getElem k3⟩, hl, hn, hv, hm⟩
  · intro h
    rcases hb with hb | ⟨-, hb⟩
    · have := (ro.lt b h.symm).1; omega
    · exact hb _ (List.mem_of_getElem? hv) h.symm
  · intro h
    injection h with h
    rcases hb with hb | ⟨hb, -⟩
    · omega
    · exact hb h
end Go.Proofs.YtkfjgmfokpgcbaaGreatDoor.data
namespace Go.Proofs.YtkfjgmfokpgcbaaGreatDoor.data
open Go.ChangeShapes Go.WideShapes Go.ChangeAt Go.RowKit
open Go.Proofs.YtkfjgmfokpgcbaaGreatDoor.opened Go.Proofs.YtkfjgmfokpgcbaaGreatDoor.block Go.Proofs.YtkfjgmfokpgcbaaGreatDoor.region

theorem set_last {α : Type} (NN : List (List α)) (x : α) : (NN ++ [[]]).set NN.length ([] ++ [x]) = NN ++ [[x]] := by
  rw [List.set_append_right _ _ (Nat.le_refl _), Nat.sub_self]
  rfl
end Go.Proofs.YtkfjgmfokpgcbaaGreatDoor.data
