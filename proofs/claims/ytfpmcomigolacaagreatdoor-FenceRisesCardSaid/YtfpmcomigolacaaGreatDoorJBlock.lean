/-
  A block that is known whole, over any program: what its cells are, and what leaves it as it is.
  Rows of strings: those that are one's own, and those that came in.
-/
import Derived.Below
import Derived.Laws.OwnMore
import Derived.Laws.Rows
import Derived.Laws.NewBlocks
import Derived.Deep.Draws
import Derived.OwnWalk
import Derived.Test.YtfpmcomigolacaaGreatDoorRows
import Derived.Test.YtfpmcomigolacaaGreatDoorJOpen
import Derived.Test.YtfpmcomigolacaaGreatDoorJWm
import Derived.OwnWalkIn
import Derived.Lib.Hide
import Derived.Maps.AppendAt
set_option linter.unusedSimpArgs false
set_option linter.unusedVariables false
namespace Go.Proofs.YtfpmcomigolacaaGreatDoor.block
open Go.RowKit

/-- Block g holds the cells cs, of type t, none of them frozen. -/
def Whole (w : World) (g : Nat) (t : TypeId) (cs : Array Value) : Prop := w.heap[g]? = some (.cells cs t (0, 0))
section
variable {w w' : World} {g : Nat} {t : TypeId} {cs : Array Value}
theorem Whole.inside (h : Whole w g t cs) : g < w.heap.size := by
  unfold Whole at h
  exact (Array.getElem?_eq_some_iff.1 h).1
theorem Whole.read (h : Whole w g t cs) (i : Nat) : w.cell? ⟨g, i, none⟩ = cs[i]? := cell_of_row w g i cs t (0, 0) h
theorem Whole.soft (h : Whole w g t cs) (i : Nat) : w.frozen? ⟨g, i, none⟩ = false := by
  unfold Whole at h
  simp [World.frozen?, h]
theorem Whole.fresh (w : World) (t : TypeId) (cs : Array Value) : Whole (w.alloc (.cells cs t)) w.heap.size t cs := heap_alloc_new w _
theorem Whole.drewN (h : Whole w g t cs) (n : Nat) : Whole (w.drewN n) g t cs := h
theorem Whole.alloc (h : Whole w g t cs) (o : Obj) : Whole (w.alloc o) g t cs := (Below.heap_alloc w o g h.inside).trans h
theorem Whole.store (h : Whole w g t cs) (i : Nat) (u : Value) : Whole (w.setCell ⟨g, i, none⟩ u) g t (cs.setIfInBounds i u) := by
  unfold Whole at h ⊢
  simp [World.setCell, Array.getElem?_modify, h]
theorem Whole.aside (h : Whole w g t cs) {p : Addr} (hp : g ≠ p.block) (u : Value) : Whole (w.setCell p u) g t cs := (Below.heap_setCell w p u g hp).trans h
theorem Whole.below {B : Nat} (h : Whole w g t cs) (hb : Below B w w') (hg : g < B) : Whole w' g t cs := (hb.block g hg).trans h
theorem Whole.grown {row : Option Nat} (h : Whole w g t cs) (hb : w.grownBy w' row) (hg : some g ≠ row) : Whole w' g t cs := (hb.block g h.inside hg).trans h
end

/-! Only block g may have turned; blocks may be new. -/
theorem only_trans {a b c : World} {row : Option Nat} (h : a.grownBy b row) (k : b.grownBy c row) : a.grownBy c row :=
  ⟨k.os.trans h.os, k.tape.trans h.tape, k.output.trans h.output, Nat.le_trans h.size k.size, fun i hi hne => (k.block i (Nat.lt_of_lt_of_le hi h.size) hne).trans (h.block i hi hne)⟩
theorem only_drewN {a w : World} {row : Option Nat} (h : a.grownBy w row) (n : Nat) : a.grownBy (w.drewN n) row := ⟨h.os, h.tape, h.output, h.size, h.block⟩
theorem only_alloc {a w : World} {row : Option Nat} (h : a.grownBy w row) (o : Obj) : a.grownBy (w.alloc o) row :=
  ⟨h.os, h.tape, h.output, Nat.le_trans h.size (by simp), fun i hi hne => (Below.heap_alloc w o i (Nat.lt_of_lt_of_le hi h.size)).trans (h.block i hi hne)⟩
theorem only_store {a w : World} {g i : Nat} (h : a.grownBy w (some g)) (u : Value) : a.grownBy (w.setCell ⟨g, i, none⟩ u) (some g) :=
  ⟨h.os, h.tape, h.output, by simpa [World.setCell] using h.size, fun k hk hne => (Below.heap_setCell w _ u k (by
    rintro rfl
    exact hne rfl)).trans (h.block k hk hne)⟩
theorem only_of_below {a w : World} (h : Below a.heap.size a w) (row : Option Nat) : a.grownBy w row := ⟨h.os, h.tape, h.output, h.size, fun i hi _ => h.block i hi⟩
theorem only_of_none {a w : World} (h : a.grownBy w none) (row : Option Nat) : a.grownBy w row := ⟨h.os, h.tape, h.output, h.size, fun i hi _ => h.block i hi (by simp)⟩
theorem below_only {B g : Nat} {a w w' : World} (h : Below B a w) (k : w.grownBy w' (some g)) (hB : B ≤ w.heap.size) (hg : B ≤ g) : Below B a w' :=
  h.grown k hB (by rintro j hj; injection hj with hj; omega)
theorem below_drewN {B : Nat} {a w : World} (h : Below B a w) (n : Nat) : Below B a (w.drewN n) := ⟨h.os, h.tape, h.output, h.size, h.block⟩
end Go.Proofs.YtfpmcomigolacaaGreatDoor.block
set_option linter.unusedSimpArgs false
set_option linter.unusedVariables false
namespace Go.Proofs.YtfpmcomigolacaaGreatDoor.words
open Go.ChangeShapes Go.WideShapes Go.ChangeAt Go.RowKit
open Go.Proofs.YtfpmcomigolacaaGreatDoor.opened Go.Proofs.YtfpmcomigolacaaGreatDoor.block

abbrev sV (l : Bs) : Value := .string ⟨l.toArray⟩
/-- A slice of strings that came in. -/
def Ls (w : World) (A : Option Addr) (N : List Bs) : Prop := Lies w A (N.map sV)
theorem Ls.nil (w : World) : Ls w none [] := .inl rfl
theorem Ls.below {w w' : World} {A : Option Addr} {N : List Bs} (h : Ls w A N) (hb : Below w.heap.size w w') : Ls w' A N := by
  rcases h with h | ⟨b, off, hA, hbl, hc⟩
  · exact .inl h
  · exact .inr ⟨b, off, hA, Nat.lt_of_lt_of_le hbl hb.size, fun i x hx => (hb.cell (p := ⟨b, off + i, none⟩) hbl).trans (hc i x hx)⟩
theorem Ls.at {w : World} {A : Option Addr} {N : List Bs} (h : Ls w A N) {k : Nat} {x : Bs} (hk : N[k]? = some x) : ∃ b off, A = some ⟨b, off, none⟩ ∧ b < w.heap.size ∧ w.cell? ⟨b, off + k, none⟩ = some (sV x) := by
  rcases h with h | ⟨b, off, hA, hbl, hc⟩
  · have : N = [] := by simpa using h
    subst this
    simp at hk
  · exact ⟨b, off, hA, hbl, hc k (sV x) (by rw [List.getElem?_map, hk]; rfl)⟩
/-- A slice of strings that is one's own. -/
abbrev OwnS (w : World) (base : Nat) (v : Value) (N : List Bs) : Prop := w.ownsRow base 9 1 v N.length (N.map sV)
theorem infoS : (Tryz.prog.info? 9).map (fun i => (i.zero, i.size, i.bytes)) = some (some (.string ByteArray.empty), 1, 16) := by kernel_rfl
theorem infoS_parts : ∃ i, Tryz.prog.info? 9 = some i ∧ i.zero = some (.string ByteArray.empty) ∧ i.size = 1 ∧ i.bytes = 16 := by
  have h := infoS
  rw [Option.map_eq_some_iff] at h
  obtain ⟨i, hi, he⟩ := h
  simp only [Prod.mk.injEq] at he
  exact ⟨i, hi, he.1, he.2.1, he.2.2⟩
theorem OwnS.lies {w : World} {base : Nat} {A : Option Addr} {n c : Nat} {N : List Bs} (h : OwnS w base (.slice A n c) N) : Ls w A N := by
  rcases h.2 with ⟨-, hn⟩ | ⟨g, cap, cur, hv, hb, hg, hc, hcm, hs, ht⟩
  · rw [List.eq_nil_of_length_eq_zero hn]; exact .inl rfl
  · injection hv with h1 h2 h3
    subst h1
    refine .inr ⟨g, 0, rfl, (Array.getElem?_eq_some_iff.1 hg).1, fun i x hx => ?_⟩
    have hi := (List.getElem?_eq_some_iff.1 hx).1
    rw [List.length_map] at hi
    rw [← ht, List.getElem?_take, if_pos (by omega), Array.getElem?_toList] at hx
    rw [← hx]
    simp [World.cell?, hg]
theorem OwnS.below {w w' : World} {base : Nat} {v : Value} {N : List Bs} (h : OwnS w base v N) (hb : Below w.heap.size w w') : OwnS w' base v N := by
  refine ⟨h.1, ?_⟩
  rcases h.2 with hn | ⟨g, cap, cur, hv, hg0, hg, rest⟩
  · exact .inl hn
  · exact .inr ⟨g, cap, cur, hv, hg0, (hb.block g (Array.getElem?_eq_some_iff.1 hg).1).trans hg, rest⟩
theorem OwnS.grown {W w1 : World} {base : Nat} {v : Value} {N : List Bs} {tmp : Obj} (h : OwnS W base v N) (hb0 : base ≤ W.heap.size) (hg : (W.alloc tmp).grownBy w1 v.ownBlock) : Below base W w1 :=
  ((Below.refl base W).alloc hb0 tmp).grown hg (by simp; omega) fun j ej => by
    rcases h.2 with ⟨rfl, _⟩ | ⟨g, cap, cur, rfl, hb, _, _⟩
    · simp [Value.ownBlock] at ej
    · obtain rfl : g = j := by simpa [Value.ownBlock] using ej
      exact hb
theorem OwnS.low {w : World} {base base' : Nat} {v : Value} {N : List Bs} (h : OwnS w base v N) (hb : base' ≤ base) : OwnS w base' v N := by
  refine ⟨h.1, ?_⟩
  rcases h.2 with hn | ⟨g, cap, cur, hv, hg0, hg, rest⟩
  · exact .inl hn
  · exact .inr ⟨g, cap, cur, hv, Nat.le_trans hb hg0, hg, rest⟩
theorem ownS_nil (w : World) (base : Nat) : OwnS w base (.slice none 0 0) [] := World.ownsRow_nil _ _ _ _
theorem heap_new (w : World) (o : Obj) : (w.alloc o).heap[w.heap.size]? = some o := by
  show (w.heap.push o)[w.heap.size]? = some o
  simp
theorem cell_new1 (w : World) (x : Value) (t : TypeId) : ∀ j u, [x][j]? = some u → (w.alloc (.cells #[x] t)).cell? ((⟨w.heap.size, 0, none⟩ : Addr).add j) = some u := by
  intro j u hj
  have hh : (w.alloc (.cells #[x] t)).heap[w.heap.size]? = some (.cells #[x] t (0, 0)) := heap_new w _
  generalize w.alloc (.cells #[x] t) = W at hh ⊢
  generalize w.heap.size = g at hh ⊢
  cases j with
  | zero => simp only [World.cell?, Addr.add, ↓reduceIte, hh]; simpa using hj
  | succ j => simp at hj
theorem oneS (x : Bs) : ∀ v ∈ [sV x], v.oneCell' = true := by
  intro v hv
  rw [List.mem_singleton] at hv
  subst hv
  rfl
theorem snocS (N : List Bs) (x : Bs) : (N ++ [x]).map sV = N.map sV ++ [sV x] := by simp
theorem size_alloc (w : World) (o : Obj) : (w.alloc o).heap.size = w.heap.size + 1 := Array.size_push o
/-- A slice of strings that is made of a literal. -/
theorem ownS_lit (w : World) (N : List Bs) (h : N.length ≤ 1000) (cs : Array Value) (hc : cs = (N.map sV).toArray) : OwnS (w.alloc (.cells cs 9)) w.heap.size (.slice (some ⟨w.heap.size, 0, none⟩) N.length N.length) N := by
  subst hc
  have := World.ownsRow_lit (base := w.heap.size) (e := 9) (size := 1) w (N.map sV).toArray N.length (Nat.le_refl _) (by unfold maxLen; omega) (by simp)
  simpa using this
theorem ownS_succ {W : World} {base k : Nat} {v : Value} {xs : List Value} (h : W.ownsRow base 9 1 v (k + 1) xs) : ∃ g cap, v = .slice (some ⟨g, 0, none⟩) (k + 1) cap := by
  rcases h.2 with ⟨-, h0⟩ | ⟨g, cap, cur, hv, -⟩
  · omega
  · exact ⟨g, cap, hv⟩
theorem fresh1 (w : World) (o : Obj) : Below w.heap.size w (w.alloc o) := (Below.refl _ _).alloc (Nat.le_refl _) o
set_option maxRecDepth 100000 in
/-- Slices of strings that came in, opened. -/
theorem opens_strs : Opens Tryz.prog 45 (sliceR 1 16 strR) := opens_slice Tryz.underlying45 (m := 1) (bytes := 16) (by kernel_rfl) (by kernel_rfl) (opens_str Tryz.underlying9)
set_option maxRecDepth 100000 in
theorem top_strs {w : World} {r : Reach} {b : Nat} {v : Value} {row : Row ByteArray} (hv : Value.okWide Tryz.prog w r b 45 v) (h : sliceR 1 16 strR w v.cells.toList row) :
    ∃ (A : Option Addr) (c : Nat) (L : List Bs), v = .slice A L.length c ∧ Ls w A L ∧ L.length ≤ 9223372036854775807 := by
  obtain rfl := top_slice Tryz.underlying45 hv h
  refine ⟨row.ptr, row.cap, row.elems.map (·.data.toList), ?_, ?_, ?_⟩
  · rw [row_val h, List.length_map]
  · have k := lies_of (f := fun s => Value.string s) (fun w cs s hs => hs.1) h
    unfold Ls
    rw [List.map_map]
    have e : (row.elems.map (sV ∘ fun x => x.data.toList)) = row.elems.map (fun s => Value.string s) := List.map_congr_left fun s _ => congrArg Value.string (Lib.mk_data s)
    rw [e]
    exact k
  · rw [List.length_map]
    exact row_max h
def lenOf : Value → Nat
  | .string b => b.size
  | _ => 0
theorem lenOf_str (l : Bs) : lenOf (sV l) = l.length := by
  show l.toArray.size = _
  simp
/-- The place of internal/bytealg.MaxLen holds a number: this seat has no such variable. -/
def MaxIs (_ : World) : Prop := True
theorem MaxIs.below {w w' : World} (_h : MaxIs w) (_hb : Below w.heap.size w w') : MaxIs w' := trivial
end Go.Proofs.YtfpmcomigolacaaGreatDoor.words
