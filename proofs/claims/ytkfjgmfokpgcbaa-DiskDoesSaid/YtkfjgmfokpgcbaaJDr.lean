/-
  Rows of elements of any kind, those that came in and those that are one's own. It names no number of a program.
  Rows of rows: a row of slices, each of which is a row of its own. It names no number of a program.
-/
import Derived.Test.YtkfjgmfokpgcbaaJRt6
import Derived.Test.YtkfjgmfokpgcbaaJOpen
import Derived.OwnWalk
import Derived.OwnWalkIn
import Derived.Maps.AppendAt
import Derived.Lib.Hide
import Derived.Laws.OwnMore
namespace Go.Proofs.Ytkfjgmfokpgcbaa.data
open Go.ChangeShapes Go.WideShapes Go.ChangeAt Go.RowKit
open Go.Proofs.Ytkfjgmfokpgcbaa.opened Go.Proofs.Ytkfjgmfokpgcbaa.block Go.Proofs.Ytkfjgmfokpgcbaa.region

/-- A row of parts. -/
def Lg {α : Type} (m : Nat) (f : α → List Value) (w : World) (A : Option Addr) (M : List α) : Prop := LiesN w A m (M.map f)
theorem Lg.below {α : Type} {m : Nat} {f : α → List Value} {w w' : World} {A : Option Addr} {M : List α} (h : Lg m f w A M) (hb : Below w.heap.size w w') : Lg m f w' A M := by
  rcases h with h | ⟨b, off, hA, hbl, hc⟩
  · exact .inl h
  · exact .inr ⟨b, off, hA, Nat.lt_of_lt_of_le hbl hb.size, fun i x hx => ⟨(hc i x hx).1, fun j hj => (hb.cell (p := ⟨b, off + (i * m + j), none⟩) hbl).trans ((hc i x hx).2 j hj)⟩⟩
theorem Lg.cells {α : Type} {m : Nat} {f : α → List Value} {w : World} {A : Option Addr} {M : List α} (h : Lg m f w A M) {k : Nat} {p : α} (hk : M[k]? = some p) :
    ∃ b off, A = some ⟨b, off, none⟩ ∧ b < w.heap.size ∧ ∀ j, j < m → w.cell? ⟨b, off + (k * m + j), none⟩ = (f p)[j]? := by
  rcases h with h | ⟨b, off, hA, hbl, hc⟩
  · have : M = [] := by simpa using h
    subst this
    simp at hk
  · have hx : (M.map f)[k]? = some (f p) := by rw [List.getElem?_map, hk]; rfl
    exact ⟨b, off, hA, hbl, (hc k (f p) hx).2⟩
theorem lg_nil {α : Type} {m : Nat} {f : α → List Value} (w : World) (A : Option Addr) : Lg m f w A [] := .inl rfl
/-- A part of a row, by its place. -/
theorem Lg.part {α : Type} {m : Nat} {f : α → List Value} {w : World} {b off : Nat} {M : List α} (h : Lg m f w (some ⟨b, off, none⟩) M) (i n : Nat) (hb : b < w.heap.size) : Lg m f w (some ⟨b, off + i * m, none⟩) ((M.drop i).take n) := by
  rcases h with h | ⟨b', off', hA, hbl, hc⟩
  · have : M = [] := by simpa using h
    subst this
    simp only [List.drop_nil, List.take_nil]
    exact .inl rfl
  · injection (Option.some.inj hA) with e1 e2
    subst e1 e2
    refine .inr ⟨b, off + i * m, rfl, hb, fun k x hx => ?_⟩
    rw [List.getElem?_map, List.getElem?_take] at hx
    split at hx
    · rw [List.getElem?_drop] at hx
      have h2 := hc (i + k) x (by rw [List.getElem?_map]; exact hx)
      refine ⟨h2.1, fun j hj => ?_⟩
      rw [← h2.2 j hj, Nat.add_mul]
      simp [Nat.add_assoc]
    · cases hx
theorem yieldsW_callR {P : Program} {w : World} {o : Oper} {ρ : Operand → Value} {f : FuncId} {xs : Array Operand} {ts : Array TypeId} {T : Value → World → Prop} (ho : o.op = .call { callee := .value (.func f), args := xs, argTypes := ts }) {vs : Array Value} (hx : xs.map ρ = vs) (hf : ρ (.func f) = .func (.func f) #[] #[]) {fn : Func} (hfn : P.funcs[f]? = some fn) (hname : (fn.name == "runtime.NumGoroutine") = false) (hbody : fn.body.isNone = false)
    (h : Calls P f vs w fun e w' => ∃ u, e = .returned u ∧ T u w') : YieldsW P o ρ w T := by
  have h1 : ¬ fn.name = "runtime.NumGoroutine" := by simpa using hname
  have h2 : ¬ fn.body = none := by
    intro e
    rw [e] at hbody
    cases hbody
  refine .inr ⟨f, vs, ?_, h⟩
  unfold execOp
  simp [ho, hx, hf, resolve, go_sem, callFunc, hfn, h1, h2]
theorem grown_below {a b : World} {row : Option Nat} (h : Below a.heap.size a b) : a.grownBy b row := ⟨h.os, h.tape, h.output, h.size, fun k hk _ => h.block k hk⟩
theorem grown_own {a b c : World} {g : Nat} {row : Option Nat} (h : a.grownBy b (some g)) (k : b.grownBy c row) (hr : ∀ j, row = some j → a.heap.size ≤ j) : a.grownBy c (some g) :=
  ⟨k.os.trans h.os, k.tape.trans h.tape, k.output.trans h.output, Nat.le_trans h.size k.size, fun j hj hne => (k.block j (Nat.lt_of_lt_of_le hj h.size) (fun e => by have := hr j e.symm; omega)).trans (h.block j hj hne)⟩
theorem whole_cells {w : World} {g : Nat} {t : TypeId} {xs : List Value} (h : Whole w g t xs.toArray) : ∀ j u, xs[j]? = some u → w.cell? ((⟨g, 0, none⟩ : Addr).add j) = some u := by
  intro j u hj
  unfold Whole at h
  rcases j with _ | j <;> simp [World.cell?, Addr.add, h, hj]
theorem fresh0 (w : World) (o : Obj) : Below w.heap.size w (w.alloc o) := (Below.refl _ _).alloc (Nat.le_refl _) _
theorem cell_newG (w : World) (xs : List Value) (t : TypeId) : ∀ j u, xs[j]? = some u → (w.alloc (.cells xs.toArray t)).cell? ((⟨w.heap.size, 0, none⟩ : Addr).add j) = some u := whole_cells (Whole.fresh w t xs.toArray)
/-- What an element's cells are to be: so many, each of one cell. -/
structure Cells {α : Type} (m : Nat) (f : α → List Value) : Prop where
  len : ∀ x, (f x).length = m
  one : ∀ x, ∀ v ∈ f x, v.oneCell' = true
/-- A slice of elements that is one's own. -/
abbrev OwnG {α : Type} (T : TypeId) (m : Nat) (f : α → List Value) (w : World) (base : Nat) (v : Value) (N : List α) : Prop := w.ownsRow base T m v N.length (N.flatMap f)
section
variable {α : Type} {m : Nat} {f : α → List Value} {T : TypeId}
theorem flatG_len (F : Cells m f) (N : List α) : (N.flatMap f).length = N.length * m := by
  induction N with
  | nil => simp
  | cons x r ih => rw [List.flatMap_cons, List.length_append, ih, List.length_cons, F.len, Nat.add_mul]; omega
theorem flatG_at (F : Cells m f) (N : List α) : ∀ (i : Nat) (y : α) (j : Nat), N[i]? = some y → j < m → (N.flatMap f)[i * m + j]? = (f y)[j]? := by
  induction N with
  | nil => intro i y j h; simp at h
  | cons x r ih =>
    intro i y j h hj
    have h5 := F.len x
    rw [List.flatMap_cons]
    cases i with
    | zero =>
      simp at h
      subst h
      rw [List.getElem?_append_left (by rw [h5]; omega)]
      simp
    | succ i =>
      rw [List.getElem?_append_right (by rw [h5, Nat.add_mul]; omega), h5, show (i + 1) * m + j - m = i * m + j by rw [Nat.add_mul]; omega]
      exact ih i y j (by simpa using h) hj
theorem OwnG.lg (F : Cells m f) {w : World} {base : Nat} {A : Option Addr} {n c : Nat} {N : List α} (h : OwnG T m f w base (.slice A n c) N) : Lg m f w A N := by
  rcases h.2 with ⟨-, hn⟩ | ⟨g, cap, cur, hv, hb, hg, hc, hcm, hs, ht⟩
  · rw [List.eq_nil_of_length_eq_zero hn]; exact .inl rfl
  · injection hv with h1 h2 h3
    subst h1
    refine .inr ⟨g, 0, rfl, (Array.getElem?_eq_some_iff.1 hg).1, fun i x hx => ?_⟩
    rw [List.getElem?_map, Option.map_eq_some_iff] at hx
    obtain ⟨y, hy, rfl⟩ := hx
    refine ⟨F.len y, fun j hj => ?_⟩
    have e := flatG_at F N i y j hy hj
    have hi := (List.getElem?_eq_some_iff.1 hy).1
    have hlt : i * m + j < N.length * m := by
      have : (i + 1) * m ≤ N.length * m := Nat.mul_le_mul_right m hi
      rw [Nat.add_mul] at this
      omega
    rw [← ht, List.getElem?_take, if_pos hlt, Array.getElem?_toList] at e
    rw [← e]
    simp [World.cell?, hg]
theorem OwnG.below {w w' : World} {base : Nat} {v : Value} {N : List α} (h : OwnG T m f w base v N) (hb : Below w.heap.size w w') : OwnG T m f w' base v N := by
  refine ⟨h.1, ?_⟩
  rcases h.2 with hn | ⟨g, cap, cur, hv, hg0, hg, rest⟩
  · exact .inl hn
  · exact .inr ⟨g, cap, cur, hv, hg0, (hb.block g (Array.getElem?_eq_some_iff.1 hg).1).trans hg, rest⟩
theorem OwnG.past {w w' : World} {base : Nat} {row : Option Nat} {v : Value} {N : List α} (h : OwnG T m f w base v N) (hg : w.grownBy w' row) (hn : ∀ k, row = some k → some k ≠ v.ownBlock) : OwnG T m f w' base v N := by
  refine ⟨h.1, ?_⟩
  rcases h.2 with hx | ⟨g', cap, cur, hv, hg0, hh, rest⟩
  · exact .inl hx
  · refine .inr ⟨g', cap, cur, hv, hg0, (hg.block g' (Array.getElem?_eq_some_iff.1 hh).1 (fun e => hn g' e.symm ?_)).trans hh, rest⟩
    rw [hv]
    rfl
theorem OwnG.away {w : World} {base gz : Nat} {v : Value} {N : List α} (h : OwnG T m f w base v N) (hz : w.heap.size ≤ gz) : some gz ≠ v.ownBlock := by
  rcases h.2 with ⟨rfl, _⟩ | ⟨g, cap, cur, rfl, hb, hg, _⟩
  · simp [Value.ownBlock]
  · have := (Array.getElem?_eq_some_iff.1 hg).1
    simp [Value.ownBlock]
    omega
theorem OwnG.above {w : World} {base k : Nat} {v : Value} {N : List α} (h : OwnG T m f w base v N) (e : v.ownBlock = some k) : base ≤ k := by
  rcases h.2 with ⟨rfl, _⟩ | ⟨g, cap, cur, rfl, hb, _, _⟩
  · simp [Value.ownBlock] at e
  · obtain rfl : g = k := by simpa [Value.ownBlock] using e
    exact hb
theorem OwnG.keptG {w w' : World} {base g : Nat} {v : Value} {N : List α} (h : OwnG T m f w base v N) (hg : w.grownBy w' (some g)) (hb : g < base) : OwnG T m f w' base v N :=
  h.past hg fun k e he => by
    cases e
    have := h.above he.symm
    omega
theorem OwnG.room {w : World} {base : Nat} {A : Option Addr} {n c : Nat} {N : List α} (h : OwnG T m f w base (.slice A n c) N) : N.length ≤ c := by
  rcases h.2 with ⟨-, hn⟩ | ⟨g, cap, cur, hv, hb, hg, hc, hcm, hs, ht⟩
  · omega
  · injection hv with h1 h2 h3
    omega
theorem OwnG.gap {w : World} {base : Nat} {A : Option Addr} {n c : Nat} {N : List α} (h : OwnG T m f w base (.slice A n c) N) : ∀ a, A = some a → base ≤ a.block := by
  rintro a rfl
  rcases h.2 with ⟨hv, -⟩ | ⟨g, cap, cur, hv, hb, hg, hc, hcm, hs, ht⟩
  · cases hv
  · injection hv with h1 h2 h3
    injection h1 with h1
    subst h1
    exact hb
theorem OwnG.succ {W : World} {base k : Nat} {v : Value} {xs : List Value} (h : W.ownsRow base T m v (k + 1) xs) : ∃ g cap, v = .slice (some ⟨g, 0, none⟩) (k + 1) cap := by
  rcases h.2 with ⟨-, h0⟩ | ⟨g, cap, cur, hv, -⟩
  · omega
  · exact ⟨g, cap, hv⟩
theorem OwnG.shape {w : World} {base : Nat} {v : Value} {N : List α} (h : OwnG T m f w base v N) : ∃ B c, v = .slice B N.length c ∧ N.length ≤ c ∧ c ≤ maxLen := by
  rcases h.2 with ⟨hv, hn⟩ | ⟨g, cap, cur, hv, hb, hg, hc, hcm, -⟩
  · exact ⟨none, 0, by rw [hv, hn], by omega, Nat.zero_le _⟩
  · exact ⟨_, _, hv, hc, hcm⟩
theorem ownG_nil (w : World) (base : Nat) : OwnG T m f w base (.slice none 0 0) [] := World.ownsRow_nil _ _ _ _
theorem OwnG.low {w : World} {base base' : Nat} {v : Value} {N : List α} (h : OwnG T m f w base v N) (hb : base' ≤ base) : OwnG T m f w base' v N := by
  refine ⟨h.1, ?_⟩
  rcases h.2 with hx | ⟨g, cap, cur, hv, hg0, hh, rest⟩
  · exact .inl hx
  · exact .inr ⟨g, cap, cur, hv, Nat.le_trans hb hg0, hh, rest⟩
theorem OwnG.grown {W w1 : World} {base : Nat} {v : Value} {N : List α} {tmp : Obj} (h : OwnG T m f W base v N) (hb0 : base ≤ W.heap.size) (hg : (W.alloc tmp).grownBy w1 v.ownBlock) : Below base W w1 :=
  ((Below.refl base W).alloc hb0 tmp).grown hg (by simp; omega) fun j ej => h.above ej
/-- A row of one element, newer than a place. -/
def LoneG (T : TypeId) (f : α → List Value) (z : Nat) (p : α) : Value → World → Prop := fun u w => ∃ gx, u = .slice (some ⟨gx, 0, none⟩) 1 1 ∧ z ≤ gx ∧ Whole w gx T (f p).toArray
theorem keeps_loneG (z : Nat) (p : α) : Keeps (LoneG T f z p) := fun _ _ _ hb ⟨gx, h1, h2, h3⟩ => ⟨gx, h1, h2, h3.below hb h3.inside⟩
def NewG (T : TypeId) (m : Nat) (f : α → List Value) (base : Nat) (N : List α) : Value → World → Prop := fun u w => ∃ g' c', u = .slice (some ⟨g', 0, none⟩) N.length c' ∧ OwnG T m f w base u N
theorem keeps_newG (base : Nat) (N : List α) : Keeps (NewG T m f base N) := fun _ _ _ hb ⟨g', c', h1, h2⟩ => ⟨g', c', h1, h2.below hb⟩
end
end Go.Proofs.Ytkfjgmfokpgcbaa.data
namespace Go.Proofs.Ytkfjgmfokpgcbaa.data
open Go.ChangeShapes Go.WideShapes Go.ChangeAt Go.RowKit
open Go.Proofs.Ytkfjgmfokpgcbaa.opened Go.Proofs.Ytkfjgmfokpgcbaa.block Go.Proofs.Ytkfjgmfokpgcbaa.region

/-- Rows that lie: a row of slices; each slice is a row. -/
structure LL {α : Type} (m : Nat) (f : α → List Value) (w : World) (A : Option Addr) (NN : List (List α)) : Prop where
  rows : ∀ (i : Nat) (N : List α), NN[i]? = some N → ∃ b off B c, A = some ⟨b, off, none⟩ ∧ b < w.heap.size ∧ w.cell? ⟨b, off + i, none⟩ = some (.slice B N.length c) ∧ Lg m f w B N
theorem LL.below {α : Type} {m : Nat} {f : α → List Value} {w w' : World} {A : Option Addr} {NN : List (List α)} (h : LL m f w A NN) (hb : Below w.heap.size w w') : LL m f w' A NN := by
  refine ⟨fun i N hi => ?_⟩
  obtain ⟨b, off, B, c, h1, h2, h3, h4⟩ := h.rows i N hi
  exact ⟨b, off, B, c, h1, Nat.lt_of_lt_of_le h2 hb.size, (hb.cell (p := ⟨b, off + i, none⟩) h2).trans h3, h4.below hb⟩
theorem lL_nil {α : Type} {m : Nat} {f : α → List Value} (w : World) (A : Option Addr) : LL m f w A ([] : List (List α)) := ⟨fun i N h => by simp at h⟩
/-- A row of slices that is one's own; each of them is one's own too; no two lie in one block. -/
structure Nest {α : Type} (T2 T : TypeId) (m : Nat) (f : α → List Value) (w : World) (base : Nat) (V : Value) (vs : List Value) (NN : List (List α)) : Prop where
  head : w.ownsRow base T2 1 V vs.length vs
  len : vs.length = NN.length
  row : ∀ (i : Nat) (v : Value) (N : List α), vs[i]? = some v → NN[i]? = some N → OwnG T m f w base v N
  off : ∀ (i : Nat) (v : Value), vs[i]? = some v → ∀ g, v.ownBlock = some g → V.ownBlock ≠ some g
  apart : ∀ (i j : Nat) (v u : Value), vs[i]? = some v → vs[j]? = some u → i ≠ j → ∀ g, v.ownBlock = some g → u.ownBlock ≠ some g
section
variable {α : Type} {T2 T : TypeId} {m : Nat} {f : α → List Value} {w : World} {base : Nat} {V : Value} {vs : List Value} {NN : List (List α)}
theorem row_below {w w' : World} {base size n : Nat} {e : TypeId} {v : Value} {xs : List Value} (h : w.ownsRow base e size v n xs) (hb : Below w.heap.size w w') : w'.ownsRow base e size v n xs := by
  refine ⟨h.1, ?_⟩
  rcases h.2 with hn | ⟨g, cap, cur, hv, hg0, hg, rest⟩
  · exact .inl hn
  · exact .inr ⟨g, cap, cur, hv, hg0, (hb.block g (Array.getElem?_eq_some_iff.1 hg).1).trans hg, rest⟩
theorem Nest.below {w' : World} (h : Nest T2 T m f w base V vs NN) (hb : Below w.heap.size w w') : Nest T2 T m f w' base V vs NN :=
  ⟨row_below h.head hb, h.len, fun i v N h1 h2 => (h.row i v N h1 h2).below hb, h.off, h.apart⟩
theorem nest_nil (w : World) (base : Nat) : Nest T2 T m f w base (.slice none 0 0) [] ([] : List (List α)) :=
  ⟨World.ownsRow_nil _ _ _ _, rfl, fun i v N h => by simp at h, fun i v h => by simp at h, fun i j v u h => by simp at h⟩
theorem Nest.lies (F : Cells m f) {A : Option Addr} {n c : Nat} (h : Nest T2 T m f w base (.slice A n c) vs NN) : LL m f w A NN := by
  refine ⟨fun i N hi => ?_⟩
  have hlt := (List.getElem?_eq_some_iff.1 hi).1
  have hv : vs[i]? = some (vs[i]'(by rw [h.len]; exact hlt)) := List.getElem?_eq_getElem (by rw [h.len]; exact hlt)
  have hr := h.row i _ N hv hi
  obtain ⟨B, c', e, -, -⟩ := hr.shape
  rw [e] at hr hv
  rcases h.head.2 with ⟨-, hn⟩ | ⟨g, cap, cur, e2, hb, hg, hc, hcm, hs, ht⟩
  · have := h.len; omega
  · injection e2 with e3 e4 e5
    subst e3
    refine ⟨g, 0, B, c', rfl, (Array.getElem?_eq_some_iff.1 hg).1, ?_, hr.lg F⟩
    have h5 := hv
    rw [← ht, List.getElem?_take] at h5
    split at h5
    · rw [Array.getElem?_toList] at h5
      simp [World.cell?, hg, h5]
    · cases h5
/-- One row grows; its slice is stored again. -/
theorem Nest.put {g cap i : Nat} {v v' : Value} {N : List α} {x : α} {W w1 : World} (h : Nest T2 T m f W base (.slice (some ⟨g, 0, none⟩) vs.length cap) vs NN) (hv : vs[i]? = some v) (hN : NN[i]? = some N)
    (ho : OwnG T m f w1 base v' (N ++ [x])) (hg : W.grownBy w1 v.ownBlock) (hat : v'.ownBlock = v.ownBlock ∨ ∃ z, v'.ownBlock = some z ∧ W.heap.size ≤ z) :
    Nest T2 T m f (w1.setCell ⟨g, i, none⟩ v') base (.slice (some ⟨g, 0, none⟩) vs.length cap) (vs.set i v') (NN.set i (N ++ [x])) := by
  have hlt := (List.getElem?_eq_some_iff.1 hv).1
  have hgV : (Value.slice (some ⟨g, 0, none⟩) vs.length cap).ownBlock = some g := rfl
  have hgw := h.head.lt g hgV
  have hvg : v.ownBlock ≠ some g := fun e => h.off i v hv g e hgV
  have hv'g : v'.ownBlock ≠ some g := by
    rcases hat with e | ⟨z, e, hz⟩
    · rw [e]; exact hvg
    · rw [e]; intro e; injection e with e; omega
  have h1 : w1.ownsRow base T2 1 (.slice (some ⟨g, 0, none⟩) vs.length cap) vs.length vs := h.head.kept hg (.inr (fun e => hvg (by rw [← e]; rfl)))
  have hs := h1.stored i v'
  have hset : ∀ {u : Value} {M : List α}, OwnG T m f w1 base u M → u.ownBlock ≠ some g → OwnG T m f (w1.setCell ⟨g, i, none⟩ v') base u M := fun hu hne =>
    OwnG.past hu (row := some g) (only_store (g := g) (i := i) (World.grownBy.refl w1 (some g)) v') fun k e => by
      cases e
      exact fun e => hne e.symm
  have hkeep : ∀ (j : Nat) (u : Value) (M : List α), vs[j]? = some u → NN[j]? = some M → j ≠ i → OwnG T m f (w1.setCell ⟨g, i, none⟩ v') base u M := fun j u M hj hM hne =>
    hset ((h.row j u M hj hM).past hg fun k e he => h.apart i j v u hv hj (fun e => hne e.symm) k e he.symm) fun e => h.off j u hj g e hgV
  have hvj : ∀ {j : Nat} {u : Value}, (vs.set i v')[j]? = some u → (j = i ∧ u = v') ∨ (j ≠ i ∧ vs[j]? = some u) := fun {j u} hj => by
    rw [List.getElem?_set] at hj
    by_cases e : i = j
    · rw [if_pos e, if_pos hlt] at hj
      exact .inl ⟨e.symm, (Option.some.inj hj).symm⟩
    · rw [if_neg e] at hj
      exact .inr ⟨fun h => e h.symm, hj⟩
  refine ⟨?_, by simp [h.len], ?_, ?_, ?_⟩
  · rw [List.length_set]
    exact hs.1
  · intro j u M hj hM
    rcases hvj hj with ⟨rfl, rfl⟩ | ⟨hne, hj⟩
    · rw [List.getElem?_set, if_pos rfl, if_pos (by rw [← h.len]; exact hlt)] at hM
      rw [← Option.some.inj hM]
      exact hset ho hv'g
    · rw [List.getElem?_set, if_neg (fun e => hne e.symm)] at hM
      exact hkeep j u M hj hM hne
  · intro j u hj k hk e
    have e : g = k := Option.some.inj e
    subst e
    rcases hvj hj with ⟨rfl, rfl⟩ | ⟨hne, hj⟩
    · exact hv'g hk
    · exact h.off j u hj g hk hgV
  · intro j k u z hj hk hne n hn hz
    rcases hvj hj with ⟨rfl, rfl⟩ | ⟨hj1, hj2⟩
    · rcases hvj hk with ⟨rfl, rfl⟩ | ⟨hk1, hk⟩
      · exact hne rfl
      · rcases hat with e | ⟨z0, e, hz0⟩
        · exact h.apart j k v z hv hk hne n (by rw [← e]; exact hn) hz
        · rw [e] at hn
          obtain ⟨M, hM⟩ : ∃ M, NN[k]? = some M := ⟨_, List.getElem?_eq_getElem (by rw [← h.len]; exact (List.getElem?_eq_some_iff.1 hk).1)⟩
          have := ((h.row k z M hk hM).lt n hz).2
          injection hn with hn
          omega
    · rcases hvj hk with ⟨rfl, rfl⟩ | ⟨hk1, hk2⟩
      · rcases hat with e | ⟨z0, e, hz0⟩
        · exact h.apart j k u v hj2 hv hne n hn (by rw [← e]; exact hz)
        · rw [e] at hz
          obtain ⟨M, hM⟩ : ∃ M, NN[j]? = some M := ⟨_, List.getElem?_eq_getElem (by rw [← h.len]; exact (List.getElem?_eq_some_iff.1 hj2).1)⟩
          have := ((h.row j u M hj2 hM).lt n hn).2
          injection hz with hz
          omega
      · exact h.apart j k u z hj2 hk2 hne n hn hz
/-- One row more, with nothing in it. -/
theorem Nest.more {V' : Value} {w1 : World} (h : Nest T2 T m f w base V vs NN) (ho : w1.ownsRow base T2 1 V' (vs.length + 1) (vs ++ [.slice none 0 0])) (hg : w.grownBy w1 V.ownBlock) (hat : V'.ownBlock = V.ownBlock ∨ V'.ownBlock = some w.heap.size) :
    Nest T2 T m f w1 base V' (vs ++ [.slice none 0 0]) (NN ++ [[]]) := by
  have hvj : ∀ {j : Nat} {u : Value}, (vs ++ [Value.slice none 0 0])[j]? = some u → (j = vs.length ∧ u = .slice none 0 0) ∨ (j < vs.length ∧ vs[j]? = some u) := fun {j u} hj => by
    by_cases e : j < vs.length
    · rw [List.getElem?_append_left e] at hj
      exact .inr ⟨e, hj⟩
    · have hl := (List.getElem?_eq_some_iff.1 hj).1
      simp at hl
      have e2 : j = vs.length := by omega
      subst e2
      simp at hj
      exact .inl ⟨rfl, hj.symm⟩
  refine ⟨by rw [List.length_append]; exact ho, by simp [h.len], ?_, ?_, ?_⟩
  · intro j u M hj hM
    rcases hvj hj with ⟨rfl, rfl⟩ | ⟨hlt, hj⟩
    · rw [h.len] at hM
      simp at hM
      subst hM
      exact ownG_nil _ _
    · rw [List.getElem?_append_left (by rw [← h.len]; exact hlt)] at hM
      exact (h.row j u M hj hM).past hg fun k e he => h.off j u hj k he.symm e
  · intro j u hj k hk e
    rcases hvj hj with ⟨rfl, rfl⟩ | ⟨hlt, hj⟩
    · simp [Value.ownBlock] at hk
    · rcases hat with e2 | e2
      · exact h.off j u hj k hk (by rw [← e2]; exact e)
      · rw [e2] at e
        obtain ⟨M, hM⟩ : ∃ M, NN[j]? = some M := ⟨_, List.getElem?_eq_getElem (by rw [← h.len]; exact hlt)⟩
        have := ((h.row j u M hj hM).lt k hk).2
        injection e with e
        omega
  · intro j k u z hj hk hne n hn hz
    rcases hvj hj with ⟨rfl, rfl⟩ | ⟨h1, hj⟩
    · simp [Value.ownBlock] at hn
    · rcases hvj hk with ⟨rfl, rfl⟩ | ⟨h2, hk⟩
      · simp [Value.ownBlock] at hz
      · exact h.apart j k u z hj hk hne n hn hz
theorem Nest.putN {n g cap i : Nat} {v v' : Value} {N : List α} {x : α} {W w1 : World} (hl : vs.length = n) (h : Nest T2 T m f W base (.slice (some ⟨g, 0, none⟩) n cap) vs NN) (hv : vs[i]? = some v) (hN : NN[i]? = some N)
    (ho : OwnG T m f w1 base v' (N ++ [x])) (hg : W.grownBy w1 v.ownBlock) (hat : v'.ownBlock = v.ownBlock ∨ ∃ z, v'.ownBlock = some z ∧ W.heap.size ≤ z) :
    Nest T2 T m f (w1.setCell ⟨g, i, none⟩ v') base (.slice (some ⟨g, 0, none⟩) n cap) (vs.set i v') (NN.set i (N ++ [x])) := by
  subst hl
  exact h.put hv hN ho hg hat
theorem grown_run {a b c : World} {row : Option Nat} (h : a.grownBy b row) (k : Below b.heap.size b c) : a.grownBy c row :=
  ⟨k.os.trans h.os, k.tape.trans h.tape, k.output.trans h.output, Nat.le_trans h.size k.size, fun i hi hne => (k.block i (Nat.lt_of_lt_of_le hi h.size)).trans (h.block i hi hne)⟩
/-- A row of a nest has grown; its slice is stored already, or not yet. -/
def Grew (T2 T : TypeId) (m : Nat) (f : α → List Value) (W : World) (base : Nat) (V : Value) (vs : List Value) (NN : List (List α)) (i : Nat) (v : Value) (N : List α) : Value → World → Prop := fun u w =>
  (OwnG T m f w base u N ∧ W.grownBy w v.ownBlock ∧ (u.ownBlock = v.ownBlock ∨ ∃ z, u.ownBlock = some z ∧ W.heap.size ≤ z) ∧ ∃ B c, u = .slice B N.length c) ∨ ∃ u', Nest T2 T m f w base V (vs.set i u') (NN.set i N)
theorem keeps_grew {W : World} {i : Nat} {v : Value} {N : List α} : Keeps (Grew T2 T m f W base V vs NN i v N) := fun _ _ _ hb h => h.elim (fun ⟨h1, h2, h3, h4⟩ => .inl ⟨h1.below hb, grown_run h2 hb, h3, h4⟩) fun ⟨u, h⟩ => .inr ⟨u, h.below hb⟩
theorem Nest.cell {n g cap i : Nat} {v : Value} (h : Nest T2 T m f w base (.slice (some ⟨g, 0, none⟩) n cap) vs NN) (hv : vs[i]? = some v) : w.cell? ⟨g, i, none⟩ = some v ∧ w.frozen? ⟨g, i, none⟩ = false ∧ g < w.heap.size ∧ base ≤ g := by
  have hlt := (List.getElem?_eq_some_iff.1 hv).1
  rcases h.head.2 with ⟨e, -⟩ | ⟨g', cap', cur, e2, hb, hg, hc, hcm, hs, ht⟩
  · cases e
  · injection e2 with e3 e4 e5
    injection (Option.some.inj e3) with e6
    subst e6
    rw [← ht, List.getElem?_take, if_pos (by omega), Array.getElem?_toList] at hv
    exact ⟨by simp [World.cell?, hg, hv], by simp [World.frozen?, hg], (Array.getElem?_eq_some_iff.1 hg).1, hb⟩
theorem grew_store {n g cap i : Nat} {B0 : Option Addr} {c0 : Nat} {N : List α} {x : α} {W w1 : World} {u : Value} (hl : vs.length = n) (h : Nest T2 T m f W base (.slice (some ⟨g, 0, none⟩) n cap) vs NN) (hv : vs[i]? = some (.slice B0 N.length c0)) (hN : NN[i]? = some N)
    (hG : Grew T2 T m f W base (.slice (some ⟨g, 0, none⟩) n cap) vs NN i (.slice B0 N.length c0) (N ++ [x]) u w1) (hg : w1.heap[g]? = W.heap[g]?) :
    w1.cell? ⟨g, i, none⟩ = some (.slice B0 N.length c0) ∧ w1.frozen? ⟨g, i, none⟩ = false ∧ (∃ B c, u = .slice B (N ++ [x]).length c) ∧ Nest T2 T m f (w1.setCell ⟨g, i, none⟩ u) base (.slice (some ⟨g, 0, none⟩) n cap) (vs.set i u) (NN.set i (N ++ [x])) := by
  obtain ⟨c1, c2, -, -⟩ := h.cell hv
  have k1 : w1.cell? ⟨g, i, none⟩ = some (.slice B0 N.length c0) := (World.cell?_of_block (a := ⟨g, i, none⟩) hg).trans c1
  have k2 : w1.frozen? ⟨g, i, none⟩ = false := (World.frozen?_of_block (a := ⟨g, i, none⟩) hg).trans c2
  rcases hG with ⟨h1, h2, h3, h4⟩ | ⟨u', hN'⟩
  · exact ⟨k1, k2, h4, Nest.putN hl h hv hN h1 h2 h3⟩
  · exfalso
    have hlt := (List.getElem?_eq_some_iff.1 hv).1
    have hx : (vs.set i u')[i]? = some u' := by rw [List.getElem?_set, if_pos rfl, if_pos hlt]
    have hM : (NN.set i (N ++ [x]))[i]? = some (N ++ [x]) := by rw [List.getElem?_set, if_pos rfl, if_pos (by rw [← h.len]; exact hlt)]
    have hc := (hN'.cell hx).1
    obtain ⟨B, c, e, -, -⟩ := (hN'.row i u' (N ++ [x]) hx hM).shape
    rw [k1, e] at hc
    simp at hc
/-- So many rows, with nothing in any. -/
theorem nest_made (w : World) (n cap : Nat) (hn : n ≤ maxLen) (hcap : cap = n) (hb : base ≤ w.heap.size) (cs : Array Value) (hcs : cs = Array.replicate n (.slice none 0 0)) :
    Nest T2 T m f (w.alloc (.cells cs T2)) base (.slice (some ⟨w.heap.size, 0, none⟩) n cap) (List.replicate n (.slice none 0 0)) (List.replicate n ([] : List α)) := by
  subst hcap hcs
  have hv : ∀ {j : Nat} {u : Value}, (List.replicate cap (Value.slice none 0 0))[j]? = some u → u = .slice none 0 0 := fun {j u} hj => by
    have := List.mem_of_getElem? hj
    exact List.eq_of_mem_replicate this
  refine ⟨⟨by simp, .inr ⟨w.heap.size, cap, _, by simp, hb, heap_alloc_new w _, by simp, hn, by simp, by simp⟩⟩, by simp, ?_, ?_, ?_⟩
  · intro j u M hj hM
    rw [hv hj, show M = [] from List.eq_of_mem_replicate (List.mem_of_getElem? hM)]
    exact ownG_nil _ _
  · intro j u hj k hk
    rw [hv hj] at hk
    simp [Value.ownBlock] at hk
  · intro j k u z hj _ _ n hn
    rw [hv hj] at hn
    simp [Value.ownBlock] at hn
end
end Go.Proofs.Ytkfjgmfokpgcbaa.data
namespace Go.Proofs.Ytkfjgmfokpgcbaa.region
open Go.RowKit Go.Proofs.Ytkfjgmfokpgcbaa.block
/-- append to a row that is one's own: where it lies behind it. -/
theorem yields_appendA {P : Program} {w : World} {o : Oper} {ρ : Operand → Value} {T : Value → World → Prop} (s x : Operand) (t : TypeId) (ho : o.op = .call { callee := .builtin .append, args := #[s, x], argTypes := #[t, t] })
    (base : Nat) (e : TypeId) (i : TypeInfo) (z : Value) (size bytes : Nat) (ht : P.underlying t = some (.slice e)) (hi : P.info? e = some i) (hz : i.zero = some z)
    (hsize : i.size = size) (hby : i.bytes = bytes) (hzs : z.cells.size = size) (hsz : 0 < size)
    (v : Value) (n : Nat) (xs : List Value) (hs : ρ s = v) (hown : w.ownsRow base e size v n xs)
    (ad : Addr) (m c : Nat) (news : List Value) (hx : ρ x = .slice (some ad) m c) (hl : news.length = m * size) (hnews : ∀ j u, news[j]? = some u → w.cell? (ad.add j) = some u) (h1 : ∀ u ∈ news, u.oneCell' = true)
    (hm : 0 < m) (h63 : n + m ≤ maxLen) (hbytes : (n + m) * bytes ≤ 140737488355328) (hbase : base ≤ w.heap.size)
    (h : ∀ g cap w', w'.ownsRow base e size (.slice (some ⟨g, 0, none⟩) (n + m) cap) (n + m) (xs ++ news) → w.grownBy w' v.ownBlock → (v.ownBlock = some g ∨ g = w.heap.size) → T (.slice (some ⟨g, 0, none⟩) (n + m) cap) w') : YieldsW P o ρ w T := by
  obtain ⟨g, cap, w', hr, h2, h3, h4, -⟩ := run_append_lies (P := P) w t o.type base e i z size bytes ht hi hz hsize hby hzs hsz v n xs hown ad m c news hl hnews h1 hm h63 hbytes hbase _ rfl
  refine .inl ⟨_, w', ?_, h g cap w' h2 h3 h4⟩
  unfold execOp
  simp only [ho, resolve, invoke, builtin, Sem.run_bind, Sem.run_pure, Result.andThen_ok, List.map_toArray, List.map_cons, List.map_nil, hs, hx, hr]
theorem yields_index {P : Program} {w : World} {o : Oper} {ρ : Operand → Value} {ty : TypeId} {x y : Operand} (ho : o.op = .indexAddr ty x y) {b off n c i m : Nat} {e : TypeId} (hx : ρ x = .slice (some ⟨b, off, none⟩) n c) (hy : ρ y = .int .i64 i) (hi : i < n)
    (ht : P.underlying ty = some (.slice e)) (hs : ∀ w, (sizeOf e).run P w = .ok m w) : Yields P o ρ w (Is (.pointer (some ⟨b, off + i * m, none⟩))) := by
  refine yields_run (u := .pointer (some ⟨b, off + i * m, none⟩)) (w' := w) ?_ (Below.refl _ _) rfl
  have h1 : 0 ≤ (i : Int) ∧ (i : Int) < (n : Int) := by omega
  unfold execOp
  simp [ho, hx, hy, go_sem, Instr.indexAt, Sem.run_bind, run_underlying ht, hs, h1, asIntOf, hi]
end Go.Proofs.Ytkfjgmfokpgcbaa.region
