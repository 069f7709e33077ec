/-
  Rows that are one's own, of elements of any kind; a store of one cell; a call in a region. It names no number of a program.
-/
import Derived.Test.YtbomlapmoiamgaaRt6
import Derived.Test.YtbomlapmoiamgaaOs
import Derived.Test.YtbomlapmoiamgaaGm0
set_option linter.unusedSimpArgs false
set_option linter.unusedVariables false
namespace Go.Proofs.Ytbomlapmoiamgaa.region
open Go.ChangeShapes Go.WideShapes Go.ChangeAt Go.RowKit
open Go.Proofs.Ytbomlapmoiamgaa.opened Go.Proofs.Ytbomlapmoiamgaa.block

theorem yieldsW_callR {P : Program} {w : World} {o : Oper} {ρ : Operand → Value} {f : FuncId} {xs : Array Operand} {ts : Array TypeId} {T : Value → World → Prop} (ho : o.op = .call { callee := .value (.func f), args := xs, argTypes := ts }) {vs : Array Value} (hx : xs.map ρ = vs) (hf : ρ (.func f) = .func (.func f) #[] #[]) {fn : Func} (hfn : P.funcs[f]? = some fn) (hname : (fn.name == "runtime.NumGoroutine") = false) (hbody : fn.body.isNone = false)
    (h : Calls P f vs w fun e w' => ∃ u, e = .returned u ∧ T u w') : YieldsW P o ρ w T := by
  have h1 : ¬ fn.name = "runtime.NumGoroutine" := by simpa using hname
  have h2 : ¬ fn.body = none := by
    intro e
    rw [e] at hbody
    cases hbody
  refine .inr ⟨f, vs, ?_, h⟩
  unfold execOp
  simp [ho, hx, hf, resolve, go_sem, callFunc, hfn, h1, h2]
theorem grown_below {a b : World} {row : Option Nat} (h : Below a.heap.size a b) : a.grownBy b row := ⟨h.os, h.tape, h.output, h.size, fun k hk _ => h.block k hk⟩
theorem grown_own {a b c : World} {g : Nat} {row : Option Nat} (h : a.grownBy b (some g)) (k : b.grownBy c row) (hr : ∀ j, row = some j → a.heap.size ≤ j) : a.grownBy c (some g) :=
  ⟨k.os.trans h.os, k.tape.trans h.tape, k.output.trans h.output, Nat.le_trans h.size k.size, fun j hj hne => (k.block j (Nat.lt_of_lt_of_le hj h.size) (fun e => by have := hr j e.symm; omega)).trans (h.block j hj hne)⟩
theorem whole_cells {w : World} {g : Nat} {t : TypeId} {xs : List Value} (h : Whole w g t xs.toArray) : ∀ j u, xs[j]? = some u → w.cell? ((⟨g, 0, none⟩ : Addr).add j) = some u := by
  intro j u hj
  unfold Whole at h
  rcases j with _ | j <;> simp [World.cell?, Addr.add, h, hj]
/-- What an element's cells are to be: so many, each of one cell. -/
structure Cells {α : Type} (m : Nat) (f : α → List Value) : Prop where
  len : ∀ x, (f x).length = m
  one : ∀ x, ∀ v ∈ f x, v.oneCell' = true
/-- A slice of elements that is one's own. -/
abbrev OwnG {α : Type} (T : TypeId) (m : Nat) (f : α → List Value) (w : World) (base : Nat) (v : Value) (N : List α) : Prop := w.ownsRow base T m v N.length (N.flatMap f)
section
variable {α : Type} {m : Nat} {f : α → List Value} {T : TypeId}
theorem flatG_len (F : Cells m f) (N : List α) : (N.flatMap f).length = N.length * m := by
  induction N with
  | nil => simp
  | cons x r ih => rw [List.flatMap_cons, List.length_append, ih, List.length_cons, F.len, Nat.add_mul]; omega
theorem flatG_at (F : Cells m f) (N : List α) : ∀ (i : Nat) (y : α) (j : Nat), N[i]? = some y → j < m → (N.flatMap f)[i * m + j]? = (f y)[j]? := by
  induction N with
  | nil => intro i y j h; simp at h
  | cons x r ih =>
    intro i y j h hj
    have h5 := F.len x
    rw [List.flatMap_cons]
    cases i with
    | zero =>
      simp at h
      subst h
      rw [List.getElem?_append_left (by rw [h5]; omega)]
      simp
    | succ i =>
      rw [List.getElem?_append_right (by rw [h5, Nat.add_mul]; omega), h5, show (i + 1) * m + j - m = i * m + j by rw [Nat.add_mul]; omega]
      exact ih i y j (by simpa using h) hj
theorem OwnG.lg (F : Cells m f) {w : World} {base : Nat} {A : Option Addr} {n c : Nat} {N : List α} (h : OwnG T m f w base (.slice A n c) N) : graph.Lg m f w A N := by
  rcases h.2 with ⟨-, hn⟩ | ⟨g, cap, cur, hv, hb, hg, hc, hcm, hs, ht⟩
  · rw [List.eq_nil_of_length_eq_zero hn]; exact .inl rfl
  · injection hv with h1 h2 h3
    subst h1
    refine .inr ⟨g, 0, rfl, (Array.getElem?_eq_some_iff.1 hg).1, fun i x hx => ?_⟩
    rw [List.getElem?_map, Option.map_eq_some_iff] at hx
    obtain ⟨y, hy, rfl⟩ := hx
    refine ⟨F.len y, fun j hj => ?_⟩
    have e := flatG_at F N i y j hy hj
    have hi := (List.getElem?_eq_some_iff.1 hy).1
    have hlt : i * m + j < N.length * m := by
      have : (i + 1) * m ≤ N.length * m := Nat.mul_le_mul_right m hi
      rw [Nat.add_mul] at this
      omega
    rw [← ht, List.getElem?_take, if_pos hlt, Array.getElem?_toList] at e
    rw [← e]
    simp [World.cell?, hg]
theorem OwnG.below {w w' : World} {base : Nat} {v : Value} {N : List α} (h : OwnG T m f w base v N) (hb : Below w.heap.size w w') : OwnG T m f w' base v N := by
  refine ⟨h.1, ?_⟩
  rcases h.2 with hn | ⟨g, cap, cur, hv, hg0, hg, rest⟩
  · exact .inl hn
  · exact .inr ⟨g, cap, cur, hv, hg0, (hb.block g (Array.getElem?_eq_some_iff.1 hg).1).trans hg, rest⟩
theorem OwnG.past {w w' : World} {base : Nat} {row : Option Nat} {v : Value} {N : List α} (h : OwnG T m f w base v N) (hg : w.grownBy w' row) (hn : ∀ k, row = some k → some k ≠ v.ownBlock) : OwnG T m f w' base v N := by
  refine ⟨h.1, ?_⟩
  rcases h.2 with hx | ⟨g', cap, cur, hv, hg0, hh, rest⟩
  · exact .inl hx
  · refine .inr ⟨g', cap, cur, hv, hg0, (hg.block g' (Array.getElem?_eq_some_iff.1 hh).1 (fun e => hn g' e.symm ?_)).trans hh, rest⟩
    rw [hv]
    rfl
theorem OwnG.away {w : World} {base gz : Nat} {v : Value} {N : List α} (h : OwnG T m f w base v N) (hz : w.heap.size ≤ gz) : some gz ≠ v.ownBlock := by
  rcases h.2 with ⟨rfl, _⟩ | ⟨g, cap, cur, rfl, hb, hg, _⟩
  · simp [Value.ownBlock]
  · have := (Array.getElem?_eq_some_iff.1 hg).1
    simp [Value.ownBlock]
    omega
theorem OwnG.above {w : World} {base k : Nat} {v : Value} {N : List α} (h : OwnG T m f w base v N) (e : v.ownBlock = some k) : base ≤ k := by
  rcases h.2 with ⟨rfl, _⟩ | ⟨g, cap, cur, rfl, hb, _, _⟩
  · simp [Value.ownBlock] at e
  · obtain rfl : g = k := by simpa [Value.ownBlock] using e
    exact hb
theorem OwnG.keptG {w w' : World} {base g : Nat} {v : Value} {N : List α} (h : OwnG T m f w base v N) (hg : w.grownBy w' (some g)) (hb : g < base) : OwnG T m f w' base v N :=
  h.past hg fun k e he => by
    cases e
    have := h.above he.symm
    omega
theorem OwnG.room {w : World} {base : Nat} {A : Option Addr} {n c : Nat} {N : List α} (h : OwnG T m f w base (.slice A n c) N) : N.length ≤ c := by
  rcases h.2 with ⟨-, hn⟩ | ⟨g, cap, cur, hv, hb, hg, hc, hcm, hs, ht⟩
  · omega
  · injection hv with h1 h2 h3
    omega
theorem OwnG.gap {w : World} {base : Nat} {A : Option Addr} {n c : Nat} {N : List α} (h : OwnG T m f w base (.slice A n c) N) : ∀ a, A = some a → base ≤ a.block := by
  rintro a rfl
  rcases h.2 with ⟨hv, -⟩ | ⟨g, cap, cur, hv, hb, hg, hc, hcm, hs, ht⟩
  · cases hv
  · injection hv with h1 h2 h3
    injection h1 with h1
    subst h1
    exact hb
theorem OwnG.succ {W : World} {base k : Nat} {v : Value} {xs : List Value} (h : W.ownsRow base T m v (k + 1) xs) : ∃ g cap, v = .slice (some ⟨g, 0, none⟩) (k + 1) cap := by
  rcases h.2 with ⟨-, h0⟩ | ⟨g, cap, cur, hv, -⟩
  · omega
  · exact ⟨g, cap, hv⟩
theorem ownG_nil (w : World) (base : Nat) : OwnG T m f w base (.slice none 0 0) [] := World.ownsRow_nil _ _ _ _
/-- A row of one element, newer than a place. -/
def LoneG (T : TypeId) (f : α → List Value) (z : Nat) (p : α) : Value → World → Prop := fun u w => ∃ gx, u = .slice (some ⟨gx, 0, none⟩) 1 1 ∧ z ≤ gx ∧ Whole w gx T (f p).toArray
theorem keeps_loneG (z : Nat) (p : α) : Keeps (LoneG T f z p) := fun _ _ _ hb ⟨gx, h1, h2, h3⟩ => ⟨gx, h1, h2, h3.below hb h3.inside⟩
def NewG (T : TypeId) (m : Nat) (f : α → List Value) (base : Nat) (N : List α) : Value → World → Prop := fun u w => ∃ g' c', u = .slice (some ⟨g', 0, none⟩) N.length c' ∧ OwnG T m f w base u N
theorem keeps_newG (base : Nat) (N : List α) : Keeps (NewG T m f base N) := fun _ _ _ hb ⟨g', c', h1, h2⟩ => ⟨g', c', h1, h2.below hb⟩
/-- A block holds these cells, one of them a row that is one's own. -/
def LaidG (T : TypeId) (m : Nat) (f : α → List Value) (gm : Nat) (tm : TypeId) (cs : Value → Array Value) (base : Nat) (N : List α) : Value → World → Prop := fun _ w => ∃ D c', Whole w gm tm (cs (.slice D N.length c')) ∧ OwnG T m f w base (.slice D N.length c') N
theorem keeps_laidG (gm : Nat) (tm : TypeId) (cs : Value → Array Value) (base : Nat) (N : List α) : Keeps (LaidG T m f gm tm cs base N) := fun _ _ _ hb ⟨D, c', h1, h2⟩ => ⟨D, c', h1.below hb h1.inside, h2.below hb⟩
/-- A row that came, or was made, stays where only another block turns. -/
theorem lg_past {w w' : World} {A : Option Addr} {M : List α} {gx : Nat} (h : graph.Lg m f w A M) (hg : w.grownBy w' (some gx)) (hn : ∀ a, A = some a → a.block ≠ gx) : graph.Lg m f w' A M := by
  rcases h with h | ⟨b, off, hA, hbl, hc⟩
  · exact .inl h
  · have hb := hg.block b hbl (by have := hn _ hA; simpa using this)
    refine .inr ⟨b, off, hA, Nat.lt_of_lt_of_le hbl hg.size, fun i x hx => ⟨(hc i x hx).1, fun j hj => ?_⟩⟩
    rw [← (hc i x hx).2 j hj]
    simp only [World.cell?, hb]
end
end Go.Proofs.Ytbomlapmoiamgaa.region
