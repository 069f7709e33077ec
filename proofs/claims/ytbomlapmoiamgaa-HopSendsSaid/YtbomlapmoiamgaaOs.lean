/-
  Rows of strings: those that are one's own, and those that came in.
-/
import Derived.Test.YtbomlapmoiamgaaRows
import Derived.Test.YtbomlapmoiamgaaOpen
import Derived.Test.YtbomlapmoiamgaaBlock
import Derived.Test.YtbomlapmoiamgaaWm
import Derived.OwnWalk
import Derived.OwnWalkIn
import Derived.Lib.Hide
import Derived.Maps.AppendAt
set_option linter.unusedSimpArgs false
set_option linter.unusedVariables false
namespace Go.Proofs.Ytbomlapmoiamgaa.words
open Go.ChangeShapes Go.WideShapes Go.ChangeAt Go.RowKit
open Go.Proofs.Ytbomlapmoiamgaa.opened Go.Proofs.Ytbomlapmoiamgaa.block

abbrev sV (l : Bs) : Value := .string ⟨l.toArray⟩
/-- A slice of strings that came in. -/
def Ls (w : World) (A : Option Addr) (N : List Bs) : Prop := Lies w A (N.map sV)
theorem Ls.nil (w : World) : Ls w none [] := .inl rfl
theorem Ls.below {w w' : World} {A : Option Addr} {N : List Bs} (h : Ls w A N) (hb : Below w.heap.size w w') : Ls w' A N := by
  rcases h with h | ⟨b, off, hA, hbl, hc⟩
  · exact .inl h
  · exact .inr ⟨b, off, hA, Nat.lt_of_lt_of_le hbl hb.size, fun i x hx => (hb.cell (p := ⟨b, off + i, none⟩) hbl).trans (hc i x hx)⟩
theorem Ls.at {w : World} {A : Option Addr} {N : List Bs} (h : Ls w A N) {k : Nat} {x : Bs} (hk : N[k]? = some x) : ∃ b off, A = some ⟨b, off, none⟩ ∧ b < w.heap.size ∧ w.cell? ⟨b, off + k, none⟩ = some (sV x) := by
  rcases h with h | ⟨b, off, hA, hbl, hc⟩
  · have : N = [] := by simpa using h
    subst this
    simp at hk
  · exact ⟨b, off, hA, hbl, hc k (sV x) (by rw [List.getElem?_map, hk]; rfl)⟩
/-- A slice of strings that is one's own. -/
abbrev OwnS (w : World) (base : Nat) (v : Value) (N : List Bs) : Prop := w.ownsRow base 9 1 v N.length (N.map sV)
theorem infoS : (Try.prog.info? 9).map (fun i => (i.zero, i.size, i.bytes)) = some (some (.string ByteArray.empty), 1, 16) := by kernel_rfl
theorem infoS_parts : ∃ i, Try.prog.info? 9 = some i ∧ i.zero = some (.string ByteArray.empty) ∧ i.size = 1 ∧ i.bytes = 16 := by
  have h := infoS
  rw [Option.map_eq_some_iff] at h
  obtain ⟨i, hi, he⟩ := h
  simp only [Prod.mk.injEq] at he
  exact ⟨i, hi, he.1, he.2.1, he.2.2⟩
theorem OwnS.lies {w : World} {base : Nat} {A : Option Addr} {n c : Nat} {N : List Bs} (h : OwnS w base (.slice A n c) N) : Ls w A N := by
  rcases h.2 with ⟨-, hn⟩ | ⟨g, cap, cur, hv, hb, hg, hc, hcm, hs, ht⟩
  · rw [List.eq_nil_of_length_eq_zero hn]; exact .inl rfl
  · injection hv with h1 h2 h3
    subst h1
    refine .inr ⟨g, 0, rfl, (Array.getElem?_eq_some_iff.1 hg).1, fun i x hx => ?_⟩
    have hi := (List.getElem?_eq_some_iff.1 hx).1
    rw [List.length_map] at hi
    rw [← ht, List.getElem?_take, if_pos (by omega), Array.getElem?_toList] at hx
    rw [← hx]
    simp [World.cell?, hg]
theorem OwnS.below {w w' : World} {base : Nat} {v : Value} {N : List Bs} (h : OwnS w base v N) (hb : Below w.heap.size w w') : OwnS w' base v N := by
  refine ⟨h.1, ?_⟩
  rcases h.2 with hn | ⟨g, cap, cur, hv, hg0, hg, rest⟩
  · exact .inl hn
  · exact .inr ⟨g, cap, cur, hv, hg0, (hb.block g (Array.getElem?_eq_some_iff.1 hg).1).trans hg, rest⟩
theorem OwnS.grown {W w1 : World} {base : Nat} {v : Value} {N : List Bs} {tmp : Obj} (h : OwnS W base v N) (hb0 : base ≤ W.heap.size) (hg : (W.alloc tmp).grownBy w1 v.ownBlock) : Below base W w1 :=
  ((Below.refl base W).alloc hb0 tmp).grown hg (by simp; omega) fun j ej => by
    rcases h.2 with ⟨rfl, _⟩ | ⟨g, cap, cur, rfl, hb, _, _⟩
    · simp [Value.ownBlock] at ej
    · obtain rfl : g = j := by simpa [Value.ownBlock] using ej
      exact hb
theorem OwnS.low {w : World} {base base' : Nat} {v : Value} {N : List Bs} (h : OwnS w base v N) (hb : base' ≤ base) : OwnS w base' v N := by
  refine ⟨h.1, ?_⟩
  rcases h.2 with hn | ⟨g, cap, cur, hv, hg0, hg, rest⟩
  · exact .inl hn
  · exact .inr ⟨g, cap, cur, hv, Nat.le_trans hb hg0, hg, rest⟩
theorem ownS_nil (w : World) (base : Nat) : OwnS w base (.slice none 0 0) [] := World.ownsRow_nil _ _ _ _
theorem heap_new (w : World) (o : Obj) : (w.alloc o).heap[w.heap.size]? = some o := by
  show (w.heap.push o)[w.heap.size]? = some o
  simp
theorem cell_new1 (w : World) (x : Value) (t : TypeId) : ∀ j u, [x][j]? = some u → (w.alloc (.cells #[x] t)).cell? ((⟨w.heap.size, 0, none⟩ : Addr).add j) = some u := by
  intro j u hj
  have hh : (w.alloc (.cells #[x] t)).heap[w.heap.size]? = some (.cells #[x] t (0, 0)) := heap_new w _
  generalize w.alloc (.cells #[x] t) = W at hh ⊢
  generalize w.heap.size = g at hh ⊢
  cases j with
  | zero => simp only [World.cell?, Addr.add, ↓reduceIte, hh]; simpa using hj
  | succ j => simp at hj
theorem oneS (x : Bs) : ∀ v ∈ [sV x], v.oneCell' = true := by
  intro v hv
  rw [List.mem_singleton] at hv
  subst hv
  rfl
theorem snocS (N : List Bs) (x : Bs) : (N ++ [x]).map sV = N.map sV ++ [sV x] := by simp
theorem size_alloc (w : World) (o : Obj) : (w.alloc o).heap.size = w.heap.size + 1 := Array.size_push o
/-- A slice of strings that is made of a literal. -/
theorem ownS_lit (w : World) (N : List Bs) (h : N.length ≤ 1000) (cs : Array Value) (hc : cs = (N.map sV).toArray) : OwnS (w.alloc (.cells cs 9)) w.heap.size (.slice (some ⟨w.heap.size, 0, none⟩) N.length N.length) N := by
  subst hc
  have := World.ownsRow_lit (base := w.heap.size) (e := 9) (size := 1) w (N.map sV).toArray N.length (Nat.le_refl _) (by unfold maxLen; omega) (by simp)
  simpa using this
theorem ownS_succ {W : World} {base k : Nat} {v : Value} {xs : List Value} (h : W.ownsRow base 9 1 v (k + 1) xs) : ∃ g cap, v = .slice (some ⟨g, 0, none⟩) (k + 1) cap := by
  rcases h.2 with ⟨-, h0⟩ | ⟨g, cap, cur, hv, -⟩
  · omega
  · exact ⟨g, cap, hv⟩
theorem fresh1 (w : World) (o : Obj) : Below w.heap.size w (w.alloc o) := (Below.refl _ _).alloc (Nat.le_refl _) o
def lenOf : Value → Nat
  | .string b => b.size
  | _ => 0
theorem lenOf_str (l : Bs) : lenOf (sV l) = l.length := by
  show l.toArray.size = _
  simp
/-- The place of internal/bytealg.MaxLen holds a number: this seat has no such variable. -/
def MaxIs (_ : World) : Prop := True
theorem MaxIs.below {w w' : World} (_h : MaxIs w) (_hb : Below w.heap.size w w') : MaxIs w' := trivial
end Go.Proofs.Ytbomlapmoiamgaa.words
