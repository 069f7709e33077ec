/-
  Graphs: their parts, how they lie, what is wrong with one (mathematics).
  Rows that are one's own, of elements of any kind; a store of one cell; a call in a region. It names no number of a program.
-/
import Derived.Test.YtlbphlhbofjfgaaDoorJWm
import Derived.Test.YtlbphlhbofjfgaaDoorJWn
import Derived.Test.YtlbphlhbofjfgaaDoorJRt5
namespace Go.Proofs.YtlbphlhbofjfgaaDoor.graph
open Go.ChangeShapes Go.WideShapes Go.ChangeAt Go.RowKit
open Go.Proofs.YtlbphlhbofjfgaaDoor.opened Go.Proofs.YtlbphlhbofjfgaaDoor.block Go.Proofs.YtlbphlhbofjfgaaDoor.words

structure Cl where
  n : Bs
  w : Int
deriving DecidableEq
structure Lo where
  n : Bs
  u : Int
  r : Int
deriving DecidableEq
structure Oq where
  n : Bs
  k : Int
  l : Int
  a : Int
  x : Int
  y : Int
deriving DecidableEq
structure Ch where
  f : Int
  t : Int
deriving DecidableEq
structure Gr where
  c : List Cl
  l : List Lo
  o : List Oq
  h : List Ch
abbrev I64 (n : Int) : Prop := -9223372036854775808 ≤ n ∧ n ≤ 9223372036854775807
structure Gr.In (g : Gr) : Prop where
  c : ∀ x ∈ g.c, I64 x.w
  l : ∀ x ∈ g.l, I64 x.u ∧ I64 x.r
  o : ∀ x ∈ g.o, I64 x.k ∧ I64 x.l ∧ I64 x.a ∧ I64 x.x ∧ I64 x.y
  h : ∀ x ∈ g.h, I64 x.f ∧ I64 x.t
def cCl (x : Cl) : List Value := [sV x.n, .int .i64 x.w]
def cLo (x : Lo) : List Value := [sV x.n, .int .i64 x.u, .int .i64 x.r]
def cOq (x : Oq) : List Value := [sV x.n, .int .i64 x.k, .int .i64 x.l, .int .i64 x.a, .int .i64 x.x, .int .i64 x.y]
def cCh (x : Ch) : List Value := [.int .i64 x.f, .int .i64 x.t]
/-- A row of parts. -/
def Lg {α : Type} (m : Nat) (f : α → List Value) (w : World) (A : Option Addr) (M : List α) : Prop := LiesN w A m (M.map f)
theorem Lg.below {α : Type} {m : Nat} {f : α → List Value} {w w' : World} {A : Option Addr} {M : List α} (h : Lg m f w A M) (hb : Below w.heap.size w w') : Lg m f w' A M := by
  rcases h with h | ⟨b, off, hA, hbl, hc⟩
  · exact .inl h
  · exact .inr ⟨b, off, hA, Nat.lt_of_lt_of_le hbl hb.size, fun i x hx => ⟨(hc i x hx).1, fun j hj => (hb.cell (p := ⟨b, off + (i * m + j), none⟩) hbl).trans ((hc i x hx).2 j hj)⟩⟩
theorem Lg.cells {α : Type} {m : Nat} {f : α → List Value} {w : World} {A : Option Addr} {M : List α} (h : Lg m f w A M) {k : Nat} {p : α} (hk : M[k]? = some p) :
    ∃ b off, A = some ⟨b, off, none⟩ ∧ b < w.heap.size ∧ ∀ j, j < m → w.cell? ⟨b, off + (k * m + j), none⟩ = (f p)[j]? := by
  rcases h with h | ⟨b, off, hA, hbl, hc⟩
  · have : M = [] := by simpa using h
    subst this
    simp at hk
  · have hx : (M.map f)[k]? = some (f p) := by rw [List.getElem?_map, hk]; rfl
    exact ⟨b, off, hA, hbl, (hc k (f p) hx).2⟩
theorem at_cl {w : World} {A : Option Addr} {M : List Cl} (h : Lg 2 cCl w A M) {k : Nat} {p : Cl} (hk : M[k]? = some p) :
    ∃ b off, A = some ⟨b, off, none⟩ ∧ b < w.heap.size ∧ w.cell? ⟨b, off + k * 2, none⟩ = some (sV p.n) ∧ w.cell? ⟨b, off + k * 2 + 1, none⟩ = some (.int .i64 p.w) := by
  obtain ⟨b, off, hA, hb, hc⟩ := h.cells hk
  exact ⟨b, off, hA, hb, by simpa [cCl, Nat.add_assoc] using hc 0 (by omega), by simpa [cCl, Nat.add_assoc] using hc 1 (by omega)⟩
theorem at_lo {w : World} {A : Option Addr} {M : List Lo} (h : Lg 3 cLo w A M) {k : Nat} {p : Lo} (hk : M[k]? = some p) :
    ∃ b off, A = some ⟨b, off, none⟩ ∧ b < w.heap.size ∧ w.cell? ⟨b, off + k * 3, none⟩ = some (sV p.n) ∧ w.cell? ⟨b, off + k * 3 + 1, none⟩ = some (.int .i64 p.u) ∧ w.cell? ⟨b, off + k * 3 + 2, none⟩ = some (.int .i64 p.r) := by
  obtain ⟨b, off, hA, hb, hc⟩ := h.cells hk
  exact ⟨b, off, hA, hb, by simpa [cLo, Nat.add_assoc] using hc 0 (by omega), by simpa [cLo, Nat.add_assoc] using hc 1 (by omega), by simpa [cLo, Nat.add_assoc] using hc 2 (by omega)⟩
theorem at_oq {w : World} {A : Option Addr} {M : List Oq} (h : Lg 6 cOq w A M) {k : Nat} {p : Oq} (hk : M[k]? = some p) :
    ∃ b off, A = some ⟨b, off, none⟩ ∧ b < w.heap.size ∧ w.cell? ⟨b, off + k * 6, none⟩ = some (sV p.n) ∧ w.cell? ⟨b, off + k * 6 + 1, none⟩ = some (.int .i64 p.k) ∧ w.cell? ⟨b, off + k * 6 + 2, none⟩ = some (.int .i64 p.l) ∧ w.cell? ⟨b, off + k * 6 + 3, none⟩ = some (.int .i64 p.a) ∧ w.cell? ⟨b, off + k * 6 + 4, none⟩ = some (.int .i64 p.x) ∧ w.cell? ⟨b, off + k * 6 + 5, none⟩ = some (.int .i64 p.y) := by
  obtain ⟨b, off, hA, hb, hc⟩ := h.cells hk
  exact ⟨b, off, hA, hb, by simpa [cOq, Nat.add_assoc] using hc 0 (by omega), by simpa [cOq, Nat.add_assoc] using hc 1 (by omega), by simpa [cOq, Nat.add_assoc] using hc 2 (by omega), by simpa [cOq, Nat.add_assoc] using hc 3 (by omega), by simpa [cOq, Nat.add_assoc] using hc 4 (by omega), by simpa [cOq, Nat.add_assoc] using hc 5 (by omega)⟩
theorem at_ch {w : World} {A : Option Addr} {M : List Ch} (h : Lg 2 cCh w A M) {k : Nat} {p : Ch} (hk : M[k]? = some p) :
    ∃ b off, A = some ⟨b, off, none⟩ ∧ b < w.heap.size ∧ w.cell? ⟨b, off + k * 2, none⟩ = some (.int .i64 p.f) ∧ w.cell? ⟨b, off + k * 2 + 1, none⟩ = some (.int .i64 p.t) := by
  obtain ⟨b, off, hA, hb, hc⟩ := h.cells hk
  exact ⟨b, off, hA, hb, by simpa [cCh, Nat.add_assoc] using hc 0 (by omega), by simpa [cCh, Nat.add_assoc] using hc 1 (by omega)⟩
/-- Where a graph lies: four rows, with their rooms. -/
structure Gv where
  a : Option Addr
  b : Option Addr
  d : Option Addr
  e : Option Addr
  i : Nat
  j : Nat
  k : Nat
  m : Nat
/-- A graph as a value: four slices. -/
abbrev gV (v : Gv) (g : Gr) : Value := .agg #[.slice v.a g.c.length v.i, .slice v.b g.l.length v.j, .slice v.d g.o.length v.k, .slice v.e g.h.length v.m]
structure Lies4 (w : World) (v : Gv) (g : Gr) : Prop where
  c : Lg 2 cCl w v.a g.c
  l : Lg 3 cLo w v.b g.l
  o : Lg 6 cOq w v.d g.o
  h : Lg 2 cCh w v.e g.h
theorem Lies4.below {w w' : World} {v : Gv} {g : Gr} (h : Lies4 w v g) (hb : Below w.heap.size w w') : Lies4 w' v g := ⟨h.c.below hb, h.l.below hb, h.o.below hb, h.h.below hb⟩
/-! ### What is wrong with a graph -/
/-- The first thing that is wrong, of so many. -/
def firstE (f : Nat → Int) : Nat → Int
  | 0 => 0
  | k + 1 => if firstE f k = 0 then f k else firstE f k
theorem first_next {f : Nat → Int} {k : Nat} (h : firstE f k = 0) : firstE f (k + 1) = f k := by simp [firstE, h]
theorem first_keep {f : Nat → Int} {k : Nat} (h : firstE f k ≠ 0) : ∀ n, k ≤ n → firstE f n = firstE f k
  | 0, hn => by
    obtain rfl : k = 0 := by omega
    rfl
  | n + 1, hn => by
    by_cases e : k = n + 1
    · rw [e]
    · have ih := first_keep h n (by omega)
      rw [firstE, if_neg (by rw [ih]; exact h), ih]
theorem first_stop {f : Nat → Int} {k : Nat} (h : firstE f k = 0) (he : f k ≠ 0) : ∀ n, k < n → firstE f n = f k := fun n hn => by
  have e := first_next h
  rw [first_keep (k := k + 1) (by rw [e]; exact he) n hn, e]
theorem first_zero {f : Nat → Int} : ∀ {n : Nat}, firstE f n = 0 → ∀ k, k < n → f k = 0
  | 0, _, k, hk => by omega
  | n + 1, h, k, hk => by
    rw [firstE] at h
    split at h
    · rename_i h0
      by_cases e : k = n
      · rw [e]; exact h
      · exact first_zero h0 k (by omega)
    · rename_i h0
      exact absurd h h0
def sizesE (g : Gr) : Int := if 4 < g.c.length ∨ 6 < g.l.length ∨ 24 < g.o.length ∨ 48 < g.h.length then 7 else if g.c.length = 0 ∨ g.o.length = 0 then 3 else 0
def nameE (ahead : List Bs) (n : Bs) : Int := if nameB n = false then 6 else if n ∈ ahead then 4 else 0
def clE (C : List Cl) (i : Nat) : Int := match C[i]? with
  | none => 0
  | some x => if nameE ((C.take i).map (·.n)) x.n ≠ 0 then nameE ((C.take i).map (·.n)) x.n else if x.w < 1 ∨ 4 < x.w then 1 else 0
/-- How many loops a loop is in, itself among them; its Ups are less than their numbers. -/
def deepF (L : List Lo) : Nat → Int → Nat
  | 0, _ => 0
  | f + 1, i => if i < 0 then 0 else match L[i.toNat]? with
    | none => 0
    | some x => deepF L f x.u + 1
/-- Each loop's Up is less than its number, up to a place. -/
def UpOk (L : List Lo) (n : Nat) : Prop := ∀ i x, i < n → L[i]? = some x → -1 ≤ x.u ∧ x.u < i
theorem deepF_more {L : List Lo} {n : Nat} (h : UpOk L n) : ∀ (f e : Nat) (i : Int), i < n → i < f → i < e → deepF L f i = deepF L e i
  | 0, 0, i, _, _, _ => rfl
  | 0, e + 1, i, h1, h2, h3 => by
    have : i < 0 := by omega
    simp [deepF, this]
  | f + 1, 0, i, h1, h2, h3 => by
    have : i < 0 := by omega
    simp [deepF, this]
  | f + 1, e + 1, i, h1, h2, h3 => by
    unfold deepF
    by_cases hi : i < 0
    · rw [if_pos hi, if_pos hi]
    · rw [if_neg hi, if_neg hi]
      cases hx : L[i.toNat]? with
      | none => rfl
      | some x =>
        have := h i.toNat x (by omega) hx
        dsimp only
        rw [deepF_more h f e x.u (by omega) (by omega) (by omega)]
def deepL (L : List Lo) (i : Int) : Nat := deepF L (i + 1).toNat i
theorem deep_neg {L : List Lo} {i : Int} (h : i < 0) : deepL L i = 0 := by
  unfold deepL
  cases (i + 1).toNat <;> simp [deepF, h]
theorem deep_step {L : List Lo} {n : Nat} (h : UpOk L n) {i : Nat} {x : Lo} (hi : i < n) (hx : L[i]? = some x) : deepL L i = deepL L x.u + 1 := by
  have hu := h i x hi hx
  unfold deepL
  rw [show ((i : Int) + 1).toNat = i + 1 by omega]
  show (if (i : Int) < 0 then 0 else _) = _
  rw [if_neg (by omega), show ((i : Int)).toNat = i by omega, hx]
  dsimp only
  rw [deepF_more h i (x.u + 1).toNat x.u (by omega) (by omega) (by omega)]
theorem deep_le {L : List Lo} {n : Nat} (h : UpOk L n) : ∀ (f : Nat) (i : Int), i < n → i < f → deepF L f i ≤ f
  | 0, i, _, _ => Nat.le_refl _
  | f + 1, i, h1, h2 => by
    unfold deepF
    by_cases hi : i < 0
    · rw [if_pos hi]; omega
    · rw [if_neg hi]
      cases hx : L[i.toNat]? with
      | none => simp
      | some x =>
        have := h i.toNat x (by omega) hx
        have := deep_le h f x.u (by omega) (by omega)
        dsimp only
        omega
def loE (L : List Lo) (i : Nat) : Int := match L[i]? with
  | none => 0
  | some x => if nameE ((L.take i).map (·.n)) x.n ≠ 0 then nameE ((L.take i).map (·.n)) x.n else if x.u < -1 ∨ (i : Int) ≤ x.u ∨ x.r < 1 ∨ 8 < x.r then 1 else if 3 < deepL L i then 10 else 0
theorem up_of {L : List Lo} {n : Nat} (h : firstE (loE L) n = 0) : UpOk L n := by
  intro i x hi hx
  have e := first_zero h i hi
  unfold loE at e
  rw [hx] at e
  dsimp only at e
  split at e
  · rename_i h1
    exact absurd e h1
  · split at e
    · cases e
    · omega
/-- May an operator of a kind be in a loop? -/
def whereB (k l : Int) : Bool := if k ≤ 2 then decide (l = -1) else if 7 ≤ k ∧ k ≤ 9 then decide (l ≠ -1) else true
/-- What A and B may be. -/
def numsB (k x y : Int) : Bool := if k = 3 then true else if k = 4 then decide (1 ≤ x ∧ x ≤ 1000 ∧ 0 ≤ y ∧ y < x) else if k = 6 then decide (1 ≤ x ∧ x ≤ 1000 ∧ y = 0) else if k = 10 then decide (0 ≤ x ∧ x ≤ 1000 ∧ y = 0) else decide (x = 0 ∧ y = 0)
def opE (g : Gr) (x : Oq) : Int := if x.k < 1 ∨ 14 < x.k then 70 else if x.l < -1 ∨ (g.l.length : Int) ≤ x.l ∨ x.a < 0 ∨ (g.c.length : Int) ≤ x.a then 1 else if whereB x.k x.l = false then 10 else if numsB x.k x.x x.y = false then 1 else 0
def oqE (g : Gr) (i : Nat) : Int := match g.o[i]? with
  | none => 0
  | some x => if nameE ((g.o.take i).map (·.n)) x.n ≠ 0 then nameE ((g.o.take i).map (·.n)) x.n else opE g x
/-- The loop of a place (2i: where operator i takes in, 2i + 1: where it gives out). -/
def loopV (g : Gr) (i : Nat) (out : Bool) : Int := match g.o[i]? with
  | none => -1
  | some x => if (x.k = 7 ∧ out = false) ∨ (x.k = 8 ∧ out = true) then (match g.l[x.l.toNat]? with | none => -1 | some y => y.u) else x.l
def kindAt (g : Gr) (i : Int) : Int := match g.o[i.toNat]? with
  | none => 0
  | some x => x.k
def chE (g : Gr) (i : Nat) : Int := match g.h[i]? with
  | none => 0
  | some x => if x.f < 0 ∨ (g.o.length : Int) ≤ x.f ∨ x.t < 0 ∨ (g.o.length : Int) ≤ x.t then 1 else if kindAt g x.f = 2 ∨ kindAt g x.t = 1 then 5 else if loopV g x.f.toNat true ≠ loopV g x.t.toNat false then 10 else if x ∈ g.h.take i then 4 else 0
def checkE (g : Gr) : Int :=
  if sizesE g ≠ 0 then sizesE g else if firstE (clE g.c) g.c.length ≠ 0 then firstE (clE g.c) g.c.length else if firstE (loE g.l) g.l.length ≠ 0 then firstE (loE g.l) g.l.length
  else if firstE (oqE g) g.o.length ≠ 0 then firstE (oqE g) g.o.length else firstE (chE g) g.h.length
end Go.Proofs.YtlbphlhbofjfgaaDoor.graph
namespace Go.Proofs.YtlbphlhbofjfgaaDoor.region
open Go.ChangeShapes Go.WideShapes Go.ChangeAt Go.RowKit
open Go.Proofs.YtlbphlhbofjfgaaDoor.opened Go.Proofs.YtlbphlhbofjfgaaDoor.block

theorem yieldsW_callR {P : Program} {w : World} {o : Oper} {ρ : Operand → Value} {f : FuncId} {xs : Array Operand} {ts : Array TypeId} {T : Value → World → Prop} (ho : o.op = .call { callee := .value (.func f), args := xs, argTypes := ts }) {vs : Array Value} (hx : xs.map ρ = vs) (hf : ρ (.func f) = .func (.func f) #[] #[]) {fn : Func} (hfn : P.funcs[f]? = some fn) (hname : (fn.name == "runtime.NumGoroutine") = false) (hbody : fn.body.isNone = false)
    (h : Calls P f vs w fun e w' => ∃ u, e = .returned u ∧ T u w') : YieldsW P o ρ w T := by
  have h1 : ¬ fn.name = "runtime.NumGoroutine" := by simpa using hname
  have h2 : ¬ fn.body = none := by
    intro e
    rw [e] at hbody
    cases hbody
  refine .inr ⟨f, vs, ?_, h⟩
  unfold execOp
  simp [ho, hx, hf, resolve, go_sem, callFunc, hfn, h1, h2]
theorem grown_below {a b : World} {row : Option Nat} (h : Below a.heap.size a b) : a.grownBy b row := ⟨h.os, h.tape, h.output, h.size, fun k hk _ => h.block k hk⟩
theorem grown_own {a b c : World} {g : Nat} {row : Option Nat} (h : a.grownBy b (some g)) (k : b.grownBy c row) (hr : ∀ j, row = some j → a.heap.size ≤ j) : a.grownBy c (some g) :=
  ⟨k.os.trans h.os, k.tape.trans h.tape, k.output.trans h.output, Nat.le_trans h.size k.size, fun j hj hne => (k.block j (Nat.lt_of_lt_of_le hj h.size) (fun e => by have := hr j e.symm; omega)).trans (h.block j hj hne)⟩
theorem whole_cells {w : World} {g : Nat} {t : TypeId} {xs : List Value} (h : Whole w g t xs.toArray) : ∀ j u, xs[j]? = some u → w.cell? ((⟨g, 0, none⟩ : Addr).add j) = some u := by
  intro j u hj
  unfold Whole at h
  rcases j with _ | j <;> simp [World.cell?, Addr.add, h, hj]
/-- What an element's cells are to be: so many, each of one cell. -/
structure Cells {α : Type} (m : Nat) (f : α → List Value) : Prop where
  len : ∀ x, (f x).length = m
  one : ∀ x, ∀ v ∈ f x, v.oneCell' = true
/-- A slice of elements that is one's own. -/
abbrev OwnG {α : Type} (T : TypeId) (m : Nat) (f : α → List Value) (w : World) (base : Nat) (v : Value) (N : List α) : Prop := w.ownsRow base T m v N.length (N.flatMap f)
section
variable {α : Type} {m : Nat} {f : α → List Value} {T : TypeId}
theorem flatG_len (F : Cells m f) (N : List α) : (N.flatMap f).length = N.length * m := by
  induction N with
  | nil => simp
  | cons x r ih => rw [List.flatMap_cons, List.length_append, ih, List.length_cons, F.len, Nat.add_mul]; omega
theorem flatG_at (F : Cells m f) (N : List α) : ∀ (i : Nat) (y : α) (j : Nat), N[i]? = some y → j < m → (N.flatMap f)[i * m + j]? = (f y)[j]? := by
  induction N with
  | nil => intro i y j h; simp at h
  | cons x r ih =>
    intro i y j h hj
    have h5 := F.len x
    rw [List.flatMap_cons]
    cases i with
    | zero =>
      simp at h
      subst h
      rw [List.getElem?_append_left (by rw [h5]; omega)]
      simp
    | succ i =>
      rw [List.getElem?_append_right (by rw [h5, Nat.add_mul]; omega), h5, show (i + 1) * m + j - m = i * m + j by rw [Nat.add_mul]; omega]
      exact ih i y j (by simpa using h) hj
theorem OwnG.lg (F : Cells m f) {w : World} {base : Nat} {A : Option Addr} {n c : Nat} {N : List α} (h : OwnG T m f w base (.slice A n c) N) : graph.Lg m f w A N := by
  rcases h.2 with ⟨-, hn⟩ | ⟨g, cap, cur, hv, hb, hg, hc, hcm, hs, ht⟩
  · rw [List.eq_nil_of_length_eq_zero hn]; exact .inl rfl
  · injection hv with h1 h2 h3
    subst h1
    refine .inr ⟨g, 0, rfl, (Array.getElem?_eq_some_iff.1 hg).1, fun i x hx => ?_⟩
    rw [List.getElem?_map, Option.map_eq_some_iff] at hx
    obtain ⟨y, hy, rfl⟩ := hx
    refine ⟨F.len y, fun j hj => ?_⟩
    have e := flatG_at F N i y j hy hj
    have hi := (List.getElem?_eq_some_iff.1 hy).1
    have hlt : i * m + j < N.length * m := by
      have : (i + 1) * m ≤ N.length * m := Nat.mul_le_mul_right m hi
      rw [Nat.add_mul] at this
      omega
    rw [← ht, List.getElem?_take, if_pos hlt, Array.getElem?_toList] at e
    rw [← e]
    simp [World.cell?, hg]
theorem OwnG.below {w w' : World} {base : Nat} {v : Value} {N : List α} (h : OwnG T m f w base v N) (hb : Below w.heap.size w w') : OwnG T m f w' base v N := by
  refine ⟨h.1, ?_⟩
  rcases h.2 with hn | ⟨g, cap, cur, hv, hg0, hg, rest⟩
  · exact .inl hn
  · exact .inr ⟨g, cap, cur, hv, hg0, (hb.block g (Array.getElem?_eq_some_iff.1 hg).1).trans hg, rest⟩
theorem OwnG.past {w w' : World} {base : Nat} {row : Option Nat} {v : Value} {N : List α} (h : OwnG T m f w base v N) (hg : w.grownBy w' row) (hn : ∀ k, row = some k → some k ≠ v.ownBlock) : OwnG T m f w' base v N := by
  refine ⟨h.1, ?_⟩
  rcases h.2 with hx | ⟨g', cap, cur, hv, hg0, hh, rest⟩
  · exact .inl hx
  · refine .inr ⟨g', cap, cur, hv, hg0, (hg.block g' (Array.getElem?_eq_some_iff.1 hh).1 (fun e => hn g' e.symm ?_)).trans hh, rest⟩
    rw [hv]
    rfl
theorem OwnG.away {w : World} {base gz : Nat} {v : Value} {N : List α} (h : OwnG T m f w base v N) (hz : w.heap.size ≤ gz) : some gz ≠ v.ownBlock := by
  rcases h.2 with ⟨rfl, _⟩ | ⟨g, cap, cur, rfl, hb, hg, _⟩
  · simp [Value.ownBlock]
  · have := (Array.getElem?_eq_some_iff.1 hg).1
    simp [Value.ownBlock]
    omega
theorem OwnG.above {w : World} {base k : Nat} {v : Value} {N : List α} (h : OwnG T m f w base v N) (e : v.ownBlock = some k) : base ≤ k := by
  rcases h.2 with ⟨rfl, _⟩ | ⟨g, cap, cur, rfl, hb, _, _⟩
  · simp [Value.ownBlock] at e
  · obtain rfl : g = k := by simpa [Value.ownBlock] using e
    exact hb
theorem OwnG.keptG {w w' : World} {base g : Nat} {v : Value} {N : List α} (h : OwnG T m f w base v N) (hg : w.grownBy w' (some g)) (hb : g < base) : OwnG T m f w' base v N :=
  h.past hg fun k e he => by
    cases e
    have := h.above he.symm
    omega
theorem OwnG.room {w : World} {base : Nat} {A : Option Addr} {n c : Nat} {N : List α} (h : OwnG T m f w base (.slice A n c) N) : N.length ≤ c := by
  rcases h.2 with ⟨-, hn⟩ | ⟨g, cap, cur, hv, hb, hg, hc, hcm, hs, ht⟩
  · omega
  · injection hv with h1 h2 h3
    omega
theorem OwnG.gap {w : World} {base : Nat} {A : Option Addr} {n c : Nat} {N : List α} (h : OwnG T m f w base (.slice A n c) N) : ∀ a, A = some a → base ≤ a.block := by
  rintro a rfl
  rcases h.2 with ⟨hv, -⟩ | ⟨g, cap, cur, hv, hb, hg, hc, hcm, hs, ht⟩
  · cases hv
  · injection hv with h1 h2 h3
    injection h1 with h1
    subst h1
    exact hb
theorem OwnG.succ {W : World} {base k : Nat} {v : Value} {xs : List Value} (h : W.ownsRow base T m v (k + 1) xs) : ∃ g cap, v = .slice (some ⟨g, 0, none⟩) (k + 1) cap := by
  rcases h.2 with ⟨-, h0⟩ | ⟨g, cap, cur, hv, -⟩
  · omega
  · exact ⟨g, cap, hv⟩
theorem ownG_nil (w : World) (base : Nat) : OwnG T m f w base (.slice none 0 0) [] := World.ownsRow_nil _ _ _ _
/-- A row of one element, newer than a place. -/
def LoneG (T : TypeId) (f : α → List Value) (z : Nat) (p : α) : Value → World → Prop := fun u w => ∃ gx, u = .slice (some ⟨gx, 0, none⟩) 1 1 ∧ z ≤ gx ∧ Whole w gx T (f p).toArray
theorem keeps_loneG (z : Nat) (p : α) : Keeps (LoneG T f z p) := fun _ _ _ hb ⟨gx, h1, h2, h3⟩ => ⟨gx, h1, h2, h3.below hb h3.inside⟩
def NewG (T : TypeId) (m : Nat) (f : α → List Value) (base : Nat) (N : List α) : Value → World → Prop := fun u w => ∃ g' c', u = .slice (some ⟨g', 0, none⟩) N.length c' ∧ OwnG T m f w base u N
theorem keeps_newG (base : Nat) (N : List α) : Keeps (NewG T m f base N) := fun _ _ _ hb ⟨g', c', h1, h2⟩ => ⟨g', c', h1, h2.below hb⟩
/-- A block holds these cells, one of them a row that is one's own. -/
def LaidG (T : TypeId) (m : Nat) (f : α → List Value) (gm : Nat) (tm : TypeId) (cs : Value → Array Value) (base : Nat) (N : List α) : Value → World → Prop := fun _ w => ∃ D c', Whole w gm tm (cs (.slice D N.length c')) ∧ OwnG T m f w base (.slice D N.length c') N
theorem keeps_laidG (gm : Nat) (tm : TypeId) (cs : Value → Array Value) (base : Nat) (N : List α) : Keeps (LaidG T m f gm tm cs base N) := fun _ _ _ hb ⟨D, c', h1, h2⟩ => ⟨D, c', h1.below hb h1.inside, h2.below hb⟩
/-- A row that came, or was made, stays where only another block turns. -/
theorem lg_past {w w' : World} {A : Option Addr} {M : List α} {gx : Nat} (h : graph.Lg m f w A M) (hg : w.grownBy w' (some gx)) (hn : ∀ a, A = some a → a.block ≠ gx) : graph.Lg m f w' A M := by
  rcases h with h | ⟨b, off, hA, hbl, hc⟩
  · exact .inl h
  · have hb := hg.block b hbl (by have := hn _ hA; simpa using this)
    refine .inr ⟨b, off, hA, Nat.lt_of_lt_of_le hbl hg.size, fun i x hx => ⟨(hc i x hx).1, fun j hj => ?_⟩⟩
    rw [← (hc i x hx).2 j hj]
    simp only [World.cell?, hb]
end
end Go.Proofs.YtlbphlhbofjfgaaDoor.region
