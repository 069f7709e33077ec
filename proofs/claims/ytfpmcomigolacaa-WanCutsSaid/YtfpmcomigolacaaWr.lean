/-
  What turns besides: TurnS (of what was there nothing has turned but blocks of S); what an append to a network's row turns. The letter's type.
-/
import Derived.Test.YtfpmcomigolacaaWd1
set_option linter.unusedSimpArgs false
set_option linter.unusedVariables false
namespace Go.Proofs.Ytfpmcomigolacaa.region
open Go.ChangeShapes Go.WideShapes Go.ChangeAt Go.RowKit
open Go.Proofs.Ytfpmcomigolacaa.opened Go.Proofs.Ytfpmcomigolacaa.block
/-- Of what was there nothing has turned but blocks of S. -/
structure TurnS (w w' : World) (S : Nat → Prop) : Prop where
  os : w'.os = w.os
  tape : w'.tape = w.tape
  output : w'.output = w.output
  size : w.heap.size ≤ w'.heap.size
  block : ∀ k, k < w.heap.size → ¬ S k → w'.heap[k]? = w.heap[k]?
theorem TurnS.refl (w : World) (S : Nat → Prop) : TurnS w w S := ⟨rfl, rfl, rfl, Nat.le_refl _, fun _ _ _ => rfl⟩
theorem TurnS.below {w w' : World} {S : Nat → Prop} (h : TurnS w w' S) {B : Nat} (hB : B ≤ w.heap.size) (hs : ∀ k, S k → B ≤ k) : Below B w w' :=
  ⟨h.os, h.tape, h.output, h.size, fun i hi => h.block i (by omega) fun hS => by have := hs i hS; omega⟩
theorem TurnS.later {a b c : World} {S : Nat → Prop} (h : TurnS a b S) (k : Below b.heap.size b c) : TurnS a c S :=
  ⟨k.os.trans h.os, k.tape.trans h.tape, k.output.trans h.output, Nat.le_trans h.size k.size, fun j hj hn => (k.block j (Nat.lt_of_lt_of_le hj h.size)).trans (h.block j hj hn)⟩
theorem TurnS.grown {a b c : World} {S : Nat → Prop} {row : Option Nat} (h : TurnS a b S) (k : b.grownBy c row) (hs : ∀ j, row = some j → S j ∨ a.heap.size ≤ j) : TurnS a c S :=
  ⟨k.os.trans h.os, k.tape.trans h.tape, k.output.trans h.output, Nat.le_trans h.size k.size, fun j hj hn => (k.block j (Nat.lt_of_lt_of_le hj h.size) fun e => by
    rcases hs j e.symm with h1 | h1
    · exact hn h1
    · omega).trans (h.block j hj hn)⟩
theorem turnS_grown {w w' : World} {row : Option Nat} (h : w.grownBy w' row) {S : Nat → Prop} (hs : ∀ k, row = some k → S k) : TurnS w w' S :=
  (TurnS.refl w S).grown h fun j e => .inl (hs j e)
theorem OwnG.shapeT {α : Type} {m : Nat} {f : α → List Value} {T : TypeId} {w : World} {base : Nat} {v : Value} {N : List α} (h : OwnG T m f w base v N) {k : Nat} (e : v.ownBlock = some k) : ∃ cur, w.heap[k]? = some (.cells cur T (0, 0)) := by
  rcases h.2 with ⟨rfl, _⟩ | ⟨g, cap, cur, rfl, hb, hh, _⟩
  · simp [Value.ownBlock] at e
  · obtain rfl : g = k := by simpa [Value.ownBlock] using e
    exact ⟨cur, hh⟩
theorem obj_ne {w : World} {a b : Nat} {o1 o2 : Obj} (h1 : w.heap[a]? = some o1) (h2 : w.heap[b]? = some o2) (hne : o1 ≠ o2) : a ≠ b := by
  rintro rfl
  exact hne (Option.some.inj (h1.symm.trans h2))
theorem ty_ne {x y : Array Value} {t u : TypeId} {p q : Nat × Nat} (h : t ≠ u) : (.cells x t p : Obj) ≠ .cells y u q := by
  intro e
  injection e with _ e
  exact h e
end Go.Proofs.Ytfpmcomigolacaa.region
namespace Go.Proofs.Ytfpmcomigolacaa.wan
open Go.ChangeShapes Go.WideShapes Go.ChangeAt Go.RowKit
open Go.Proofs.Ytfpmcomigolacaa.opened Go.Proofs.Ytfpmcomigolacaa.block Go.Proofs.Ytfpmcomigolacaa.words Go.Proofs.Ytfpmcomigolacaa.region
/-- What an append to the row may turn. -/
def RowS (gd : Nat) (row : Value) (k : Nat) : Prop := k = gd ∨ row.ownBlock = some k
section
variable {w w' : World} {B gd : Nat} {tw tl : TypeId} {row : Value} {N : List Lt} {cs : Array Value}
theorem rowS_above (hr : OwnG tl 3 cL w B row N) (hd : B ≤ gd) : ∀ k, RowS gd row k → B ≤ k := by
  rintro k (e | e)
  · omega
  · exact hr.above e
theorem rowS_ne (hr : OwnG tl 3 cL w B row N) (hd : Whole w gd tw cs) (h : tl ≠ tw) : some gd ≠ row.ownBlock := by
  intro e
  obtain ⟨cur, hc⟩ := OwnG.shapeT hr e.symm
  exact obj_ne hc hd (ty_ne h) rfl
theorem WB.laid (hd : Whole w gd tw cs) (hr : OwnG tl 3 cL w B row N) (hB : B ≤ w.heap.size) (hg : B ≤ gd) (ht : TurnS w w' (RowS gd row)) : WB tw tl B w w' :=
  ⟨ht.below hB (rowS_above hr hg), fun k o ho hn => by
    have hk := (Array.getElem?_eq_some_iff.1 ho).1
    rw [ht.block k hk ?_]
    · exact ho
    · rintro (e | e)
      · subst e
        have hx := Option.some.inj (ho.symm.trans hd)
        exact hn ⟨_, _, .inl hx⟩
      · obtain ⟨cur, hc⟩ := OwnG.shapeT hr e
        have hx := Option.some.inj (ho.symm.trans hc)
        exact hn ⟨_, _, .inr hx⟩⟩
end
theorem infoP : ∃ i, Try.prog.info? 34 = some i ∧ i.zero = some (.agg #[.int .i64 0, .int .i64 0, sV []]) ∧ i.size = 3 ∧ i.bytes = 32 := by
  have h : (Try.prog.info? 34).map (fun i => (i.zero, i.size, i.bytes)) = some (some (.agg #[.int .i64 0, .int .i64 0, sV []]), 3, 32) := by kernel_rfl
  rw [Option.map_eq_some_iff] at h
  obtain ⟨i, hi, he⟩ := h
  simp only [Prod.mk.injEq] at he
  exact ⟨i, hi, he.1, he.2.1, he.2.2⟩
theorem infoP3 : (Try.prog.info? 34).map (·.size) = some 3 := by kernel_rfl
theorem infoR : ∃ i, Try.prog.info? 36 = some i ∧ i.zero = some (.agg #[.int .i64 0, .int .i64 0, sV []]) ∧ i.size = 3 ∧ i.bytes = 32 := by
  have h : (Try.prog.info? 36).map (fun i => (i.zero, i.size, i.bytes)) = some (some (.agg #[.int .i64 0, .int .i64 0, sV []]), 3, 32) := by kernel_rfl
  rw [Option.map_eq_some_iff] at h
  obtain ⟨i, hi, he⟩ := h
  simp only [Prod.mk.injEq] at he
  exact ⟨i, hi, he.1, he.2.1, he.2.2⟩
theorem infoR3 : (Try.prog.info? 36).map (·.size) = some 3 := by kernel_rfl
theorem two_letter {fn : Func} {p q : Tmp} {tl : TypeId} {fs} (h : fn.results = #[.cell p tl, .tmp q]) {tmps : Array Value} {w : World} {g : Nat} {ty : TypeId} {e : Lt} {v : Value}
    (hp : tmps[p]?.getD undef = .pointer (some ⟨g, 0, none⟩)) (hq : tmps[q]?.getD undef = v) (hw : Whole w g ty (cL e).toArray) (hu : Try.prog.underlying tl = some (.struct fs)) (hi : (Try.prog.info? tl).map (·.size) = some 3) : (results fn tmps).run Try.prog w = .ok (.tuple #[e.val, v]) w := by
  simp [results, h, hp, hq, asAddr, loaded hw hu rfl hi, cL]
def atE (W : Wn) (i : Int) : Int := if 0 ≤ i ∧ i < W.L.length then 0 else 1
def atV (W : Wn) (i : Int) : Lt := if 0 ≤ i then (W.L[i.toNat]?).getD ⟨0, 0, []⟩ else ⟨0, 0, []⟩
def layE (W : Wn) : Int := if 96 ≤ W.L.length then 2 else 0
def layV (W : Wn) (l : Lt) : Wn := if 96 ≤ W.L.length then W else { W with L := W.L ++ [l] }
end Go.Proofs.Ytfpmcomigolacaa.wan
