/-
  The walk of WanCounts (by mkwkc.py).
-/
import Derived.Test.YtbomlapmoiamgaaWmp
import Derived.Test.YtbomlapmoiamgaaFa
set_option linter.unusedSimpArgs false
set_option linter.unusedVariables false
namespace Go.Proofs.Ytbomlapmoiamgaa.wan
open Go.ChangeShapes Go.WideShapes Go.ChangeAt Go.RowKit
open Go.Proofs.Ytbomlapmoiamgaa.opened Go.Proofs.Ytbomlapmoiamgaa.block Go.Proofs.Ytbomlapmoiamgaa.words Go.Proofs.Ytbomlapmoiamgaa.region
def NumK (a b : Nat) (u : Value) (_ : World) : Prop := ∃ k : Nat, u = .int .i64 (k : Int) ∧ a ≤ k ∧ k ≤ b
theorem keeps_numK (a b : Nat) : Keeps (NumK a b) := fun _ _ _ _ h => h
def TupH (b : Nat) (l : Lt) (S : List Lt) (u : Value) (w : World) : Prop := ∃ (v0 : Value) (st : Nat), u = .tuple #[v0, goInt st] ∧ HalfL w b l S st
def StH (b : Nat) (l : Lt) (S : List Lt) (u : Value) (w : World) : Prop := ∃ st : Nat, u = goInt st ∧ HalfL w b l S st
def OwnQ (b : Nat) (S : List Lt) (_ : Value) (w : World) : Prop := OwnS w b S
theorem HalfL.lt {w : World} {b : Nat} {l : Lt} {S : List Lt} {st : Nat} (h : HalfL w b l S st) : b < w.heap.size := by
  obtain ⟨es, c, h1, -⟩ := h
  exact (Array.getElem?_eq_some_iff.1 h1).1
theorem LookL.lt {w : World} {b n : Nat} {l : Lt} (h : LookL w b l n) : b < w.heap.size := by
  obtain ⟨o, h1, -⟩ := h
  exact (Array.getElem?_eq_some_iff.1 h1).1
theorem HalfL.below {w w' : World} {b : Nat} {l : Lt} {S : List Lt} {st : Nat} (h : HalfL w b l S st) (hb : Below w.heap.size w w') : HalfL w' b l S st := h.same (hb.block b h.lt)
theorem LookL.below {w w' : World} {b n : Nat} {l : Lt} (h : LookL w b l n) (hb : Below w.heap.size w w') : LookL w' b l n := h.same (hb.block b h.lt)
theorem keeps_tupH (b : Nat) (l : Lt) (S : List Lt) : Keeps (TupH b l S) := fun _ _ _ hb ⟨v0, st, h1, h2⟩ => ⟨v0, st, h1, h2.below hb⟩
theorem keeps_stH (b : Nat) (l : Lt) (S : List Lt) : Keeps (StH b l S) := fun _ _ _ hb ⟨st, h1, h2⟩ => ⟨st, h1, h2.below hb⟩
theorem keeps_ownQ (b : Nat) (S : List Lt) : Keeps (OwnQ b S) := fun _ _ _ hb h => OwnS.below h hb
theorem map_not_w {tw tl : TypeId} {xs : Array MapEntry} {c : Nat} : ¬ WObj tw tl (.map xs c) := by
  rintro ⟨_, _, h | h⟩ <;> cases h
theorem OwnS.wb {tw tl : TypeId} {B : Nat} {w w' : World} {b : Nat} {S : List Lt} (h : OwnS w b S) (k : WB tw tl B w w') : OwnS w' b S := by
  obtain ⟨xs, c, hx⟩ := h.shape
  exact h.same ((k.keep b _ hx map_not_w).trans hx.symm)
theorem WanP.maps {tw tl : TypeId} {B : Nat} {w w' : World} {g b : Nat} {W : Wn} (h : WanP tw tl B w g W) (hm : ∃ xs c, w.heap[b]? = some (.map xs c)) (ht : TurnS w w' (fun k => k = b)) : WanP tw tl B w' g W := by
  obtain ⟨A, c, h⟩ := h
  obtain ⟨xs, cl, hx⟩ := hm
  refine ⟨A, c, ⟨(ht.block g h.cell.inside fun e => ?_).trans h.cell, ⟨h.row.1, ?_⟩, h.low⟩⟩
  · subst e
    have := hx.symm.trans h.cell
    cases this
  · rcases h.row.2 with hn | ⟨b2, cap, cur, hv, hb, hh, rest⟩
    · exact .inl hn
    · refine .inr ⟨b2, cap, cur, hv, hb, (ht.block b2 (Array.getElem?_eq_some_iff.1 hh).1 fun e => ?_).trans hh, rest⟩
      subst e
      have := hx.symm.trans hh
      cases this
theorem Whole.maps {w w' : World} {g b : Nat} {t : TypeId} {cs : Array Value} (h : Whole w g t cs) (hm : ∃ xs c, w.heap[b]? = some (.map xs c)) (ht : TurnS w w' (fun k => k = b)) : Whole w' g t cs := by
  obtain ⟨xs, cl, hx⟩ := hm
  refine (ht.block g h.inside fun e => ?_).trans h
  subst e
  have := hx.symm.trans h
  cases this
/-- What stands between the rounds. -/
structure Ct (w : World) (gw gm : Nat) (wr : World) (k : Nat) (W : Wn) (S : List Lt) (a b r : Int) : Prop where
  m : Cnt k W S a b r
  b0 : 0 ≤ b
  b1 : b ≤ k
  r0 : 0 ≤ r
  r1 : r ≤ k
  s1 : S.length ≤ k
  a0 : 0 ≤ a
  a1 : a ≤ k
  p : PP w.heap.size wr gw W
  o : OwnS wr gm S
  low : w.heap.size ≤ gm
  h : Below w.heap.size w wr
section
variable {w : World} {gw gm : Nat} {wr w' : World} {k : Nat} {W : Wn} {S : List Lt} {a b r : Int}
theorem Ct.more (h : Ct w gw gm wr k W S a b r) (hb : Below wr.heap.size wr w') : Ct w gw gm w' k W S a b r :=
  ⟨h.m, h.b0, h.b1, h.r0, h.r1, h.s1, h.a0, h.a1, h.p.below hb, h.o.below hb, h.low, h.h.trans (hb.mono h.h.size)⟩
theorem Ct.sub (h : Ct w gw gm wr k W S a b r) {V : Wn} {a' b' r' : Int} (p : PP w.heap.size w' gw V) (q : QQ w.heap.size wr w') (m : Cnt (k + 1) V S a' b' r') (ha : a ≤ a' ∧ a' ≤ a + 1) (hb : b ≤ b' ∧ b' ≤ b + 1) (hr : r ≤ r' ∧ r' ≤ r + 1) : Ct w gw gm w' (k + 1) V S a' b' r' := by
  have := h.b0; have := h.b1; have := h.r0; have := h.r1; have := h.s1; have := h.a0; have := h.a1
  exact ⟨m, by omega, by omega, by omega, by omega, by omega, by omega, by omega, p, h.o.wb q, h.low, h.h.trans q.below⟩
end
end Go.Proofs.Ytbomlapmoiamgaa.wan
