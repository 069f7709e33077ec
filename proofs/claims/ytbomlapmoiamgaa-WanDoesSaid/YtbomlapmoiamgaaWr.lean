/-
  What turns besides: TurnS (of what was there nothing has turned but blocks of S); what an append to a network's row turns. The letter's type.
-/
import Derived.Test.YtbomlapmoiamgaaWd1
import Derived.Test.YtbomlapmoiamgaaTs
set_option linter.unusedSimpArgs false
set_option linter.unusedVariables false
namespace Go.Proofs.Ytbomlapmoiamgaa.wan
open Go.ChangeShapes Go.WideShapes Go.ChangeAt Go.RowKit
open Go.Proofs.Ytbomlapmoiamgaa.opened Go.Proofs.Ytbomlapmoiamgaa.block Go.Proofs.Ytbomlapmoiamgaa.words Go.Proofs.Ytbomlapmoiamgaa.region
/-- What an append to the row may turn. -/
def RowS (gd : Nat) (row : Value) (k : Nat) : Prop := k = gd ∨ row.ownBlock = some k
section
variable {w w' : World} {B gd : Nat} {tw tl : TypeId} {row : Value} {N : List Lt} {cs : Array Value}
theorem rowS_above (hr : OwnG tl 3 cL w B row N) (hd : B ≤ gd) : ∀ k, RowS gd row k → B ≤ k := by
  rintro k (e | e)
  · omega
  · exact hr.above e
theorem rowS_ne (hr : OwnG tl 3 cL w B row N) (hd : Whole w gd tw cs) (h : tl ≠ tw) : some gd ≠ row.ownBlock := by
  intro e
  obtain ⟨cur, hc⟩ := OwnG.shapeT hr e.symm
  exact obj_ne hc hd (ty_ne h) rfl
theorem WB.laid (hd : Whole w gd tw cs) (hr : OwnG tl 3 cL w B row N) (hB : B ≤ w.heap.size) (hg : B ≤ gd) (ht : TurnS w w' (RowS gd row)) : WB tw tl B w w' :=
  ⟨ht.below hB (rowS_above hr hg), fun k o ho hn => by
    have hk := (Array.getElem?_eq_some_iff.1 ho).1
    rw [ht.block k hk ?_]
    · exact ho
    · rintro (e | e)
      · subst e
        have hx := Option.some.inj (ho.symm.trans hd)
        exact hn ⟨_, _, .inl hx⟩
      · obtain ⟨cur, hc⟩ := OwnG.shapeT hr e
        have hx := Option.some.inj (ho.symm.trans hc)
        exact hn ⟨_, _, .inr hx⟩⟩
end
theorem infoP : ∃ i, Try.prog.info? 34 = some i ∧ i.zero = some (.agg #[.int .i64 0, .int .i64 0, sV []]) ∧ i.size = 3 ∧ i.bytes = 32 := by
  have h : (Try.prog.info? 34).map (fun i => (i.zero, i.size, i.bytes)) = some (some (.agg #[.int .i64 0, .int .i64 0, sV []]), 3, 32) := by kernel_rfl
  rw [Option.map_eq_some_iff] at h
  obtain ⟨i, hi, he⟩ := h
  simp only [Prod.mk.injEq] at he
  exact ⟨i, hi, he.1, he.2.1, he.2.2⟩
theorem infoP3 : (Try.prog.info? 34).map (·.size) = some 3 := by kernel_rfl
theorem infoR : ∃ i, Try.prog.info? 36 = some i ∧ i.zero = some (.agg #[.int .i64 0, .int .i64 0, sV []]) ∧ i.size = 3 ∧ i.bytes = 32 := by
  have h : (Try.prog.info? 36).map (fun i => (i.zero, i.size, i.bytes)) = some (some (.agg #[.int .i64 0, .int .i64 0, sV []]), 3, 32) := by kernel_rfl
  rw [Option.map_eq_some_iff] at h
  obtain ⟨i, hi, he⟩ := h
  simp only [Prod.mk.injEq] at he
  exact ⟨i, hi, he.1, he.2.1, he.2.2⟩
theorem infoR3 : (Try.prog.info? 36).map (·.size) = some 3 := by kernel_rfl
theorem two_letter {fn : Func} {p q : Tmp} {tl : TypeId} {fs} (h : fn.results = #[.cell p tl, .tmp q]) {tmps : Array Value} {w : World} {g : Nat} {ty : TypeId} {e : Lt} {v : Value}
    (hp : tmps[p]?.getD undef = .pointer (some ⟨g, 0, none⟩)) (hq : tmps[q]?.getD undef = v) (hw : Whole w g ty (cL e).toArray) (hu : Try.prog.underlying tl = some (.struct fs)) (hi : (Try.prog.info? tl).map (·.size) = some 3) : (results fn tmps).run Try.prog w = .ok (.tuple #[e.val, v]) w := by
  simp [results, h, hp, hq, asAddr, loaded hw hu rfl hi, cL]
def atE (W : Wn) (i : Int) : Int := if 0 ≤ i ∧ i < W.L.length then 0 else 1
def atV (W : Wn) (i : Int) : Lt := if 0 ≤ i then (W.L[i.toNat]?).getD ⟨0, 0, []⟩ else ⟨0, 0, []⟩
def layE (W : Wn) : Int := if 96 ≤ W.L.length then 2 else 0
def layV (W : Wn) (l : Lt) : Wn := if 96 ≤ W.L.length then W else { W with L := W.L ++ [l] }
end Go.Proofs.Ytbomlapmoiamgaa.wan
