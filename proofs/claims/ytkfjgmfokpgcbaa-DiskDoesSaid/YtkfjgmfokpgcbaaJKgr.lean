/-
  The contract of Great.
-/
import Derived.Test.YtkfjgmfokpgcbaaJKop
namespace Go.Proofs.Ytkfjgmfokpgcbaa.disk
open Go.ChangeShapes Go.WideShapes Go.ChangeAt Go.RowKit Go.Maps Go.WideMaps
open Go.Proofs.Ytkfjgmfokpgcbaa.words Go.Proofs.Ytkfjgmfokpgcbaa.opened Go.Proofs.Ytkfjgmfokpgcbaa.block

def greatB (o : Oa) : Bool := decide (1000 < o.n.length) || (decide (3000 < o.s.length) || decide (100 < o.keep.length))
abbrev Oa.val (o : Oa) : Value := .agg #[.int .i64 o.k, sV o.n, sV o.s, .int .i64 o.m, .slice o.K o.keep.length o.kc]
theorem great_any (o : Oa) (h : o.In) (w : World) : Calls Try.prog 8 #[o.val] w fun e w' => e = .returned (.bool (greatB o)) ∧ Below w.heap.size w w' := by
  obtain ⟨-, -, hn, hs, hk, -⟩ := h
  unfold greatB
  have HB := Lib.hid (fresh1' w (.cells #[.int .i64 o.k, sV o.n, sV o.s, .int .i64 o.m, .slice o.K o.keep.length o.kc] 31))
  by_cases h1 : 1000 < o.n.length
  · rw [decide_eq_true h1, Bool.true_or]
    have h1' : (1000 : Int) < o.n.length := by omega
    clear h1
    go_enter Try.func8, Try.ntmps8
    go_wp2_with fail
    go_ret
    exact ⟨rfl, HB.out⟩
  · rw [decide_eq_false h1, Bool.false_or]
    have h1' : ¬ (1000 : Int) < o.n.length := by omega
    by_cases h2 : 3000 < o.s.length
    · rw [decide_eq_true h2, Bool.true_or]
      have h2' : (3000 : Int) < o.s.length := by omega
      clear h1 h2
      go_enter Try.func8, Try.ntmps8
      go_wp2_with fail
      go_ret
      exact ⟨rfl, HB.out⟩
    · rw [decide_eq_false h2, Bool.false_or]
      have h2' : ¬ (3000 : Int) < o.s.length := by omega
      by_cases h3 : 100 < o.keep.length
      · rw [decide_eq_true h3]
        have h3' : (100 : Int) < o.keep.length := by omega
        clear h1 h2 h3
        go_enter Try.func8, Try.ntmps8
        go_wp2_with fail
        go_ret
        exact ⟨rfl, HB.out⟩
      · rw [decide_eq_false h3]
        have h3' : ¬ (100 : Int) < o.keep.length := by omega
        clear h1 h2 h3
        go_enter Try.func8, Try.ntmps8
        go_wp2_with fail
        go_ret
        exact ⟨rfl, HB.out⟩
theorem great_no {o : Oa} (h : greatB o = false) : o.n.length ≤ 1000 ∧ o.s.length ≤ 3000 ∧ o.keep.length ≤ 100 := by
  unfold greatB at h
  simp only [Bool.or_eq_false_iff, decide_eq_false_iff_not] at h
  omega
end Go.Proofs.Ytkfjgmfokpgcbaa.disk
