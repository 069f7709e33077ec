/-
  The document's sender: epoch, NewSender, Next, Tick.
-/
import Derived.Test.YtbomlapmoiamgaaSr0
set_option linter.unusedSimpArgs false
set_option linter.unusedVariables false
namespace Go.Proofs.Ytbomlapmoiamgaa.hop
open Go.ChangeShapes Go.WideShapes Go.ChangeAt Go.RowKit
open Go.Proofs.Ytbomlapmoiamgaa.opened Go.Proofs.Ytbomlapmoiamgaa.block Go.Proofs.Ytbomlapmoiamgaa.words Go.Proofs.Ytbomlapmoiamgaa.region
open Go.Proofs.Ytbomlapmoiamgaa.wan (WB WObj not_wobj)
section
variable {w w' : World} {B g : Nat} {S : Sn} {v : Value}
theorem epochR_any (n : Int) : Calls Try.prog 49 #[.int .i64 n] w fun e w' => e = .returned (.bool (decide (1 ≤ n ∧ n ≤ 1073741824))) ∧ Below w.heap.size w w' := by
  by_cases h1 : 1 ≤ n
  · by_cases h2 : n ≤ 1073741824
    · rw [decide_eq_true ⟨h1, h2⟩]
      go_enter Try.func49, Try.ntmps49
      go_wp2_with fail
      go_ret
      exact ⟨rfl, Below.refl _ _⟩
    · rw [decide_eq_false (fun h => h2 h.2)]
      go_enter Try.func49, Try.ntmps49
      go_wp2_with fail
      go_ret
      exact ⟨rfl, Below.refl _ _⟩
  · rw [decide_eq_false (fun h => h1 h.1)]
    go_enter Try.func49, Try.ntmps49
    go_wp2_with fail
    go_ret
    exact ⟨rfl, Below.refl _ _⟩
theorem newRS_good {e a wd wt : Int} (h : NewOk e a wd wt) : Calls Try.prog 26 #[.int .i64 e, .int .i64 a, .int .i64 wd, .int .i64 wt] w fun x w' => ∃ g, x = .returned (.tuple #[.pointer (some ⟨g, 0, none⟩), .int .i64 0]) ∧ Below w.heap.size w w' ∧ RnE w.heap.size w' g (newV e a wd wt) (.slice none 0 0) := by
  have HE := Lib.hid (fun (w1 : World) => epochR_any (w := w1) e)
  obtain ⟨⟨h1, h2⟩, ⟨h3, h4⟩, ⟨h5, h6⟩, ⟨h7, h8⟩⟩ := h
  rw [decide_eq_true ⟨h1, h2⟩] at HE
  clear h1 h2
  go_enter Try.func26, Try.ntmps26
  go_wp2_with (go_at_call 49; (with_reducible refine (HE.out w).mono ?_); rintro x w1 ⟨rfl, b1⟩; have B1 := Lib.hid b1; clear b1)
  go_ret2
  exact ⟨_, rfl, then_below B1.out (fresh1 w1 _), Whole.fresh w1 75 (rnC (newV e a wd wt) (.slice none 0 0)), rowO_nil _ _, B1.out.size⟩
theorem newRS_bad {e a wd wt : Int} (h : ¬ NewOk e a wd wt) : Calls Try.prog 26 #[.int .i64 e, .int .i64 a, .int .i64 wd, .int .i64 wt] w fun x w' => x = .returned (.tuple #[.pointer none, .int .i64 1]) ∧ Below w.heap.size w w' := by
  have HE := Lib.hid (fun (w1 : World) => epochR_any (w := w1) e)
  unfold NewOk at h
  by_cases h1 : 1 ≤ e ∧ e ≤ 1073741824
  · rw [decide_eq_true h1] at HE
    by_cases h2 : 0 ≤ a
    · by_cases h3 : a ≤ 1099511627776
      · by_cases h4 : 1 ≤ wd
        · by_cases h5 : wd ≤ 16
          · by_cases h6 : 1 ≤ wt
            · have h7 : 100 < wt := Classical.byContradiction fun h8 => h ⟨h1, ⟨h2, h3⟩, ⟨h4, h5⟩, h6, by omega⟩
              clear h h1
              go_enter Try.func26, Try.ntmps26
              go_wp2_with (go_at_call 49; (with_reducible refine (HE.out w).mono ?_); rintro x w1 ⟨rfl, b1⟩; have B1 := Lib.hid b1; clear b1)
              go_ret2
              exact ⟨rfl, B1.out⟩
            · clear h h1
              go_enter Try.func26, Try.ntmps26
              go_wp2_with (go_at_call 49; (with_reducible refine (HE.out w).mono ?_); rintro x w1 ⟨rfl, b1⟩; have B1 := Lib.hid b1; clear b1)
              go_ret2
              exact ⟨rfl, B1.out⟩
          · clear h h1
            go_enter Try.func26, Try.ntmps26
            go_wp2_with (go_at_call 49; (with_reducible refine (HE.out w).mono ?_); rintro x w1 ⟨rfl, b1⟩; have B1 := Lib.hid b1; clear b1)
            go_ret2
            exact ⟨rfl, B1.out⟩
        · clear h h1
          go_enter Try.func26, Try.ntmps26
          go_wp2_with (go_at_call 49; (with_reducible refine (HE.out w).mono ?_); rintro x w1 ⟨rfl, b1⟩; have B1 := Lib.hid b1; clear b1)
          go_ret2
          exact ⟨rfl, B1.out⟩
      · clear h h1
        go_enter Try.func26, Try.ntmps26
        go_wp2_with (go_at_call 49; (with_reducible refine (HE.out w).mono ?_); rintro x w1 ⟨rfl, b1⟩; have B1 := Lib.hid b1; clear b1)
        go_ret2
        exact ⟨rfl, B1.out⟩
    · clear h h1
      go_enter Try.func26, Try.ntmps26
      go_wp2_with (go_at_call 49; (with_reducible refine (HE.out w).mono ?_); rintro x w1 ⟨rfl, b1⟩; have B1 := Lib.hid b1; clear b1)
      go_ret2
      exact ⟨rfl, B1.out⟩
  · rw [decide_eq_false h1] at HE
    clear h h1
    go_enter Try.func26, Try.ntmps26
    go_wp2_with (go_at_call 49; (with_reducible refine (HE.out w).mono ?_); rintro x w1 ⟨rfl, b1⟩; have B1 := Lib.hid b1; clear b1)
    go_ret2
    exact ⟨rfl, B1.out⟩
set_option maxRecDepth 100000 in
theorem nextR_any (h : RnE B w g S v) (G : GoodS S) : Calls Try.prog 38 #[.pointer (some ⟨g, 0, none⟩)] w fun e w' => e = .returned (.int .i64 (nextV S)) ∧ Below w.heap.size w w' := by
  obtain ⟨A, c, hv⟩ := h.row.shape
  have c1 : w.cell? ⟨g, 1, none⟩ = some (.int .i64 S.a) := h.cell.read 1
  have c3 : w.cell? ⟨g, 3, none⟩ = some (.slice A S.L.length c) := by rw [← hv]; exact h.cell.read 3
  have ha0 := G.a0
  have ha1 : S.a ≤ 1099511627776 := by have := G.m; omega
  have hl : S.L.length ≤ 64 := G.l
  unfold nextV
  generalize S.L.length = n at c3 hl ⊢
  generalize S.a = a at c1 ha0 ha1 ⊢
  clear h G hv
  go_enter Try.func38, Try.ntmps38
  go_upto_region 1 with fail
  go_quiet (fail)
  go_wp2_with fail
  go_ret
  exact ⟨rfl, below_more w nq⟩
theorem tickR_any (h : RnE B w g S v) (G : GoodS S) : Calls Try.prog 32 #[.pointer (some ⟨g, 0, none⟩)] w fun e w' => e = .returned (.tuple #[]) ∧ RnE B w' g (tickV S) v ∧ WR B w w' := by
  have c2 : w.cell? ⟨g, 2, none⟩ = some (.int .i64 S.s) := h.cell.read 2
  have c1 : w.cell? ⟨g, 1, none⟩ = some (.int .i64 S.a) := h.cell.read 1
  have H := Lib.hid h
  have HB := Lib.hid h.le
  unfold tickV
  by_cases h0 : S.s = S.a
  · rw [if_pos h0]
    have h1 : (S.s == S.a) = true := by simpa using h0
    clear h G h0
    go_enter Try.func32, Try.ntmps32
    go_upto_region 0 with fail
    go_quiet (fail)
    go_wp2_with fail
    refine bodyPost_ret (results_none rfl _ _ _) rfl ?_
    exact ⟨rfl, H.out.below (below_more w nq), WB.of (below_more w nq) HB.out⟩
  · rw [if_neg h0]
    obtain ⟨tv, htv⟩ : ∃ tv : Sn, tv = (if S.wt ≤ S.k + 1 then { S with s := S.a, k := 0 } else { S with k := S.k + 1 }) := ⟨_, rfl⟩
    rw [← htv]
    have HTV := Lib.hid htv
    clear htv
    have h1 : (S.s == S.a) = false := by simpa using h0
    have hk0 := G.k0
    have hk1 : S.k < 100 := by have := G.k1; have := G.t1; omega
    clear h G h0
    go_enter Try.func32, Try.ntmps32
    go_upto_region 0 with fail
    go_quiet (fail)
    have H1 := Lib.hid (H.out.below (below_more w nq))
    have W1 : Hid (WR B w (w.drewN nq)) := Lib.hid (WB.of (below_more w nq) HB.out)
    clear c1 c2
    generalize w.drewN nq = w1 at H1 W1 ⊢
    have c4 : w1.cell? ⟨g, 4, none⟩ = some (.int .i64 S.k) := H1.out.cell.read 4
    have f4 : w1.frozen? ⟨g, 4, none⟩ = false := H1.out.cell.soft 4
    go_upto_region 2 with fail
    change Code.wp _ _ _ _ (w1.setCell ⟨g, 4, none⟩ (.int .i64 (S.k + 1)))
    have hp := H1.out.put 4 (.int .i64 (S.k + 1)) (V := { S with k := S.k + 1 }) rfl rfl
    have H2 := Lib.hid hp.1
    have W2 := Lib.hid (W1.out.trans hp.2)
    clear hp c4 f4 H1 W1
    generalize w1.setCell ⟨g, 4, none⟩ (.int .i64 (S.k + 1)) = w2 at H2 W2 ⊢
    have c4 : w2.cell? ⟨g, 4, none⟩ = some (.int .i64 (S.k + 1)) := H2.out.cell.read 4
    have c6 : w2.cell? ⟨g, 6, none⟩ = some (.int .i64 S.wt) := H2.out.cell.read 6
    go_quiet (fail)
    have H3 := Lib.hid (H2.out.below (below_more w2 nq))
    have W3 : Hid (WR B w (w2.drewN nq)) := Lib.hid (W2.out.trans (WB.of (below_more w2 nq) H2.out.le))
    clear c4 c6 H2 W2
    generalize w2.drewN nq = w3 at H3 W3 ⊢
    by_cases h2 : S.wt ≤ S.k + 1
    · have htv := HTV.out
      rw [if_pos h2] at htv
      subst htv
      clear HTV
      have c1 : w3.cell? ⟨g, 1, none⟩ = some (.int .i64 S.a) := H3.out.cell.read 1
      have f2 : w3.frozen? ⟨g, 2, none⟩ = false := H3.out.cell.soft 2
      have c2 : w3.cell? ⟨g, 2, none⟩ = some (.int .i64 S.s) := H3.out.cell.read 2
      go_upto_region 4 with fail
      change Code.wp _ _ _ _ (w3.setCell ⟨g, 2, none⟩ (.int .i64 S.a))
      have hp := H3.out.put 2 (.int .i64 S.a) (V := { S with k := S.k + 1, s := S.a }) rfl rfl
      have H4 := Lib.hid hp.1
      have W4 := Lib.hid (W3.out.trans hp.2)
      clear hp c1 c2 f2 H3 W3
      generalize w3.setCell ⟨g, 2, none⟩ (.int .i64 S.a) = w4 at H4 W4 ⊢
      have c4 : w4.cell? ⟨g, 4, none⟩ = some (.int .i64 (S.k + 1)) := H4.out.cell.read 4
      have f4 : w4.frozen? ⟨g, 4, none⟩ = false := H4.out.cell.soft 4
      go_wp2_with fail
      go_end0
      have hq := H4.out.put 4 (.int .i64 0) (V := { S with k := 0, s := S.a }) rfl rfl
      exact ⟨rfl, hq.1, W4.out.trans hq.2⟩
    · have htv := HTV.out
      rw [if_neg h2] at htv
      subst htv
      clear HTV
      go_wp2_with fail
      go_end0
      exact ⟨rfl, H3.out, W3.out⟩
end
end Go.Proofs.Ytbomlapmoiamgaa.hop
