/-
  The contracts of path.hasDepths, path.Check and watershedref05.Check.
-/
import Derived.Test.YtilkdpobkcocoaaMk
import Derived.Test.YtilkdpobkcocoaaExc
namespace Go.Proofs.Ytilkdpobkcocoaa.path
open Go.ChangeShapes Go.WideShapes Go.ChangeAt Go.RowKit
open Go.Proofs.Ytilkdpobkcocoaa.tm Go.Proofs.Ytilkdpobkcocoaa.opened Go.Proofs.Ytilkdpobkcocoaa.block Go.Proofs.Ytilkdpobkcocoaa.stamp Go.Proofs.Ytilkdpobkcocoaa.pa

theorem chkR_dep (p : Pa) (_i : p.In) (h : ¬ depP p) (w : World) : Calls Try.prog 37 #[.agg #[.int .i64 p.f, .int .i64 p.k, .int .u32 p.p0, .int .u32 p.p1, .int .u32 p.p2, .int .u32 p.p3, .int .i64 p.u, .int .u32 p.l0, .int .u32 p.l1, .int .u32 p.l2]] w fun e w' => e = .returned (.int .i64 10) ∧ Below w.heap.size w w' := by
  rcases Int.lt_or_le p.f 0 with h0 | h0
  · clear h
    go_enter Try.func37, Try.ntmps37
    go_wp2
    go_ret
    exact ⟨rfl, fresh1 _ _⟩
  · rcases Int.lt_or_le 3 p.f with h1 | h1
    · clear h
      go_enter Try.func37, Try.ntmps37
      go_wp2
      go_ret
      exact ⟨rfl, fresh1 _ _⟩
    · rcases Int.lt_or_le p.k 0 with h2 | h2
      · clear h
        go_enter Try.func37, Try.ntmps37
        go_wp2
        go_ret
        exact ⟨rfl, fresh1 _ _⟩
      · rcases Int.lt_or_le p.f p.k with h3 | h3
        · clear h
          go_enter Try.func37, Try.ntmps37
          go_wp2
          go_ret
          exact ⟨rfl, fresh1 _ _⟩
        · rcases Int.lt_or_le p.u 0 with h4 | h4
          · clear h
            go_enter Try.func37, Try.ntmps37
            go_wp2
            go_ret
            exact ⟨rfl, fresh1 _ _⟩
          · rcases Int.lt_or_le (3 - p.k) p.u with h5 | h5
            · clear h
              go_enter Try.func37, Try.ntmps37
              go_wp2
              go_ret
              exact ⟨rfl, fresh1 _ _⟩
            · exact (h (by unfold depP; omega)).elim
theorem dep_no (p : Pa) (_i : p.In) (h : ¬ depP p) (w : World) : Calls Try.prog 45 #[.agg #[.int .i64 p.f, .int .i64 p.k, .int .u32 p.p0, .int .u32 p.p1, .int .u32 p.p2, .int .u32 p.p3, .int .i64 p.u, .int .u32 p.l0, .int .u32 p.l1, .int .u32 p.l2]] w fun e w' => e = .returned (.bool false) ∧ Below w.heap.size w w' := by
  rcases Int.lt_or_le p.f 0 with h0 | h0
  · clear h
    go_enter Try.func45, Try.ntmps45
    go_wp2_with (go_at_call 47; refine (depth_no _ (by omega) _).mono ?_; rintro e w' ⟨rfl, rfl⟩)
    go_ret
    exact ⟨rfl, fresh1 _ _⟩
  · rcases Int.lt_or_le 3 p.f with h1 | h1
    · clear h
      go_enter Try.func45, Try.ntmps45
      go_wp2_with (go_at_call 47; refine (depth_no _ (by omega) _).mono ?_; rintro e w' ⟨rfl, rfl⟩)
      go_ret
      exact ⟨rfl, fresh1 _ _⟩
    · rcases Int.lt_or_le p.k 0 with h2 | h2
      · clear h
        have e : decide (0 ≤ p.k) = false := by simp; omega
        go_enter Try.func45, Try.ntmps45
        go_wp2_with (go_at_call 47; refine (depth_yes _ (by omega) (by omega) _).mono ?_; rintro e w' ⟨rfl, rfl⟩)
        go_ret
        exact ⟨rfl, fresh1 _ _⟩
      · rcases Int.lt_or_le p.f p.k with h3 | h3
        · clear h
          have e : decide (p.k ≤ p.f) = false := by simp; omega
          go_enter Try.func45, Try.ntmps45
          go_wp2_with (go_at_call 47; refine (depth_yes _ (by omega) (by omega) _).mono ?_; rintro e w' ⟨rfl, rfl⟩)
          go_ret
          exact ⟨rfl, fresh1 _ _⟩
        · rcases Int.lt_or_le p.u 0 with h4 | h4
          · clear h
            have e : decide (0 ≤ p.u) = false := by simp; omega
            go_enter Try.func45, Try.ntmps45
            go_wp2_with (go_at_call 47; refine (depth_yes _ (by omega) (by omega) _).mono ?_; rintro e w' ⟨rfl, rfl⟩)
            go_ret
            exact ⟨rfl, fresh1 _ _⟩
          · rcases Int.lt_or_le (3 - p.k) p.u with h5 | h5
            · clear h
              have e : decide (p.u ≤ 3 - p.k) = false := by simp; omega
              go_enter Try.func45, Try.ntmps45
              go_wp2_with (go_at_call 47; refine (depth_yes _ (by omega) (by omega) _).mono ?_; rintro e w' ⟨rfl, rfl⟩)
              go_ret
              exact ⟨rfl, fresh1 _ _⟩
            · exact (h (by unfold depP; omega)).elim
theorem dep_yes (p : Pa) (_i : p.In) (h : depP p) (w : World) : Calls Try.prog 45 #[.agg #[.int .i64 p.f, .int .i64 p.k, .int .u32 p.p0, .int .u32 p.p1, .int .u32 p.p2, .int .u32 p.p3, .int .i64 p.u, .int .u32 p.l0, .int .u32 p.l1, .int .u32 p.l2]] w fun e w' => e = .returned (.bool true) ∧ Below w.heap.size w w' := by
  obtain ⟨h1, h2, h3, h4, h5, h6⟩ := h
  have e1 : decide (p.u ≤ 3 - p.k) = true := by simp; omega
  go_enter Try.func45, Try.ntmps45
  go_wp2_with (go_at_call 47; refine (depth_yes _ (by omega) (by omega) _).mono ?_; rintro e w' ⟨rfl, rfl⟩)
  go_ret
  exact ⟨rfl, fresh1 _ _⟩
set_option maxHeartbeats 2000000 in
theorem chkR_rng (p : Pa) (_i : p.In) (d : depP p) (h : ¬ (plusP p ∧ loopP p)) (w : World) : Calls Try.prog 37 #[.agg #[.int .i64 p.f, .int .i64 p.k, .int .u32 p.p0, .int .u32 p.p1, .int .u32 p.p2, .int .u32 p.p3, .int .i64 p.u, .int .u32 p.l0, .int .u32 p.l1, .int .u32 p.l2]] w fun e w' => e = .returned (.int .i64 1) ∧ Below w.heap.size w w' := by
  obtain ⟨d1, d2, d3, d4, d5, d6⟩ := d
  rcases Int.lt_or_le 1048576 p.p0 with h0 | h0
  · clear h
    go_enter Try.func37, Try.ntmps37
    go_wp2
    refine wp_loop_rounds 5 ?_
    rw [rounds_succ]
    go_wp2
    go_ret
    exact ⟨rfl, fresh1 _ _⟩
  · rcases Int.lt_or_le 1048576 p.l0 with h1 | h1
    · clear h
      go_enter Try.func37, Try.ntmps37
      go_wp2
      refine wp_loop_rounds 5 ?_
      rw [rounds_succ]
      go_wp2
      go_ret
      exact ⟨rfl, fresh1 _ _⟩
    · rcases Int.lt_or_le 1048576 p.p1 with h2 | h2
      · clear h
        go_enter Try.func37, Try.ntmps37
        go_wp2
        refine wp_loop_rounds 5 ?_
        rw [rounds_succ]
        go_wp2
        rw [rounds_succ]
        go_wp2
        go_ret
        exact ⟨rfl, fresh1 _ _⟩
      · rcases Int.lt_or_le 1048576 p.l1 with h3 | h3
        · clear h
          go_enter Try.func37, Try.ntmps37
          go_wp2
          refine wp_loop_rounds 5 ?_
          rw [rounds_succ]
          go_wp2
          rw [rounds_succ]
          go_wp2
          go_ret
          exact ⟨rfl, fresh1 _ _⟩
        · rcases Int.lt_or_le 1048576 p.p2 with h4 | h4
          · clear h
            go_enter Try.func37, Try.ntmps37
            go_wp2
            refine wp_loop_rounds 5 ?_
            rw [rounds_succ]
            go_wp2
            rw [rounds_succ]
            go_wp2
            rw [rounds_succ]
            go_wp2
            go_ret
            exact ⟨rfl, fresh1 _ _⟩
          · rcases Int.lt_or_le 1048576 p.l2 with h5 | h5
            · clear h
              go_enter Try.func37, Try.ntmps37
              go_wp2
              refine wp_loop_rounds 5 ?_
              rw [rounds_succ]
              go_wp2
              rw [rounds_succ]
              go_wp2
              rw [rounds_succ]
              go_wp2
              go_ret
              exact ⟨rfl, fresh1 _ _⟩
            · rcases Int.lt_or_le 1048576 p.p3 with h6 | h6
              · clear h
                go_enter Try.func37, Try.ntmps37
                go_wp2
                refine wp_loop_rounds 5 ?_
                rw [rounds_succ]
                go_wp2
                rw [rounds_succ]
                go_wp2
                rw [rounds_succ]
                go_wp2
                rw [rounds_succ]
                go_wp2
                go_ret
                exact ⟨rfl, fresh1 _ _⟩
              · exact (h (by unfold plusP loopP; omega)).elim
end Go.Proofs.Ytilkdpobkcocoaa.path
