/-
  The contracts of path.hasDepths, path.Check and watershedref05.Check.
  The contract of path.Check.
-/
import Derived.Test.YtpblpjopinllcaaGreatDoorJKn
import Derived.Test.YtpblpjopinllcaaGreatDoorJExc
import Derived.Test.YtpblpjopinllcaaGreatDoorJPa
import Derived.Deep.QuietTactic
import Derived.BigQuiet
namespace Go.Proofs.YtpblpjopinllcaaGreatDoor.path
open Go.ChangeShapes Go.WideShapes Go.ChangeAt Go.RowKit
open Go.Proofs.YtpblpjopinllcaaGreatDoor.tm Go.Proofs.YtpblpjopinllcaaGreatDoor.opened Go.Proofs.YtpblpjopinllcaaGreatDoor.block Go.Proofs.YtpblpjopinllcaaGreatDoor.stamp Go.Proofs.YtpblpjopinllcaaGreatDoor.pa

theorem chkR_dep (p : Pa) (_i : p.In) (h : ¬ depP p) (w : World) : Calls Tryz.prog 178 #[.agg #[.int .i64 p.f, .int .i64 p.k, .int .u32 p.p0, .int .u32 p.p1, .int .u32 p.p2, .int .u32 p.p3, .int .i64 p.u, .int .u32 p.l0, .int .u32 p.l1, .int .u32 p.l2]] w fun e w' => e = .returned (.int .i64 10) ∧ Below w.heap.size w w' := by
  rcases Int.lt_or_le p.f 0 with h0 | h0
  · clear h
    go_enter Tryz.func178, Tryz.ntmps178
    go_wp2
    go_ret
    exact ⟨rfl, fresh1 _ _⟩
  · rcases Int.lt_or_le 3 p.f with h1 | h1
    · clear h
      go_enter Tryz.func178, Tryz.ntmps178
      go_wp2
      go_ret
      exact ⟨rfl, fresh1 _ _⟩
    · rcases Int.lt_or_le p.k 0 with h2 | h2
      · clear h
        go_enter Tryz.func178, Tryz.ntmps178
        go_wp2
        go_ret
        exact ⟨rfl, fresh1 _ _⟩
      · rcases Int.lt_or_le p.f p.k with h3 | h3
        · clear h
          go_enter Tryz.func178, Tryz.ntmps178
          go_wp2
          go_ret
          exact ⟨rfl, fresh1 _ _⟩
        · rcases Int.lt_or_le p.u 0 with h4 | h4
          · clear h
            go_enter Tryz.func178, Tryz.ntmps178
            go_wp2
            go_ret
            exact ⟨rfl, fresh1 _ _⟩
          · rcases Int.lt_or_le (3 - p.k) p.u with h5 | h5
            · clear h
              go_enter Tryz.func178, Tryz.ntmps178
              go_wp2
              go_ret
              exact ⟨rfl, fresh1 _ _⟩
            · exact (h (by unfold depP; omega)).elim
theorem dep_no (p : Pa) (_i : p.In) (h : ¬ depP p) (w : World) : Calls Tryz.prog 101 #[.agg #[.int .i64 p.f, .int .i64 p.k, .int .u32 p.p0, .int .u32 p.p1, .int .u32 p.p2, .int .u32 p.p3, .int .i64 p.u, .int .u32 p.l0, .int .u32 p.l1, .int .u32 p.l2]] w fun e w' => e = .returned (.bool false) ∧ Below w.heap.size w w' := by
  rcases Int.lt_or_le p.f 0 with h0 | h0
  · clear h
    go_enter Tryz.func101, Tryz.ntmps101
    go_wp2_with (go_at_call 165; refine (depth_no _ (by omega) _).mono ?_; rintro e w' ⟨rfl, rfl⟩)
    go_ret
    exact ⟨rfl, fresh1 _ _⟩
  · rcases Int.lt_or_le 3 p.f with h1 | h1
    · clear h
      go_enter Tryz.func101, Tryz.ntmps101
      go_wp2_with (go_at_call 165; refine (depth_no _ (by omega) _).mono ?_; rintro e w' ⟨rfl, rfl⟩)
      go_ret
      exact ⟨rfl, fresh1 _ _⟩
    · rcases Int.lt_or_le p.k 0 with h2 | h2
      · clear h
        have e : decide (0 ≤ p.k) = false := by simp; omega
        go_enter Tryz.func101, Tryz.ntmps101
        go_wp2_with (go_at_call 165; refine (depth_yes _ (by omega) (by omega) _).mono ?_; rintro e w' ⟨rfl, rfl⟩)
        go_ret
        exact ⟨rfl, fresh1 _ _⟩
      · rcases Int.lt_or_le p.f p.k with h3 | h3
        · clear h
          have e : decide (p.k ≤ p.f) = false := by simp; omega
          go_enter Tryz.func101, Tryz.ntmps101
          go_wp2_with (go_at_call 165; refine (depth_yes _ (by omega) (by omega) _).mono ?_; rintro e w' ⟨rfl, rfl⟩)
          go_ret
          exact ⟨rfl, fresh1 _ _⟩
        · rcases Int.lt_or_le p.u 0 with h4 | h4
          · clear h
            have e : decide (0 ≤ p.u) = false := by simp; omega
            go_enter Tryz.func101, Tryz.ntmps101
            go_wp2_with (go_at_call 165; refine (depth_yes _ (by omega) (by omega) _).mono ?_; rintro e w' ⟨rfl, rfl⟩)
            go_ret
            exact ⟨rfl, fresh1 _ _⟩
          · rcases Int.lt_or_le (3 - p.k) p.u with h5 | h5
            · clear h
              have e : decide (p.u ≤ 3 - p.k) = false := by simp; omega
              go_enter Tryz.func101, Tryz.ntmps101
              go_wp2_with (go_at_call 165; refine (depth_yes _ (by omega) (by omega) _).mono ?_; rintro e w' ⟨rfl, rfl⟩)
              go_ret
              exact ⟨rfl, fresh1 _ _⟩
            · exact (h (by unfold depP; omega)).elim
theorem dep_yes (p : Pa) (_i : p.In) (h : depP p) (w : World) : Calls Tryz.prog 101 #[.agg #[.int .i64 p.f, .int .i64 p.k, .int .u32 p.p0, .int .u32 p.p1, .int .u32 p.p2, .int .u32 p.p3, .int .i64 p.u, .int .u32 p.l0, .int .u32 p.l1, .int .u32 p.l2]] w fun e w' => e = .returned (.bool true) ∧ Below w.heap.size w w' := by
  obtain ⟨h1, h2, h3, h4, h5, h6⟩ := h
  have e1 : decide (p.u ≤ 3 - p.k) = true := by simp; omega
  go_enter Tryz.func101, Tryz.ntmps101
  go_wp2_with (go_at_call 165; refine (depth_yes _ (by omega) (by omega) _).mono ?_; rintro e w' ⟨rfl, rfl⟩)
  go_ret
  exact ⟨rfl, fresh1 _ _⟩
set_option maxHeartbeats 2000000 in
theorem chkR_rng (p : Pa) (_i : p.In) (d : depP p) (h : ¬ (plusP p ∧ loopP p)) (w : World) : Calls Tryz.prog 178 #[.agg #[.int .i64 p.f, .int .i64 p.k, .int .u32 p.p0, .int .u32 p.p1, .int .u32 p.p2, .int .u32 p.p3, .int .i64 p.u, .int .u32 p.l0, .int .u32 p.l1, .int .u32 p.l2]] w fun e w' => e = .returned (.int .i64 1) ∧ Below w.heap.size w w' := by
  obtain ⟨d1, d2, d3, d4, d5, d6⟩ := d
  rcases Int.lt_or_le 1048576 p.p0 with h0 | h0
  · clear h
    go_enter Tryz.func178, Tryz.ntmps178
    go_wp2
    refine wp_loop_rounds 5 ?_
    rw [rounds_succ]
    go_wp2
    go_ret
    exact ⟨rfl, fresh1 _ _⟩
  · rcases Int.lt_or_le 1048576 p.l0 with h1 | h1
    · clear h
      go_enter Tryz.func178, Tryz.ntmps178
      go_wp2
      refine wp_loop_rounds 5 ?_
      rw [rounds_succ]
      go_wp2
      go_ret
      exact ⟨rfl, fresh1 _ _⟩
    · rcases Int.lt_or_le 1048576 p.p1 with h2 | h2
      · clear h
        go_enter Tryz.func178, Tryz.ntmps178
        go_wp2
        refine wp_loop_rounds 5 ?_
        rw [rounds_succ]
        go_wp2
        rw [rounds_succ]
        go_wp2
        go_ret
        exact ⟨rfl, fresh1 _ _⟩
      · rcases Int.lt_or_le 1048576 p.l1 with h3 | h3
        · clear h
          go_enter Tryz.func178, Tryz.ntmps178
          go_wp2
          refine wp_loop_rounds 5 ?_
          rw [rounds_succ]
          go_wp2
          rw [rounds_succ]
          go_wp2
          go_ret
          exact ⟨rfl, fresh1 _ _⟩
        · rcases Int.lt_or_le 1048576 p.p2 with h4 | h4
          · clear h
            go_enter Tryz.func178, Tryz.ntmps178
            go_wp2
            refine wp_loop_rounds 5 ?_
            rw [rounds_succ]
            go_wp2
            rw [rounds_succ]
            go_wp2
            rw [rounds_succ]
            go_wp2
            go_ret
            exact ⟨rfl, fresh1 _ _⟩
          · rcases Int.lt_or_le 1048576 p.l2 with h5 | h5
            · clear h
              go_enter Tryz.func178, Tryz.ntmps178
              go_wp2
              refine wp_loop_rounds 5 ?_
              rw [rounds_succ]
              go_wp2
              rw [rounds_succ]
              go_wp2
              rw [rounds_succ]
              go_wp2
              go_ret
              exact ⟨rfl, fresh1 _ _⟩
            · rcases Int.lt_or_le 1048576 p.p3 with h6 | h6
              · clear h
                go_enter Tryz.func178, Tryz.ntmps178
                go_wp2
                refine wp_loop_rounds 5 ?_
                rw [rounds_succ]
                go_wp2
                rw [rounds_succ]
                go_wp2
                rw [rounds_succ]
                go_wp2
                rw [rounds_succ]
                go_wp2
                go_ret
                exact ⟨rfl, fresh1 _ _⟩
              · exact (h (by unfold plusP loopP; omega)).elim
end Go.Proofs.YtpblpjopinllcaaGreatDoor.path
namespace Go.Proofs.YtpblpjopinllcaaGreatDoor.path
open Go.ChangeShapes Go.WideShapes Go.ChangeAt Go.RowKit
open Go.Proofs.YtpblpjopinllcaaGreatDoor.tm Go.Proofs.YtpblpjopinllcaaGreatDoor.opened Go.Proofs.YtpblpjopinllcaaGreatDoor.block Go.Proofs.YtpblpjopinllcaaGreatDoor.stamp Go.Proofs.YtpblpjopinllcaaGreatDoor.pa

theorem chk_depth (p : Pa) (i : p.In) (h : ¬ depP p) (w : World) : Calls Tryz.prog 27 #[.agg #[.int .i64 p.f, .int .i64 p.k, .int .u32 p.p0, .int .u32 p.p1, .int .u32 p.p2, .int .u32 p.p3, .int .i64 p.u, .int .u32 p.l0, .int .u32 p.l1, .int .u32 p.l2]] w fun e w' => e = .returned (.int .i64 10) ∧ Below w.heap.size w w' := by
  go_enter Tryz.func27, Tryz.ntmps27
  go_wp2_with (go_at_call 101; refine (dep_no p i h _).mono ?_; rintro e w1 ⟨rfl, b1⟩)
  go_ret
  exact ⟨rfl, over1 b1⟩
theorem chk_plus (p : Pa) (i : p.In) (d : depP p) (h : ¬ plusP p) (w : World) : Calls Tryz.prog 27 #[.agg #[.int .i64 p.f, .int .i64 p.k, .int .u32 p.p0, .int .u32 p.p1, .int .u32 p.p2, .int .u32 p.p3, .int .i64 p.u, .int .u32 p.l0, .int .u32 p.l1, .int .u32 p.l2]] w fun e w' => e = .returned (.int .i64 1) ∧ Below w.heap.size w w' := by
  have E1 := Lib.hid (show excB [p.p0, p.p1, p.p2, p.p3] 1048576 = true by simp [excB]; unfold plusP at h; omega)
  clear h
  go_enter Tryz.func27, Tryz.ntmps27
  go_wp2_with (first
    | (go_at_call 101; refine (dep_yes _ i d _).mono ?_; rintro e w1 ⟨rfl, b1⟩; obtain ⟨hR, hB, hx⟩ := res_of b1; clear b1; generalize hg : w.heap.size = g at hR hB hx ⊢; have HG := Lib.hid hg; clear hg; obtain ⟨hc, hf⟩ := all_of hR)
    | (go_at_call 102; (with_reducible refine (exP2 E1.out hR).mono ?_); rintro e w' ⟨rfl, rfl⟩))
  go_ret
  exact ⟨rfl, by rw [HG.out]; exact hB⟩
theorem chk_loop (p : Pa) (i : p.In) (d : depP p) (h1 : plusP p) (h2 : ¬ loopP p) (w : World) : Calls Tryz.prog 27 #[.agg #[.int .i64 p.f, .int .i64 p.k, .int .u32 p.p0, .int .u32 p.p1, .int .u32 p.p2, .int .u32 p.p3, .int .i64 p.u, .int .u32 p.l0, .int .u32 p.l1, .int .u32 p.l2]] w fun e w' => e = .returned (.int .i64 1) ∧ Below w.heap.size w w' := by
  have E1 := Lib.hid (show excB [p.p0, p.p1, p.p2, p.p3] 1048576 = false by simp [excB]; unfold plusP at h1; omega)
  have E2 := Lib.hid (show excB [p.l0, p.l1, p.l2] 1048576 = true by simp [excB]; unfold loopP at h2; omega)
  clear h1 h2
  go_enter Tryz.func27, Tryz.ntmps27
  go_wp2_with (first
    | (go_at_call 101; refine (dep_yes _ i d _).mono ?_; rintro e w1 ⟨rfl, b1⟩; obtain ⟨hR, hB, hx⟩ := res_of b1; clear b1; generalize hg : w.heap.size = g at hR hB hx ⊢; have HG := Lib.hid hg; clear hg; obtain ⟨hc, hf⟩ := all_of hR)
    | (go_at_call 102; (with_reducible refine (exP2 E1.out hR).mono ?_); rintro e w' ⟨rfl, rfl⟩)
    | (go_at_call 102; (with_reducible refine (exP7 E2.out hR).mono ?_); rintro e w' ⟨rfl, rfl⟩))
  go_ret
  exact ⟨rfl, by rw [HG.out]; exact hB⟩
set_option maxHeartbeats 1000000 in
theorem chk_rest (p : Pa) (i : p.In) (d : depP p) (h1 : plusP p) (h2 : loopP p) (w : World) : Calls Tryz.prog 27 #[.agg #[.int .i64 p.f, .int .i64 p.k, .int .u32 p.p0, .int .u32 p.p1, .int .u32 p.p2, .int .u32 p.p3, .int .i64 p.u, .int .u32 p.l0, .int .u32 p.l1, .int .u32 p.l2]] w fun e w' => e = .returned (.int .i64 (if fldK p ∧ fldU p then 0 else 6)) ∧ Below w.heap.size w w' := by
  have E1 := Lib.hid (show excB [p.p0, p.p1, p.p2, p.p3] 1048576 = false by simp [excB]; unfold plusP at h1; omega)
  have E2 := Lib.hid (show excB [p.l0, p.l1, p.l2] 1048576 = false by simp [excB]; unfold loopP at h2; omega)
  clear h1 h2
  have i1 := i.p10
  have i2 := i.p20
  have i3 := i.p30
  have j1 := i.l00
  have j2 := i.l10
  have j3 := i.l20
  obtain ⟨d1, d2, d3, d4, d5, d6⟩ := id d
  obtain ⟨f, k, p0, p1, p2, p3, u, l0, l1, l2⟩ := p
  dsimp only at d1 d2 d3 d4 d5 d6 E1 E2 i1 i2 i3 j1 j2 j3
  rcases four d3 (by omega) with rfl | rfl | rfl | rfl
  · rcases (show u = 0 ∨ u = 1 ∨ u = 2 ∨ u = 3 by omega) with rfl | rfl | rfl | rfl
    · obtain ⟨v, hv⟩ : ∃ v, excB [p1, p2, p3] 0 = v := ⟨_, rfl⟩
      obtain ⟨x, hx⟩ : ∃ x, excB [l0, l1, l2] 0 = x := ⟨_, rfl⟩
      have hK : fldK ⟨f, 0, p0, p1, p2, p3, 0, l0, l1, l2⟩ ↔ v = false := by rw [← hv]; unfold fldK; dsimp only; simp [excB]; try omega
      have hU : fldU ⟨f, 0, p0, p1, p2, p3, 0, l0, l1, l2⟩ ↔ x = false := by rw [← hx]; unfold fldU; dsimp only; simp [excB]; try omega
      have E3 := Lib.hid hv
      have E4 := Lib.hid hx
      clear hv hx
      have KU : (if fldK ⟨f, 0, p0, p1, p2, p3, 0, l0, l1, l2⟩ ∧ fldU ⟨f, 0, p0, p1, p2, p3, 0, l0, l1, l2⟩ then (0 : Int) else 6) = if v = false ∧ x = false then 0 else 6 := by simp only [hK, hU]
      rw [KU]
      clear KU hK hU
      cases v
      · cases x
        · simp only [and_self, if_true]
          go_enter Tryz.func27, Tryz.ntmps27
          go_wp2_with (first
            | (go_at_call 101; refine (dep_yes _ i d _).mono ?_; rintro e w1 ⟨rfl, b1⟩; obtain ⟨hR, hB, hx⟩ := res_of b1; clear b1; generalize hg : w.heap.size = g at hR hB hx ⊢; have HG := Lib.hid hg; clear hg; obtain ⟨hc, hf⟩ := all_of hR)
            | (go_at_call 102; (with_reducible refine (exP2 E1.out hR).mono ?_); rintro e w' ⟨rfl, rfl⟩)
            | (go_at_call 102; (with_reducible refine (exP7 E2.out hR).mono ?_); rintro e w' ⟨rfl, rfl⟩)
            | (go_at_call 102; (with_reducible refine (exP3 E3.out hR).mono ?_); rintro e w' ⟨rfl, rfl⟩)
            | (go_at_call 102; (with_reducible refine (exP7 E4.out hR).mono ?_); rintro e w' ⟨rfl, rfl⟩))
          go_ret
          exact ⟨rfl, by rw [HG.out]; exact hB⟩
        · simp only [Bool.true_eq_false, and_false, if_false]
          go_enter Tryz.func27, Tryz.ntmps27
          go_wp2_with (first
            | (go_at_call 101; refine (dep_yes _ i d _).mono ?_; rintro e w1 ⟨rfl, b1⟩; obtain ⟨hR, hB, hx⟩ := res_of b1; clear b1; generalize hg : w.heap.size = g at hR hB hx ⊢; have HG := Lib.hid hg; clear hg; obtain ⟨hc, hf⟩ := all_of hR)
            | (go_at_call 102; (with_reducible refine (exP2 E1.out hR).mono ?_); rintro e w' ⟨rfl, rfl⟩)
            | (go_at_call 102; (with_reducible refine (exP7 E2.out hR).mono ?_); rintro e w' ⟨rfl, rfl⟩)
            | (go_at_call 102; (with_reducible refine (exP3 E3.out hR).mono ?_); rintro e w' ⟨rfl, rfl⟩)
            | (go_at_call 102; (with_reducible refine (exP7 E4.out hR).mono ?_); rintro e w' ⟨rfl, rfl⟩))
          go_ret
          exact ⟨rfl, by rw [HG.out]; exact hB⟩
      · simp only [Bool.true_eq_false, false_and, if_false]
        go_enter Tryz.func27, Tryz.ntmps27
        go_wp2_with (first
          | (go_at_call 101; refine (dep_yes _ i d _).mono ?_; rintro e w1 ⟨rfl, b1⟩; obtain ⟨hR, hB, hx⟩ := res_of b1; clear b1; generalize hg : w.heap.size = g at hR hB hx ⊢; have HG := Lib.hid hg; clear hg; obtain ⟨hc, hf⟩ := all_of hR)
          | (go_at_call 102; (with_reducible refine (exP2 E1.out hR).mono ?_); rintro e w' ⟨rfl, rfl⟩)
          | (go_at_call 102; (with_reducible refine (exP7 E2.out hR).mono ?_); rintro e w' ⟨rfl, rfl⟩)
          | (go_at_call 102; (with_reducible refine (exP3 E3.out hR).mono ?_); rintro e w' ⟨rfl, rfl⟩))
        go_ret
        exact ⟨rfl, by rw [HG.out]; exact hB⟩
    · obtain ⟨v, hv⟩ : ∃ v, excB [p1, p2, p3] 0 = v := ⟨_, rfl⟩
      obtain ⟨x, hx⟩ : ∃ x, excB [l1, l2] 0 = x := ⟨_, rfl⟩
      have hK : fldK ⟨f, 0, p0, p1, p2, p3, 1, l0, l1, l2⟩ ↔ v = false := by rw [← hv]; unfold fldK; dsimp only; simp [excB]; try omega
      have hU : fldU ⟨f, 0, p0, p1, p2, p3, 1, l0, l1, l2⟩ ↔ x = false := by rw [← hx]; unfold fldU; dsimp only; simp [excB]; try omega
      have E3 := Lib.hid hv
      have E4 := Lib.hid hx
      clear hv hx
      have KU : (if fldK ⟨f, 0, p0, p1, p2, p3, 1, l0, l1, l2⟩ ∧ fldU ⟨f, 0, p0, p1, p2, p3, 1, l0, l1, l2⟩ then (0 : Int) else 6) = if v = false ∧ x = false then 0 else 6 := by simp only [hK, hU]
      rw [KU]
      clear KU hK hU
      cases v
      · cases x
        · simp only [and_self, if_true]
          go_enter Tryz.func27, Tryz.ntmps27
          go_wp2_with (first
            | (go_at_call 101; refine (dep_yes _ i d _).mono ?_; rintro e w1 ⟨rfl, b1⟩; obtain ⟨hR, hB, hx⟩ := res_of b1; clear b1; generalize hg : w.heap.size = g at hR hB hx ⊢; have HG := Lib.hid hg; clear hg; obtain ⟨hc, hf⟩ := all_of hR)
            | (go_at_call 102; (with_reducible refine (exP2 E1.out hR).mono ?_); rintro e w' ⟨rfl, rfl⟩)
            | (go_at_call 102; (with_reducible refine (exP7 E2.out hR).mono ?_); rintro e w' ⟨rfl, rfl⟩)
            | (go_at_call 102; (with_reducible refine (exP3 E3.out hR).mono ?_); rintro e w' ⟨rfl, rfl⟩)
            | (go_at_call 102; (with_reducible refine (exP8 E4.out hR).mono ?_); rintro e w' ⟨rfl, rfl⟩))
          go_ret
          exact ⟨rfl, by rw [HG.out]; exact hB⟩
        · simp only [Bool.true_eq_false, and_false, if_false]
          go_enter Tryz.func27, Tryz.ntmps27
          go_wp2_with (first
            | (go_at_call 101; refine (dep_yes _ i d _).mono ?_; rintro e w1 ⟨rfl, b1⟩; obtain ⟨hR, hB, hx⟩ := res_of b1; clear b1; generalize hg : w.heap.size = g at hR hB hx ⊢; have HG := Lib.hid hg; clear hg; obtain ⟨hc, hf⟩ := all_of hR)
            | (go_at_call 102; (with_reducible refine (exP2 E1.out hR).mono ?_); rintro e w' ⟨rfl, rfl⟩)
            | (go_at_call 102; (with_reducible refine (exP7 E2.out hR).mono ?_); rintro e w' ⟨rfl, rfl⟩)
            | (go_at_call 102; (with_reducible refine (exP3 E3.out hR).mono ?_); rintro e w' ⟨rfl, rfl⟩)
            | (go_at_call 102; (with_reducible refine (exP8 E4.out hR).mono ?_); rintro e w' ⟨rfl, rfl⟩))
          go_ret
          exact ⟨rfl, by rw [HG.out]; exact hB⟩
      · simp only [Bool.true_eq_false, false_and, if_false]
        go_enter Tryz.func27, Tryz.ntmps27
        go_wp2_with (first
          | (go_at_call 101; refine (dep_yes _ i d _).mono ?_; rintro e w1 ⟨rfl, b1⟩; obtain ⟨hR, hB, hx⟩ := res_of b1; clear b1; generalize hg : w.heap.size = g at hR hB hx ⊢; have HG := Lib.hid hg; clear hg; obtain ⟨hc, hf⟩ := all_of hR)
          | (go_at_call 102; (with_reducible refine (exP2 E1.out hR).mono ?_); rintro e w' ⟨rfl, rfl⟩)
          | (go_at_call 102; (with_reducible refine (exP7 E2.out hR).mono ?_); rintro e w' ⟨rfl, rfl⟩)
          | (go_at_call 102; (with_reducible refine (exP3 E3.out hR).mono ?_); rintro e w' ⟨rfl, rfl⟩))
        go_ret
        exact ⟨rfl, by rw [HG.out]; exact hB⟩
    · obtain ⟨v, hv⟩ : ∃ v, excB [p1, p2, p3] 0 = v := ⟨_, rfl⟩
      obtain ⟨x, hx⟩ : ∃ x, excB [l2] 0 = x := ⟨_, rfl⟩
      have hK : fldK ⟨f, 0, p0, p1, p2, p3, 2, l0, l1, l2⟩ ↔ v = false := by rw [← hv]; unfold fldK; dsimp only; simp [excB]; try omega
      have hU : fldU ⟨f, 0, p0, p1, p2, p3, 2, l0, l1, l2⟩ ↔ x = false := by rw [← hx]; unfold fldU; dsimp only; simp [excB]; try omega
      have E3 := Lib.hid hv
      have E4 := Lib.hid hx
      clear hv hx
      have KU : (if fldK ⟨f, 0, p0, p1, p2, p3, 2, l0, l1, l2⟩ ∧ fldU ⟨f, 0, p0, p1, p2, p3, 2, l0, l1, l2⟩ then (0 : Int) else 6) = if v = false ∧ x = false then 0 else 6 := by simp only [hK, hU]
      rw [KU]
      clear KU hK hU
      cases v
      · cases x
        · simp only [and_self, if_true]
          go_enter Tryz.func27, Tryz.ntmps27
          go_wp2_with (first
            | (go_at_call 101; refine (dep_yes _ i d _).mono ?_; rintro e w1 ⟨rfl, b1⟩; obtain ⟨hR, hB, hx⟩ := res_of b1; clear b1; generalize hg : w.heap.size = g at hR hB hx ⊢; have HG := Lib.hid hg; clear hg; obtain ⟨hc, hf⟩ := all_of hR)
            | (go_at_call 102; (with_reducible refine (exP2 E1.out hR).mono ?_); rintro e w' ⟨rfl, rfl⟩)
            | (go_at_call 102; (with_reducible refine (exP7 E2.out hR).mono ?_); rintro e w' ⟨rfl, rfl⟩)
            | (go_at_call 102; (with_reducible refine (exP3 E3.out hR).mono ?_); rintro e w' ⟨rfl, rfl⟩)
            | (go_at_call 102; (with_reducible refine (exP9 E4.out hR).mono ?_); rintro e w' ⟨rfl, rfl⟩))
          go_ret
          exact ⟨rfl, by rw [HG.out]; exact hB⟩
        · simp only [Bool.true_eq_false, and_false, if_false]
          go_enter Tryz.func27, Tryz.ntmps27
          go_wp2_with (first
            | (go_at_call 101; refine (dep_yes _ i d _).mono ?_; rintro e w1 ⟨rfl, b1⟩; obtain ⟨hR, hB, hx⟩ := res_of b1; clear b1; generalize hg : w.heap.size = g at hR hB hx ⊢; have HG := Lib.hid hg; clear hg; obtain ⟨hc, hf⟩ := all_of hR)
            | (go_at_call 102; (with_reducible refine (exP2 E1.out hR).mono ?_); rintro e w' ⟨rfl, rfl⟩)
            | (go_at_call 102; (with_reducible refine (exP7 E2.out hR).mono ?_); rintro e w' ⟨rfl, rfl⟩)
            | (go_at_call 102; (with_reducible refine (exP3 E3.out hR).mono ?_); rintro e w' ⟨rfl, rfl⟩)
            | (go_at_call 102; (with_reducible refine (exP9 E4.out hR).mono ?_); rintro e w' ⟨rfl, rfl⟩))
          go_ret
          exact ⟨rfl, by rw [HG.out]; exact hB⟩
      · simp only [Bool.true_eq_false, false_and, if_false]
        go_enter Tryz.func27, Tryz.ntmps27
        go_wp2_with (first
          | (go_at_call 101; refine (dep_yes _ i d _).mono ?_; rintro e w1 ⟨rfl, b1⟩; obtain ⟨hR, hB, hx⟩ := res_of b1; clear b1; generalize hg : w.heap.size = g at hR hB hx ⊢; have HG := Lib.hid hg; clear hg; obtain ⟨hc, hf⟩ := all_of hR)
          | (go_at_call 102; (with_reducible refine (exP2 E1.out hR).mono ?_); rintro e w' ⟨rfl, rfl⟩)
          | (go_at_call 102; (with_reducible refine (exP7 E2.out hR).mono ?_); rintro e w' ⟨rfl, rfl⟩)
          | (go_at_call 102; (with_reducible refine (exP3 E3.out hR).mono ?_); rintro e w' ⟨rfl, rfl⟩))
        go_ret
        exact ⟨rfl, by rw [HG.out]; exact hB⟩
    · obtain ⟨v, hv⟩ : ∃ v, excB [p1, p2, p3] 0 = v := ⟨_, rfl⟩
      obtain ⟨x, hx⟩ : ∃ x, excB [] 0 = x := ⟨_, rfl⟩
      have hK : fldK ⟨f, 0, p0, p1, p2, p3, 3, l0, l1, l2⟩ ↔ v = false := by rw [← hv]; unfold fldK; dsimp only; simp [excB]; try omega
      have hU : fldU ⟨f, 0, p0, p1, p2, p3, 3, l0, l1, l2⟩ ↔ x = false := by rw [← hx]; unfold fldU; dsimp only; simp [excB]; try omega
      have E3 := Lib.hid hv
      have E4 := Lib.hid hx
      clear hv hx
      have KU : (if fldK ⟨f, 0, p0, p1, p2, p3, 3, l0, l1, l2⟩ ∧ fldU ⟨f, 0, p0, p1, p2, p3, 3, l0, l1, l2⟩ then (0 : Int) else 6) = if v = false ∧ x = false then 0 else 6 := by simp only [hK, hU]
      rw [KU]
      clear KU hK hU
      cases v
      · cases x
        · simp only [and_self, if_true]
          go_enter Tryz.func27, Tryz.ntmps27
          go_wp2_with (first
            | (go_at_call 101; refine (dep_yes _ i d _).mono ?_; rintro e w1 ⟨rfl, b1⟩; obtain ⟨hR, hB, hx⟩ := res_of b1; clear b1; generalize hg : w.heap.size = g at hR hB hx ⊢; have HG := Lib.hid hg; clear hg; obtain ⟨hc, hf⟩ := all_of hR)
            | (go_at_call 102; (with_reducible refine (exP2 E1.out hR).mono ?_); rintro e w' ⟨rfl, rfl⟩)
            | (go_at_call 102; (with_reducible refine (exP7 E2.out hR).mono ?_); rintro e w' ⟨rfl, rfl⟩)
            | (go_at_call 102; (with_reducible refine (exP3 E3.out hR).mono ?_); rintro e w' ⟨rfl, rfl⟩)
            | (go_at_call 102; (with_reducible refine (exc0 _ _ _ E4.out _).mono ?_); rintro e w' ⟨rfl, rfl⟩))
          go_ret
          exact ⟨rfl, by rw [HG.out]; exact hB⟩
        · simp only [Bool.true_eq_false, and_false, if_false]
          go_enter Tryz.func27, Tryz.ntmps27
          go_wp2_with (first
            | (go_at_call 101; refine (dep_yes _ i d _).mono ?_; rintro e w1 ⟨rfl, b1⟩; obtain ⟨hR, hB, hx⟩ := res_of b1; clear b1; generalize hg : w.heap.size = g at hR hB hx ⊢; have HG := Lib.hid hg; clear hg; obtain ⟨hc, hf⟩ := all_of hR)
            | (go_at_call 102; (with_reducible refine (exP2 E1.out hR).mono ?_); rintro e w' ⟨rfl, rfl⟩)
            | (go_at_call 102; (with_reducible refine (exP7 E2.out hR).mono ?_); rintro e w' ⟨rfl, rfl⟩)
            | (go_at_call 102; (with_reducible refine (exP3 E3.out hR).mono ?_); rintro e w' ⟨rfl, rfl⟩)
            | (go_at_call 102; (with_reducible refine (exc0 _ _ _ E4.out _).mono ?_); rintro e w' ⟨rfl, rfl⟩))
          go_ret
          exact ⟨rfl, by rw [HG.out]; exact hB⟩
      · simp only [Bool.true_eq_false, false_and, if_false]
        go_enter Tryz.func27, Tryz.ntmps27
        go_wp2_with (first
          | (go_at_call 101; refine (dep_yes _ i d _).mono ?_; rintro e w1 ⟨rfl, b1⟩; obtain ⟨hR, hB, hx⟩ := res_of b1; clear b1; generalize hg : w.heap.size = g at hR hB hx ⊢; have HG := Lib.hid hg; clear hg; obtain ⟨hc, hf⟩ := all_of hR)
          | (go_at_call 102; (with_reducible refine (exP2 E1.out hR).mono ?_); rintro e w' ⟨rfl, rfl⟩)
          | (go_at_call 102; (with_reducible refine (exP7 E2.out hR).mono ?_); rintro e w' ⟨rfl, rfl⟩)
          | (go_at_call 102; (with_reducible refine (exP3 E3.out hR).mono ?_); rintro e w' ⟨rfl, rfl⟩))
        go_ret
        exact ⟨rfl, by rw [HG.out]; exact hB⟩
  · rcases (show u = 0 ∨ u = 1 ∨ u = 2 by omega) with rfl | rfl | rfl
    · obtain ⟨v, hv⟩ : ∃ v, excB [p2, p3] 0 = v := ⟨_, rfl⟩
      obtain ⟨x, hx⟩ : ∃ x, excB [l0, l1, l2] 0 = x := ⟨_, rfl⟩
      have hK : fldK ⟨f, 1, p0, p1, p2, p3, 0, l0, l1, l2⟩ ↔ v = false := by rw [← hv]; unfold fldK; dsimp only; simp [excB]; try omega
      have hU : fldU ⟨f, 1, p0, p1, p2, p3, 0, l0, l1, l2⟩ ↔ x = false := by rw [← hx]; unfold fldU; dsimp only; simp [excB]; try omega
      have E3 := Lib.hid hv
      have E4 := Lib.hid hx
      clear hv hx
      have KU : (if fldK ⟨f, 1, p0, p1, p2, p3, 0, l0, l1, l2⟩ ∧ fldU ⟨f, 1, p0, p1, p2, p3, 0, l0, l1, l2⟩ then (0 : Int) else 6) = if v = false ∧ x = false then 0 else 6 := by simp only [hK, hU]
      rw [KU]
      clear KU hK hU
      cases v
      · cases x
        · simp only [and_self, if_true]
          go_enter Tryz.func27, Tryz.ntmps27
          go_wp2_with (first
            | (go_at_call 101; refine (dep_yes _ i d _).mono ?_; rintro e w1 ⟨rfl, b1⟩; obtain ⟨hR, hB, hx⟩ := res_of b1; clear b1; generalize hg : w.heap.size = g at hR hB hx ⊢; have HG := Lib.hid hg; clear hg; obtain ⟨hc, hf⟩ := all_of hR)
            | (go_at_call 102; (with_reducible refine (exP2 E1.out hR).mono ?_); rintro e w' ⟨rfl, rfl⟩)
            | (go_at_call 102; (with_reducible refine (exP7 E2.out hR).mono ?_); rintro e w' ⟨rfl, rfl⟩)
            | (go_at_call 102; (with_reducible refine (exP4 E3.out hR).mono ?_); rintro e w' ⟨rfl, rfl⟩)
            | (go_at_call 102; (with_reducible refine (exP7 E4.out hR).mono ?_); rintro e w' ⟨rfl, rfl⟩))
          go_ret
          exact ⟨rfl, by rw [HG.out]; exact hB⟩
        · simp only [Bool.true_eq_false, and_false, if_false]
          go_enter Tryz.func27, Tryz.ntmps27
          go_wp2_with (first
            | (go_at_call 101; refine (dep_yes _ i d _).mono ?_; rintro e w1 ⟨rfl, b1⟩; obtain ⟨hR, hB, hx⟩ := res_of b1; clear b1; generalize hg : w.heap.size = g at hR hB hx ⊢; have HG := Lib.hid hg; clear hg; obtain ⟨hc, hf⟩ := all_of hR)
            | (go_at_call 102; (with_reducible refine (exP2 E1.out hR).mono ?_); rintro e w' ⟨rfl, rfl⟩)
            | (go_at_call 102; (with_reducible refine (exP7 E2.out hR).mono ?_); rintro e w' ⟨rfl, rfl⟩)
            | (go_at_call 102; (with_reducible refine (exP4 E3.out hR).mono ?_); rintro e w' ⟨rfl, rfl⟩)
            | (go_at_call 102; (with_reducible refine (exP7 E4.out hR).mono ?_); rintro e w' ⟨rfl, rfl⟩))
          go_ret
          exact ⟨rfl, by rw [HG.out]; exact hB⟩
      · simp only [Bool.true_eq_false, false_and, if_false]
        go_enter Tryz.func27, Tryz.ntmps27
        go_wp2_with (first
          | (go_at_call 101; refine (dep_yes _ i d _).mono ?_; rintro e w1 ⟨rfl, b1⟩; obtain ⟨hR, hB, hx⟩ := res_of b1; clear b1; generalize hg : w.heap.size = g at hR hB hx ⊢; have HG := Lib.hid hg; clear hg; obtain ⟨hc, hf⟩ := all_of hR)
          | (go_at_call 102; (with_reducible refine (exP2 E1.out hR).mono ?_); rintro e w' ⟨rfl, rfl⟩)
          | (go_at_call 102; (with_reducible refine (exP7 E2.out hR).mono ?_); rintro e w' ⟨rfl, rfl⟩)
          | (go_at_call 102; (with_reducible refine (exP4 E3.out hR).mono ?_); rintro e w' ⟨rfl, rfl⟩))
        go_ret
        exact ⟨rfl, by rw [HG.out]; exact hB⟩
    · obtain ⟨v, hv⟩ : ∃ v, excB [p2, p3] 0 = v := ⟨_, rfl⟩
      obtain ⟨x, hx⟩ : ∃ x, excB [l1, l2] 0 = x := ⟨_, rfl⟩
      have hK : fldK ⟨f, 1, p0, p1, p2, p3, 1, l0, l1, l2⟩ ↔ v = false := by rw [← hv]; unfold fldK; dsimp only; simp [excB]; try omega
      have hU : fldU ⟨f, 1, p0, p1, p2, p3, 1, l0, l1, l2⟩ ↔ x = false := by rw [← hx]; unfold fldU; dsimp only; simp [excB]; try omega
      have E3 := Lib.hid hv
      have E4 := Lib.hid hx
      clear hv hx
      have KU : (if fldK ⟨f, 1, p0, p1, p2, p3, 1, l0, l1, l2⟩ ∧ fldU ⟨f, 1, p0, p1, p2, p3, 1, l0, l1, l2⟩ then (0 : Int) else 6) = if v = false ∧ x = false then 0 else 6 := by simp only [hK, hU]
      rw [KU]
      clear KU hK hU
      cases v
      · cases x
        · simp only [and_self, if_true]
          go_enter Tryz.func27, Tryz.ntmps27
          go_wp2_with (first
            | (go_at_call 101; refine (dep_yes _ i d _).mono ?_; rintro e w1 ⟨rfl, b1⟩; obtain ⟨hR, hB, hx⟩ := res_of b1; clear b1; generalize hg : w.heap.size = g at hR hB hx ⊢; have HG := Lib.hid hg; clear hg; obtain ⟨hc, hf⟩ := all_of hR)
            | (go_at_call 102; (with_reducible refine (exP2 E1.out hR).mono ?_); rintro e w' ⟨rfl, rfl⟩)
            | (go_at_call 102; (with_reducible refine (exP7 E2.out hR).mono ?_); rintro e w' ⟨rfl, rfl⟩)
            | (go_at_call 102; (with_reducible refine (exP4 E3.out hR).mono ?_); rintro e w' ⟨rfl, rfl⟩)
            | (go_at_call 102; (with_reducible refine (exP8 E4.out hR).mono ?_); rintro e w' ⟨rfl, rfl⟩))
          go_ret
          exact ⟨rfl, by rw [HG.out]; exact hB⟩
        · simp only [Bool.true_eq_false, and_false, if_false]
          go_enter Tryz.func27, Tryz.ntmps27
          go_wp2_with (first
            | (go_at_call 101; refine (dep_yes _ i d _).mono ?_; rintro e w1 ⟨rfl, b1⟩; obtain ⟨hR, hB, hx⟩ := res_of b1; clear b1; generalize hg : w.heap.size = g at hR hB hx ⊢; have HG := Lib.hid hg; clear hg; obtain ⟨hc, hf⟩ := all_of hR)
            | (go_at_call 102; (with_reducible refine (exP2 E1.out hR).mono ?_); rintro e w' ⟨rfl, rfl⟩)
            | (go_at_call 102; (with_reducible refine (exP7 E2.out hR).mono ?_); rintro e w' ⟨rfl, rfl⟩)
            | (go_at_call 102; (with_reducible refine (exP4 E3.out hR).mono ?_); rintro e w' ⟨rfl, rfl⟩)
            | (go_at_call 102; (with_reducible refine (exP8 E4.out hR).mono ?_); rintro e w' ⟨rfl, rfl⟩))
          go_ret
          exact ⟨rfl, by rw [HG.out]; exact hB⟩
      · simp only [Bool.true_eq_false, false_and, if_false]
        go_enter Tryz.func27, Tryz.ntmps27
        go_wp2_with (first
          | (go_at_call 101; refine (dep_yes _ i d _).mono ?_; rintro e w1 ⟨rfl, b1⟩; obtain ⟨hR, hB, hx⟩ := res_of b1; clear b1; generalize hg : w.heap.size = g at hR hB hx ⊢; have HG := Lib.hid hg; clear hg; obtain ⟨hc, hf⟩ := all_of hR)
          | (go_at_call 102; (with_reducible refine (exP2 E1.out hR).mono ?_); rintro e w' ⟨rfl, rfl⟩)
          | (go_at_call 102; (with_reducible refine (exP7 E2.out hR).mono ?_); rintro e w' ⟨rfl, rfl⟩)
          | (go_at_call 102; (with_reducible refine (exP4 E3.out hR).mono ?_); rintro e w' ⟨rfl, rfl⟩))
        go_ret
        exact ⟨rfl, by rw [HG.out]; exact hB⟩
    · obtain ⟨v, hv⟩ : ∃ v, excB [p2, p3] 0 = v := ⟨_, rfl⟩
      obtain ⟨x, hx⟩ : ∃ x, excB [l2] 0 = x := ⟨_, rfl⟩
      have hK : fldK ⟨f, 1, p0, p1, p2, p3, 2, l0, l1, l2⟩ ↔ v = false := by rw [← hv]; unfold fldK; dsimp only; simp [excB]; try omega
      have hU : fldU ⟨f, 1, p0, p1, p2, p3, 2, l0, l1, l2⟩ ↔ x = false := by rw [← hx]; unfold fldU; dsimp only; simp [excB]; try omega
      have E3 := Lib.hid hv
      have E4 := Lib.hid hx
      clear hv hx
      have KU : (if fldK ⟨f, 1, p0, p1, p2, p3, 2, l0, l1, l2⟩ ∧ fldU ⟨f, 1, p0, p1, p2, p3, 2, l0, l1, l2⟩ then (0 : Int) else 6) = if v = false ∧ x = false then 0 else 6 := by simp only [hK, hU]
      rw [KU]
      clear KU hK hU
      cases v
      · cases x
        · simp only [and_self, if_true]
          go_enter Tryz.func27, Tryz.ntmps27
          go_wp2_with (first
            | (go_at_call 101; refine (dep_yes _ i d _).mono ?_; rintro e w1 ⟨rfl, b1⟩; obtain ⟨hR, hB, hx⟩ := res_of b1; clear b1; generalize hg : w.heap.size = g at hR hB hx ⊢; have HG := Lib.hid hg; clear hg; obtain ⟨hc, hf⟩ := all_of hR)
            | (go_at_call 102; (with_reducible refine (exP2 E1.out hR).mono ?_); rintro e w' ⟨rfl, rfl⟩)
            | (go_at_call 102; (with_reducible refine (exP7 E2.out hR).mono ?_); rintro e w' ⟨rfl, rfl⟩)
            | (go_at_call 102; (with_reducible refine (exP4 E3.out hR).mono ?_); rintro e w' ⟨rfl, rfl⟩)
            | (go_at_call 102; (with_reducible refine (exP9 E4.out hR).mono ?_); rintro e w' ⟨rfl, rfl⟩))
          go_ret
          exact ⟨rfl, by rw [HG.out]; exact hB⟩
        · simp only [Bool.true_eq_false, and_false, if_false]
          go_enter Tryz.func27, Tryz.ntmps27
          go_wp2_with (first
            | (go_at_call 101; refine (dep_yes _ i d _).mono ?_; rintro e w1 ⟨rfl, b1⟩; obtain ⟨hR, hB, hx⟩ := res_of b1; clear b1; generalize hg : w.heap.size = g at hR hB hx ⊢; have HG := Lib.hid hg; clear hg; obtain ⟨hc, hf⟩ := all_of hR)
            | (go_at_call 102; (with_reducible refine (exP2 E1.out hR).mono ?_); rintro e w' ⟨rfl, rfl⟩)
            | (go_at_call 102; (with_reducible refine (exP7 E2.out hR).mono ?_); rintro e w' ⟨rfl, rfl⟩)
            | (go_at_call 102; (with_reducible refine (exP4 E3.out hR).mono ?_); rintro e w' ⟨rfl, rfl⟩)
            | (go_at_call 102; (with_reducible refine (exP9 E4.out hR).mono ?_); rintro e w' ⟨rfl, rfl⟩))
          go_ret
          exact ⟨rfl, by rw [HG.out]; exact hB⟩
      · simp only [Bool.true_eq_false, false_and, if_false]
        go_enter Tryz.func27, Tryz.ntmps27
        go_wp2_with (first
          | (go_at_call 101; refine (dep_yes _ i d _).mono ?_; rintro e w1 ⟨rfl, b1⟩; obtain ⟨hR, hB, hx⟩ := res_of b1; clear b1; generalize hg : w.heap.size = g at hR hB hx ⊢; have HG := Lib.hid hg; clear hg; obtain ⟨hc, hf⟩ := all_of hR)
          | (go_at_call 102; (with_reducible refine (exP2 E1.out hR).mono ?_); rintro e w' ⟨rfl, rfl⟩)
          | (go_at_call 102; (with_reducible refine (exP7 E2.out hR).mono ?_); rintro e w' ⟨rfl, rfl⟩)
          | (go_at_call 102; (with_reducible refine (exP4 E3.out hR).mono ?_); rintro e w' ⟨rfl, rfl⟩))
        go_ret
        exact ⟨rfl, by rw [HG.out]; exact hB⟩
  · rcases (show u = 0 ∨ u = 1 by omega) with rfl | rfl
    · obtain ⟨v, hv⟩ : ∃ v, excB [p3] 0 = v := ⟨_, rfl⟩
      obtain ⟨x, hx⟩ : ∃ x, excB [l0, l1, l2] 0 = x := ⟨_, rfl⟩
      have hK : fldK ⟨f, 2, p0, p1, p2, p3, 0, l0, l1, l2⟩ ↔ v = false := by rw [← hv]; unfold fldK; dsimp only; simp [excB]; try omega
      have hU : fldU ⟨f, 2, p0, p1, p2, p3, 0, l0, l1, l2⟩ ↔ x = false := by rw [← hx]; unfold fldU; dsimp only; simp [excB]; try omega
      have E3 := Lib.hid hv
      have E4 := Lib.hid hx
      clear hv hx
      have KU : (if fldK ⟨f, 2, p0, p1, p2, p3, 0, l0, l1, l2⟩ ∧ fldU ⟨f, 2, p0, p1, p2, p3, 0, l0, l1, l2⟩ then (0 : Int) else 6) = if v = false ∧ x = false then 0 else 6 := by simp only [hK, hU]
      rw [KU]
      clear KU hK hU
      cases v
      · cases x
        · simp only [and_self, if_true]
          go_enter Tryz.func27, Tryz.ntmps27
          go_wp2_with (first
            | (go_at_call 101; refine (dep_yes _ i d _).mono ?_; rintro e w1 ⟨rfl, b1⟩; obtain ⟨hR, hB, hx⟩ := res_of b1; clear b1; generalize hg : w.heap.size = g at hR hB hx ⊢; have HG := Lib.hid hg; clear hg; obtain ⟨hc, hf⟩ := all_of hR)
            | (go_at_call 102; (with_reducible refine (exP2 E1.out hR).mono ?_); rintro e w' ⟨rfl, rfl⟩)
            | (go_at_call 102; (with_reducible refine (exP7 E2.out hR).mono ?_); rintro e w' ⟨rfl, rfl⟩)
            | (go_at_call 102; (with_reducible refine (exP5 E3.out hR).mono ?_); rintro e w' ⟨rfl, rfl⟩)
            | (go_at_call 102; (with_reducible refine (exP7 E4.out hR).mono ?_); rintro e w' ⟨rfl, rfl⟩))
          go_ret
          exact ⟨rfl, by rw [HG.out]; exact hB⟩
        · simp only [Bool.true_eq_false, and_false, if_false]
          go_enter Tryz.func27, Tryz.ntmps27
          go_wp2_with (first
            | (go_at_call 101; refine (dep_yes _ i d _).mono ?_; rintro e w1 ⟨rfl, b1⟩; obtain ⟨hR, hB, hx⟩ := res_of b1; clear b1; generalize hg : w.heap.size = g at hR hB hx ⊢; have HG := Lib.hid hg; clear hg; obtain ⟨hc, hf⟩ := all_of hR)
            | (go_at_call 102; (with_reducible refine (exP2 E1.out hR).mono ?_); rintro e w' ⟨rfl, rfl⟩)
            | (go_at_call 102; (with_reducible refine (exP7 E2.out hR).mono ?_); rintro e w' ⟨rfl, rfl⟩)
            | (go_at_call 102; (with_reducible refine (exP5 E3.out hR).mono ?_); rintro e w' ⟨rfl, rfl⟩)
            | (go_at_call 102; (with_reducible refine (exP7 E4.out hR).mono ?_); rintro e w' ⟨rfl, rfl⟩))
          go_ret
          exact ⟨rfl, by rw [HG.out]; exact hB⟩
      · simp only [Bool.true_eq_false, false_and, if_false]
        go_enter Tryz.func27, Tryz.ntmps27
        go_wp2_with (first
          | (go_at_call 101; refine (dep_yes _ i d _).mono ?_; rintro e w1 ⟨rfl, b1⟩; obtain ⟨hR, hB, hx⟩ := res_of b1; clear b1; generalize hg : w.heap.size = g at hR hB hx ⊢; have HG := Lib.hid hg; clear hg; obtain ⟨hc, hf⟩ := all_of hR)
          | (go_at_call 102; (with_reducible refine (exP2 E1.out hR).mono ?_); rintro e w' ⟨rfl, rfl⟩)
          | (go_at_call 102; (with_reducible refine (exP7 E2.out hR).mono ?_); rintro e w' ⟨rfl, rfl⟩)
          | (go_at_call 102; (with_reducible refine (exP5 E3.out hR).mono ?_); rintro e w' ⟨rfl, rfl⟩))
        go_ret
        exact ⟨rfl, by rw [HG.out]; exact hB⟩
    · obtain ⟨v, hv⟩ : ∃ v, excB [p3] 0 = v := ⟨_, rfl⟩
      obtain ⟨x, hx⟩ : ∃ x, excB [l1, l2] 0 = x := ⟨_, rfl⟩
      have hK : fldK ⟨f, 2, p0, p1, p2, p3, 1, l0, l1, l2⟩ ↔ v = false := by rw [← hv]; unfold fldK; dsimp only; simp [excB]; try omega
      have hU : fldU ⟨f, 2, p0, p1, p2, p3, 1, l0, l1, l2⟩ ↔ x = false := by rw [← hx]; unfold fldU; dsimp only; simp [excB]; try omega
      have E3 := Lib.hid hv
      have E4 := Lib.hid hx
      clear hv hx
      have KU : (if fldK ⟨f, 2, p0, p1, p2, p3, 1, l0, l1, l2⟩ ∧ fldU ⟨f, 2, p0, p1, p2, p3, 1, l0, l1, l2⟩ then (0 : Int) else 6) = if v = false ∧ x = false then 0 else 6 := by simp only [hK, hU]
      rw [KU]
      clear KU hK hU
      cases v
      · cases x
        · simp only [and_self, if_true]
          go_enter Tryz.func27, Tryz.ntmps27
          go_wp2_with (first
            | (go_at_call 101; refine (dep_yes _ i d _).mono ?_; rintro e w1 ⟨rfl, b1⟩; obtain ⟨hR, hB, hx⟩ := res_of b1; clear b1; generalize hg : w.heap.size = g at hR hB hx ⊢; have HG := Lib.hid hg; clear hg; obtain ⟨hc, hf⟩ := all_of hR)
            | (go_at_call 102; (with_reducible refine (exP2 E1.out hR).mono ?_); rintro e w' ⟨rfl, rfl⟩)
            | (go_at_call 102; (with_reducible refine (exP7 E2.out hR).mono ?_); rintro e w' ⟨rfl, rfl⟩)
            | (go_at_call 102; (with_reducible refine (exP5 E3.out hR).mono ?_); rintro e w' ⟨rfl, rfl⟩)
            | (go_at_call 102; (with_reducible refine (exP8 E4.out hR).mono ?_); rintro e w' ⟨rfl, rfl⟩))
          go_ret
          exact ⟨rfl, by rw [HG.out]; exact hB⟩
        · simp only [Bool.true_eq_false, and_false, if_false]
          go_enter Tryz.func27, Tryz.ntmps27
          go_wp2_with (first
            | (go_at_call 101; refine (dep_yes _ i d _).mono ?_; rintro e w1 ⟨rfl, b1⟩; obtain ⟨hR, hB, hx⟩ := res_of b1; clear b1; generalize hg : w.heap.size = g at hR hB hx ⊢; have HG := Lib.hid hg; clear hg; obtain ⟨hc, hf⟩ := all_of hR)
            | (go_at_call 102; (with_reducible refine (exP2 E1.out hR).mono ?_); rintro e w' ⟨rfl, rfl⟩)
            | (go_at_call 102; (with_reducible refine (exP7 E2.out hR).mono ?_); rintro e w' ⟨rfl, rfl⟩)
            | (go_at_call 102; (with_reducible refine (exP5 E3.out hR).mono ?_); rintro e w' ⟨rfl, rfl⟩)
            | (go_at_call 102; (with_reducible refine (exP8 E4.out hR).mono ?_); rintro e w' ⟨rfl, rfl⟩))
          go_ret
          exact ⟨rfl, by rw [HG.out]; exact hB⟩
      · simp only [Bool.true_eq_false, false_and, if_false]
        go_enter Tryz.func27, Tryz.ntmps27
        go_wp2_with (first
          | (go_at_call 101; refine (dep_yes _ i d _).mono ?_; rintro e w1 ⟨rfl, b1⟩; obtain ⟨hR, hB, hx⟩ := res_of b1; clear b1; generalize hg : w.heap.size = g at hR hB hx ⊢; have HG := Lib.hid hg; clear hg; obtain ⟨hc, hf⟩ := all_of hR)
          | (go_at_call 102; (with_reducible refine (exP2 E1.out hR).mono ?_); rintro e w' ⟨rfl, rfl⟩)
          | (go_at_call 102; (with_reducible refine (exP7 E2.out hR).mono ?_); rintro e w' ⟨rfl, rfl⟩)
          | (go_at_call 102; (with_reducible refine (exP5 E3.out hR).mono ?_); rintro e w' ⟨rfl, rfl⟩))
        go_ret
        exact ⟨rfl, by rw [HG.out]; exact hB⟩
  · obtain rfl : u = 0 := by omega
    obtain ⟨v, hv⟩ : ∃ v, excB [] 0 = v := ⟨_, rfl⟩
    obtain ⟨x, hx⟩ : ∃ x, excB [l0, l1, l2] 0 = x := ⟨_, rfl⟩
    have hK : fldK ⟨f, 3, p0, p1, p2, p3, 0, l0, l1, l2⟩ ↔ v = false := by rw [← hv]; unfold fldK; dsimp only; simp [excB]; try omega
    have hU : fldU ⟨f, 3, p0, p1, p2, p3, 0, l0, l1, l2⟩ ↔ x = false := by rw [← hx]; unfold fldU; dsimp only; simp [excB]; try omega
    have E3 := Lib.hid hv
    have E4 := Lib.hid hx
    clear hv hx
    have KU : (if fldK ⟨f, 3, p0, p1, p2, p3, 0, l0, l1, l2⟩ ∧ fldU ⟨f, 3, p0, p1, p2, p3, 0, l0, l1, l2⟩ then (0 : Int) else 6) = if v = false ∧ x = false then 0 else 6 := by simp only [hK, hU]
    rw [KU]
    clear KU hK hU
    cases v
    · cases x
      · simp only [and_self, if_true]
        go_enter Tryz.func27, Tryz.ntmps27
        go_wp2_with (first
          | (go_at_call 101; refine (dep_yes _ i d _).mono ?_; rintro e w1 ⟨rfl, b1⟩; obtain ⟨hR, hB, hx⟩ := res_of b1; clear b1; generalize hg : w.heap.size = g at hR hB hx ⊢; have HG := Lib.hid hg; clear hg; obtain ⟨hc, hf⟩ := all_of hR)
          | (go_at_call 102; (with_reducible refine (exP2 E1.out hR).mono ?_); rintro e w' ⟨rfl, rfl⟩)
          | (go_at_call 102; (with_reducible refine (exP7 E2.out hR).mono ?_); rintro e w' ⟨rfl, rfl⟩)
          | (go_at_call 102; (with_reducible refine (exc0 _ _ _ E3.out _).mono ?_); rintro e w' ⟨rfl, rfl⟩)
          | (go_at_call 102; (with_reducible refine (exP7 E4.out hR).mono ?_); rintro e w' ⟨rfl, rfl⟩))
        go_ret
        exact ⟨rfl, by rw [HG.out]; exact hB⟩
      · simp only [Bool.true_eq_false, and_false, if_false]
        go_enter Tryz.func27, Tryz.ntmps27
        go_wp2_with (first
          | (go_at_call 101; refine (dep_yes _ i d _).mono ?_; rintro e w1 ⟨rfl, b1⟩; obtain ⟨hR, hB, hx⟩ := res_of b1; clear b1; generalize hg : w.heap.size = g at hR hB hx ⊢; have HG := Lib.hid hg; clear hg; obtain ⟨hc, hf⟩ := all_of hR)
          | (go_at_call 102; (with_reducible refine (exP2 E1.out hR).mono ?_); rintro e w' ⟨rfl, rfl⟩)
          | (go_at_call 102; (with_reducible refine (exP7 E2.out hR).mono ?_); rintro e w' ⟨rfl, rfl⟩)
          | (go_at_call 102; (with_reducible refine (exc0 _ _ _ E3.out _).mono ?_); rintro e w' ⟨rfl, rfl⟩)
          | (go_at_call 102; (with_reducible refine (exP7 E4.out hR).mono ?_); rintro e w' ⟨rfl, rfl⟩))
        go_ret
        exact ⟨rfl, by rw [HG.out]; exact hB⟩
    · simp only [Bool.true_eq_false, false_and, if_false]
      go_enter Tryz.func27, Tryz.ntmps27
      go_wp2_with (first
        | (go_at_call 101; refine (dep_yes _ i d _).mono ?_; rintro e w1 ⟨rfl, b1⟩; obtain ⟨hR, hB, hx⟩ := res_of b1; clear b1; generalize hg : w.heap.size = g at hR hB hx ⊢; have HG := Lib.hid hg; clear hg; obtain ⟨hc, hf⟩ := all_of hR)
        | (go_at_call 102; (with_reducible refine (exP2 E1.out hR).mono ?_); rintro e w' ⟨rfl, rfl⟩)
        | (go_at_call 102; (with_reducible refine (exP7 E2.out hR).mono ?_); rintro e w' ⟨rfl, rfl⟩)
        | (go_at_call 102; (with_reducible refine (exc0 _ _ _ E3.out _).mono ?_); rintro e w' ⟨rfl, rfl⟩))
      go_ret
      exact ⟨rfl, by rw [HG.out]; exact hB⟩
theorem chkP_any (p : Pa) (i : p.In) (w : World) : Calls Tryz.prog 27 #[.agg #[.int .i64 p.f, .int .i64 p.k, .int .u32 p.p0, .int .u32 p.p1, .int .u32 p.p2, .int .u32 p.p3, .int .i64 p.u, .int .u32 p.l0, .int .u32 p.l1, .int .u32 p.l2]] w fun e w' => e = .returned (.int .i64 (chkP p)) ∧ Below w.heap.size w w' := by
  by_cases d : depP p
  · by_cases h1 : plusP p
    · by_cases h2 : loopP p
      · rw [show chkP p = if fldK p ∧ fldU p then 0 else 6 by unfold chkP; rw [if_pos d, if_pos ⟨h1, h2⟩]]
        exact chk_rest p i d h1 h2 w
      · rw [chkP_rng d (fun h => h2 h.2)]
        exact chk_loop p i d h1 h2 w
    · rw [chkP_rng d (fun h => h1 h.1)]
      exact chk_plus p i d h1 w
  · rw [chkP_dep d]
    exact chk_depth p i d w
end Go.Proofs.YtpblpjopinllcaaGreatDoor.path
