/-
  The contracts of stamp.LE and of watershedref04.LE, at any two times.
-/
import Derived.Test.YtpblpjopinllcaaGreatDoorJOpen
import Derived.Deep.QuietTactic
import Derived.BigQuiet
namespace Go.Proofs.YtpblpjopinllcaaGreatDoor.stamp
open Go.ChangeShapes Go.WideShapes Go.ChangeAt Go.RowKit
open Go.Proofs.YtpblpjopinllcaaGreatDoor.tm Go.Proofs.YtpblpjopinllcaaGreatDoor.opened Go.Proofs.YtpblpjopinllcaaGreatDoor.block

theorem ret_bool {a b : Bool} (h : a = b) : Ending.returned (.bool a) = .returned (.bool b) := by rw [h]
theorem fresh2 (w : World) (o o' : Obj) : Below w.heap.size w ((w.alloc o).alloc o') := ((Below.refl _ _).alloc (Nat.le_refl _) _).alloc (by simp) _
theorem le_apart (s t : Tm) (_i : s.In) (_j : t.In) (h : s.d ≠ t.d) (w : World) : Calls Tryz.prog 53 #[.agg #[.int .u32 s.e, .int .i64 s.d, .int .u32 s.a, .int .u32 s.b, .int .u32 s.c], .agg #[.int .u32 t.e, .int .i64 t.d, .int .u32 t.a, .int .u32 t.b, .int .u32 t.c]] w fun e w' => e = .returned (.bool false) ∧ Below w.heap.size w w' := by
  have h' : (s.d != t.d) = true := by simpa using h
  clear h
  go_enter Tryz.func53, Tryz.ntmps53
  go_wp2_with fail
  go_ret
  exact ⟨rfl, fresh2 _ _ _⟩
theorem le_depth (s t : Tm) (_i : s.In) (_j : t.In) (h : s.d = t.d) (hd : t.d < 0 ∨ 3 < t.d) (w : World) : Calls Tryz.prog 53 #[.agg #[.int .u32 s.e, .int .i64 s.d, .int .u32 s.a, .int .u32 s.b, .int .u32 s.c], .agg #[.int .u32 t.e, .int .i64 t.d, .int .u32 t.a, .int .u32 t.b, .int .u32 t.c]] w fun e w' => e = .returned (.bool false) ∧ Below w.heap.size w w' := by
  obtain ⟨se, sd, sa, sb, sc⟩ := s
  obtain ⟨te, td, ta, tb, tc⟩ := t
  dsimp only at *
  subst h
  go_enter Tryz.func53, Tryz.ntmps53
  go_wp2_with (go_at_call 123; refine (isDepth_no _ hd _).mono ?_; rintro e w' ⟨rfl, rfl⟩)
  go_ret
  exact ⟨rfl, fresh2 _ _ _⟩
theorem le_epoch (s t : Tm) (_i : s.In) (_j : t.In) (h : s.d = t.d) (h0 : 0 ≤ t.d) (h1 : t.d ≤ 3) (he : t.e < s.e) (w : World) : Calls Tryz.prog 53 #[.agg #[.int .u32 s.e, .int .i64 s.d, .int .u32 s.a, .int .u32 s.b, .int .u32 s.c], .agg #[.int .u32 t.e, .int .i64 t.d, .int .u32 t.a, .int .u32 t.b, .int .u32 t.c]] w fun e w' => e = .returned (.bool false) ∧ Below w.heap.size w w' := by
  obtain ⟨se, sd, sa, sb, sc⟩ := s
  obtain ⟨te, td, ta, tb, tc⟩ := t
  dsimp only at *
  subst h
  go_enter Tryz.func53, Tryz.ntmps53
  go_wp2_with (go_at_call 123; refine (isDepth_yes _ (by omega) (by omega) _).mono ?_; rintro e w' ⟨rfl, rfl⟩)
  go_ret
  exact ⟨rfl, fresh2 _ _ _⟩
theorem le_rest (s t : Tm) (_i : s.In) (_j : t.In) (h : s.d = t.d) (h0 : 0 ≤ t.d) (h1 : t.d ≤ 3) (he : s.e ≤ t.e) (w : World) : Calls Tryz.prog 53 #[.agg #[.int .u32 s.e, .int .i64 s.d, .int .u32 s.a, .int .u32 s.b, .int .u32 s.c], .agg #[.int .u32 t.e, .int .i64 t.d, .int .u32 t.a, .int .u32 t.b, .int .u32 t.c]] w fun e w' => e = .returned (.bool (leB s t)) ∧ Below w.heap.size w w' := by
  have hd : t.d = 0 ∨ t.d = 1 ∨ t.d = 2 ∨ t.d = 3 := by omega
  generalize hC : leB s t = C
  have HC := Lib.hid hC
  clear hC
  obtain ⟨se, sd, sa, sb, sc⟩ := s
  obtain ⟨te, td, ta, tb, tc⟩ := t
  dsimp only at *
  subst h
  rcases hd with rfl | rfl | rfl | rfl
  all_goals go_enter Tryz.func53, Tryz.ntmps53
  all_goals go_wp2_with (go_at_call 123; refine (isDepth_yes _ (by omega) (by omega) _).mono ?_; rintro e w' ⟨rfl, rfl⟩)
  all_goals refine wp_loop_rounds 4 ?_
  all_goals rw [rounds_succ]
  all_goals go_wp2
  all_goals try (go_quiet (fail))
  all_goals go_wp2
  all_goals try (rw [rounds_succ]; go_wp2)
  all_goals try (go_quiet (fail))
  all_goals go_wp2
  all_goals try (rw [rounds_succ]; go_wp2)
  all_goals try (go_quiet (fail))
  all_goals go_wp2
  all_goals try (rw [rounds_succ]; go_wp2)
  all_goals go_ret
  all_goals refine ⟨ret_bool ?_, by repeat (first | exact fresh2 _ _ _ | apply below_drewN)⟩
  all_goals rw [← HC.out]
  all_goals first | (rw [leB_yes]; dsimp only; omega) | (rw [leB_no]; dsimp only; omega)
theorem le_any (s t : Tm) (i : s.In) (j : t.In) (w : World) : Calls Tryz.prog 53 #[.agg #[.int .u32 s.e, .int .i64 s.d, .int .u32 s.a, .int .u32 s.b, .int .u32 s.c], .agg #[.int .u32 t.e, .int .i64 t.d, .int .u32 t.a, .int .u32 t.b, .int .u32 t.c]] w fun e w' => e = .returned (.bool (leB s t)) ∧ Below w.heap.size w w' := by
  by_cases h : s.d = t.d
  · by_cases hd : t.d < 0 ∨ 3 < t.d
    · rw [leB_no (by omega)]; exact le_depth s t i j h hd w
    · by_cases he : t.e < s.e
      · rw [leB_no (by omega)]; exact le_epoch s t i j h (by omega) (by omega) he w
      · exact le_rest s t i j h (by omega) (by omega) (by omega) w
  · rw [leB_no (by omega)]; exact le_apart s t i j h w
theorem leR_apart (s t : Tm) (_i : s.In) (_j : t.In) (h : s.d ≠ t.d) (w : World) : Calls Tryz.prog 188 #[.agg #[.int .u32 s.e, .int .i64 s.d, .int .u32 s.a, .int .u32 s.b, .int .u32 s.c], .agg #[.int .u32 t.e, .int .i64 t.d, .int .u32 t.a, .int .u32 t.b, .int .u32 t.c]] w fun e w' => e = .returned (.bool false) ∧ Below w.heap.size w w' := by
  have h' : (s.d != t.d) = true := by simpa using h
  clear h
  go_enter Tryz.func188, Tryz.ntmps188
  go_wp2
  go_ret
  exact ⟨rfl, fresh2 _ _ _⟩
theorem leR_depth (s t : Tm) (_i : s.In) (_j : t.In) (h : s.d = t.d) (hd : t.d < 0 ∨ 3 < t.d) (w : World) : Calls Tryz.prog 188 #[.agg #[.int .u32 s.e, .int .i64 s.d, .int .u32 s.a, .int .u32 s.b, .int .u32 s.c], .agg #[.int .u32 t.e, .int .i64 t.d, .int .u32 t.a, .int .u32 t.b, .int .u32 t.c]] w fun e w' => e = .returned (.bool false) ∧ Below w.heap.size w w' := by
  obtain ⟨se, sd, sa, sb, sc⟩ := s
  obtain ⟨te, td, ta, tb, tc⟩ := t
  dsimp only at *
  subst h
  by_cases hd0 : sd < 0
  · clear hd
    go_enter Tryz.func188, Tryz.ntmps188
    go_wp2
    go_ret
    exact ⟨rfl, fresh2 _ _ _⟩
  · have hd1 : 3 < sd := by omega
    clear hd
    go_enter Tryz.func188, Tryz.ntmps188
    go_wp2
    go_ret
    exact ⟨rfl, fresh2 _ _ _⟩
theorem leR_epoch (s t : Tm) (_i : s.In) (_j : t.In) (h : s.d = t.d) (h0 : 0 ≤ t.d) (h1 : t.d ≤ 3) (he : t.e < s.e) (w : World) : Calls Tryz.prog 188 #[.agg #[.int .u32 s.e, .int .i64 s.d, .int .u32 s.a, .int .u32 s.b, .int .u32 s.c], .agg #[.int .u32 t.e, .int .i64 t.d, .int .u32 t.a, .int .u32 t.b, .int .u32 t.c]] w fun e w' => e = .returned (.bool false) ∧ Below w.heap.size w w' := by
  obtain ⟨se, sd, sa, sb, sc⟩ := s
  obtain ⟨te, td, ta, tb, tc⟩ := t
  dsimp only at *
  subst h
  go_enter Tryz.func188, Tryz.ntmps188
  go_wp2
  go_ret
  exact ⟨rfl, fresh2 _ _ _⟩
theorem leR_rest (s t : Tm) (_i : s.In) (_j : t.In) (h : s.d = t.d) (h0 : 0 ≤ t.d) (h1 : t.d ≤ 3) (he : s.e ≤ t.e) (w : World) : Calls Tryz.prog 188 #[.agg #[.int .u32 s.e, .int .i64 s.d, .int .u32 s.a, .int .u32 s.b, .int .u32 s.c], .agg #[.int .u32 t.e, .int .i64 t.d, .int .u32 t.a, .int .u32 t.b, .int .u32 t.c]] w fun e w' => e = .returned (.bool (leB s t)) ∧ Below w.heap.size w w' := by
  have hd : t.d = 0 ∨ t.d = 1 ∨ t.d = 2 ∨ t.d = 3 := by omega
  generalize hC : leB s t = C
  have HC := Lib.hid hC
  clear hC
  obtain ⟨se, sd, sa, sb, sc⟩ := s
  obtain ⟨te, td, ta, tb, tc⟩ := t
  dsimp only at *
  subst h
  rcases hd with rfl | rfl | rfl | rfl
  all_goals go_enter Tryz.func188, Tryz.ntmps188
  all_goals go_wp2
  all_goals refine wp_loop_rounds 4 ?_
  all_goals rw [rounds_succ]
  all_goals go_wp2
  all_goals try (go_quiet (fail))
  all_goals go_wp2
  all_goals try (rw [rounds_succ]; go_wp2)
  all_goals try (go_quiet (fail))
  all_goals go_wp2
  all_goals try (rw [rounds_succ]; go_wp2)
  all_goals try (go_quiet (fail))
  all_goals go_wp2
  all_goals try (rw [rounds_succ]; go_wp2)
  all_goals go_ret
  all_goals refine ⟨ret_bool ?_, by repeat (first | exact fresh2 _ _ _ | apply below_drewN)⟩
  all_goals rw [← HC.out]
  all_goals first | (rw [leB_yes]; dsimp only; omega) | (rw [leB_no]; dsimp only; omega)
theorem leR_any (s t : Tm) (i : s.In) (j : t.In) (w : World) : Calls Tryz.prog 188 #[.agg #[.int .u32 s.e, .int .i64 s.d, .int .u32 s.a, .int .u32 s.b, .int .u32 s.c], .agg #[.int .u32 t.e, .int .i64 t.d, .int .u32 t.a, .int .u32 t.b, .int .u32 t.c]] w fun e w' => e = .returned (.bool (leB s t)) ∧ Below w.heap.size w w' := by
  by_cases h : s.d = t.d
  · by_cases hd : t.d < 0 ∨ 3 < t.d
    · rw [leB_no (by omega)]; exact leR_depth s t i j h hd w
    · by_cases he : t.e < s.e
      · rw [leB_no (by omega)]; exact leR_epoch s t i j h (by omega) (by omega) he w
      · exact leR_rest s t i j h (by omega) (by omega) (by omega) w
  · rw [leB_no (by omega)]; exact leR_apart s t i j h w
end Go.Proofs.YtpblpjopinllcaaGreatDoor.stamp
