/-
  The contracts of stamp.LE and of watershedref04.LE, at any two times.
  The contracts of cmp.Compare, cmp.Or and slices.Compare where stamp.Compare calls them.
  The contracts of stamp.Compare and of watershedref04.Compare, at any two times.
-/
import Derived.Test.YtmepiogoofmbbaaDoorGB
import Derived.Deep.QuietTactic
import Derived.BigQuiet
import Derived.Deep.RegionWith
import Derived.Deep.RegionHeld3
namespace Go.Proofs.YtmepiogoofmbbaaDoor.stamp
open Go.ChangeShapes Go.WideShapes Go.ChangeAt Go.RowKit
open Go.Proofs.YtmepiogoofmbbaaDoor.tm Go.Proofs.YtmepiogoofmbbaaDoor.opened Go.Proofs.YtmepiogoofmbbaaDoor.block

theorem ret_bool {a b : Bool} (h : a = b) : Ending.returned (.bool a) = .returned (.bool b) := by rw [h]
theorem le_apart (s t : Tm) (_i : s.In) (_j : t.In) (h : s.d ≠ t.d) (w : World) : Calls Tryd.prog 33 #[.agg #[.int .u32 s.e, .int .i64 s.d, .int .u32 s.a, .int .u32 s.b, .int .u32 s.c], .agg #[.int .u32 t.e, .int .i64 t.d, .int .u32 t.a, .int .u32 t.b, .int .u32 t.c]] w fun e w' => e = .returned (.bool false) ∧ Below w.heap.size w w' := by
  have h' : (s.d != t.d) = true := by simpa using h
  clear h
  go_enter Tryd.func33, Tryd.ntmps33
  go_wp2_with fail
  go_ret
  exact ⟨rfl, fresh2 _ _ _⟩
theorem le_depth (s t : Tm) (_i : s.In) (_j : t.In) (h : s.d = t.d) (hd : t.d < 0 ∨ 3 < t.d) (w : World) : Calls Tryd.prog 33 #[.agg #[.int .u32 s.e, .int .i64 s.d, .int .u32 s.a, .int .u32 s.b, .int .u32 s.c], .agg #[.int .u32 t.e, .int .i64 t.d, .int .u32 t.a, .int .u32 t.b, .int .u32 t.c]] w fun e w' => e = .returned (.bool false) ∧ Below w.heap.size w w' := by
  obtain ⟨se, sd, sa, sb, sc⟩ := s
  obtain ⟨te, td, ta, tb, tc⟩ := t
  dsimp only at *
  subst h
  go_enter Tryd.func33, Tryd.ntmps33
  go_wp2_with (go_at_call 56; refine (isDepth_no _ hd _).mono ?_; rintro e w' ⟨rfl, rfl⟩)
  go_ret
  exact ⟨rfl, fresh2 _ _ _⟩
theorem le_epoch (s t : Tm) (_i : s.In) (_j : t.In) (h : s.d = t.d) (h0 : 0 ≤ t.d) (h1 : t.d ≤ 3) (he : t.e < s.e) (w : World) : Calls Tryd.prog 33 #[.agg #[.int .u32 s.e, .int .i64 s.d, .int .u32 s.a, .int .u32 s.b, .int .u32 s.c], .agg #[.int .u32 t.e, .int .i64 t.d, .int .u32 t.a, .int .u32 t.b, .int .u32 t.c]] w fun e w' => e = .returned (.bool false) ∧ Below w.heap.size w w' := by
  obtain ⟨se, sd, sa, sb, sc⟩ := s
  obtain ⟨te, td, ta, tb, tc⟩ := t
  dsimp only at *
  subst h
  go_enter Tryd.func33, Tryd.ntmps33
  go_wp2_with (go_at_call 56; refine (isDepth_yes _ (by omega) (by omega) _).mono ?_; rintro e w' ⟨rfl, rfl⟩)
  go_ret
  exact ⟨rfl, fresh2 _ _ _⟩
theorem le_rest (s t : Tm) (_i : s.In) (_j : t.In) (h : s.d = t.d) (h0 : 0 ≤ t.d) (h1 : t.d ≤ 3) (he : s.e ≤ t.e) (w : World) : Calls Tryd.prog 33 #[.agg #[.int .u32 s.e, .int .i64 s.d, .int .u32 s.a, .int .u32 s.b, .int .u32 s.c], .agg #[.int .u32 t.e, .int .i64 t.d, .int .u32 t.a, .int .u32 t.b, .int .u32 t.c]] w fun e w' => e = .returned (.bool (leB s t)) ∧ Below w.heap.size w w' := by
  have hd : t.d = 0 ∨ t.d = 1 ∨ t.d = 2 ∨ t.d = 3 := by omega
  generalize hC : leB s t = C
  have HC := Lib.hid hC
  clear hC
  obtain ⟨se, sd, sa, sb, sc⟩ := s
  obtain ⟨te, td, ta, tb, tc⟩ := t
  dsimp only at *
  subst h
  rcases hd with rfl | rfl | rfl | rfl
  all_goals go_enter Tryd.func33, Tryd.ntmps33
  all_goals go_wp2_with (go_at_call 56; refine (isDepth_yes _ (by omega) (by omega) _).mono ?_; rintro e w' ⟨rfl, rfl⟩)
  all_goals refine wp_loop_rounds 4 ?_
  all_goals rw [rounds_succ]
  all_goals go_wp2
  all_goals try (go_quiet (fail))
  all_goals go_wp2
  all_goals try (rw [rounds_succ]; go_wp2)
  all_goals try (go_quiet (fail))
  all_goals go_wp2
  all_goals try (rw [rounds_succ]; go_wp2)
  all_goals try (go_quiet (fail))
  all_goals go_wp2
  all_goals try (rw [rounds_succ]; go_wp2)
  all_goals go_ret
  all_goals refine ⟨ret_bool ?_, by repeat (first | exact fresh2 _ _ _ | apply below_drewN)⟩
  all_goals rw [← HC.out]
  all_goals first | (rw [leB_yes]; dsimp only; omega) | (rw [leB_no]; dsimp only; omega)
theorem le_any (s t : Tm) (i : s.In) (j : t.In) (w : World) : Calls Tryd.prog 33 #[.agg #[.int .u32 s.e, .int .i64 s.d, .int .u32 s.a, .int .u32 s.b, .int .u32 s.c], .agg #[.int .u32 t.e, .int .i64 t.d, .int .u32 t.a, .int .u32 t.b, .int .u32 t.c]] w fun e w' => e = .returned (.bool (leB s t)) ∧ Below w.heap.size w w' := by
  by_cases h : s.d = t.d
  · by_cases hd : t.d < 0 ∨ 3 < t.d
    · rw [leB_no (by omega)]; exact le_depth s t i j h hd w
    · by_cases he : t.e < s.e
      · rw [leB_no (by omega)]; exact le_epoch s t i j h (by omega) (by omega) he w
      · exact le_rest s t i j h (by omega) (by omega) (by omega) w
  · rw [leB_no (by omega)]; exact le_apart s t i j h w
theorem leR_apart (s t : Tm) (_i : s.In) (_j : t.In) (h : s.d ≠ t.d) (w : World) : Calls Tryd.prog 13 #[.agg #[.int .u32 s.e, .int .i64 s.d, .int .u32 s.a, .int .u32 s.b, .int .u32 s.c], .agg #[.int .u32 t.e, .int .i64 t.d, .int .u32 t.a, .int .u32 t.b, .int .u32 t.c]] w fun e w' => e = .returned (.bool false) ∧ Below w.heap.size w w' := by
  have h' : (s.d != t.d) = true := by simpa using h
  clear h
  go_enter Tryd.func13, Tryd.ntmps13
  go_wp2
  go_ret
  exact ⟨rfl, fresh2 _ _ _⟩
theorem leR_depth (s t : Tm) (_i : s.In) (_j : t.In) (h : s.d = t.d) (hd : t.d < 0 ∨ 3 < t.d) (w : World) : Calls Tryd.prog 13 #[.agg #[.int .u32 s.e, .int .i64 s.d, .int .u32 s.a, .int .u32 s.b, .int .u32 s.c], .agg #[.int .u32 t.e, .int .i64 t.d, .int .u32 t.a, .int .u32 t.b, .int .u32 t.c]] w fun e w' => e = .returned (.bool false) ∧ Below w.heap.size w w' := by
  obtain ⟨se, sd, sa, sb, sc⟩ := s
  obtain ⟨te, td, ta, tb, tc⟩ := t
  dsimp only at *
  subst h
  by_cases hd0 : sd < 0
  · clear hd
    go_enter Tryd.func13, Tryd.ntmps13
    go_wp2
    go_ret
    exact ⟨rfl, fresh2 _ _ _⟩
  · have hd1 : 3 < sd := by omega
    clear hd
    go_enter Tryd.func13, Tryd.ntmps13
    go_wp2
    go_ret
    exact ⟨rfl, fresh2 _ _ _⟩
theorem leR_epoch (s t : Tm) (_i : s.In) (_j : t.In) (h : s.d = t.d) (h0 : 0 ≤ t.d) (h1 : t.d ≤ 3) (he : t.e < s.e) (w : World) : Calls Tryd.prog 13 #[.agg #[.int .u32 s.e, .int .i64 s.d, .int .u32 s.a, .int .u32 s.b, .int .u32 s.c], .agg #[.int .u32 t.e, .int .i64 t.d, .int .u32 t.a, .int .u32 t.b, .int .u32 t.c]] w fun e w' => e = .returned (.bool false) ∧ Below w.heap.size w w' := by
  obtain ⟨se, sd, sa, sb, sc⟩ := s
  obtain ⟨te, td, ta, tb, tc⟩ := t
  dsimp only at *
  subst h
  go_enter Tryd.func13, Tryd.ntmps13
  go_wp2
  go_ret
  exact ⟨rfl, fresh2 _ _ _⟩
theorem leR_rest (s t : Tm) (_i : s.In) (_j : t.In) (h : s.d = t.d) (h0 : 0 ≤ t.d) (h1 : t.d ≤ 3) (he : s.e ≤ t.e) (w : World) : Calls Tryd.prog 13 #[.agg #[.int .u32 s.e, .int .i64 s.d, .int .u32 s.a, .int .u32 s.b, .int .u32 s.c], .agg #[.int .u32 t.e, .int .i64 t.d, .int .u32 t.a, .int .u32 t.b, .int .u32 t.c]] w fun e w' => e = .returned (.bool (leB s t)) ∧ Below w.heap.size w w' := by
  have hd : t.d = 0 ∨ t.d = 1 ∨ t.d = 2 ∨ t.d = 3 := by omega
  generalize hC : leB s t = C
  have HC := Lib.hid hC
  clear hC
  obtain ⟨se, sd, sa, sb, sc⟩ := s
  obtain ⟨te, td, ta, tb, tc⟩ := t
  dsimp only at *
  subst h
  rcases hd with rfl | rfl | rfl | rfl
  all_goals go_enter Tryd.func13, Tryd.ntmps13
  all_goals go_wp2
  all_goals refine wp_loop_rounds 4 ?_
  all_goals rw [rounds_succ]
  all_goals go_wp2
  all_goals try (go_quiet (fail))
  all_goals go_wp2
  all_goals try (rw [rounds_succ]; go_wp2)
  all_goals try (go_quiet (fail))
  all_goals go_wp2
  all_goals try (rw [rounds_succ]; go_wp2)
  all_goals try (go_quiet (fail))
  all_goals go_wp2
  all_goals try (rw [rounds_succ]; go_wp2)
  all_goals go_ret
  all_goals refine ⟨ret_bool ?_, by repeat (first | exact fresh2 _ _ _ | apply below_drewN)⟩
  all_goals rw [← HC.out]
  all_goals first | (rw [leB_yes]; dsimp only; omega) | (rw [leB_no]; dsimp only; omega)
theorem leR_any (s t : Tm) (i : s.In) (j : t.In) (w : World) : Calls Tryd.prog 13 #[.agg #[.int .u32 s.e, .int .i64 s.d, .int .u32 s.a, .int .u32 s.b, .int .u32 s.c], .agg #[.int .u32 t.e, .int .i64 t.d, .int .u32 t.a, .int .u32 t.b, .int .u32 t.c]] w fun e w' => e = .returned (.bool (leB s t)) ∧ Below w.heap.size w w' := by
  by_cases h : s.d = t.d
  · by_cases hd : t.d < 0 ∨ 3 < t.d
    · rw [leB_no (by omega)]; exact leR_depth s t i j h hd w
    · by_cases he : t.e < s.e
      · rw [leB_no (by omega)]; exact leR_epoch s t i j h (by omega) (by omega) he w
      · exact leR_rest s t i j h (by omega) (by omega) (by omega) w
  · rw [leB_no (by omega)]; exact leR_apart s t i j h w
end Go.Proofs.YtmepiogoofmbbaaDoor.stamp
namespace Go.Proofs.YtmepiogoofmbbaaDoor.stamp
open Go.ChangeShapes Go.WideShapes Go.ChangeAt Go.RowKit
open Go.Proofs.YtmepiogoofmbbaaDoor.tm Go.Proofs.YtmepiogoofmbbaaDoor.opened Go.Proofs.YtmepiogoofmbbaaDoor.block

theorem cmp_i64 (x y : Int) (w : World) : Calls Tryd.prog 52 #[.int .i64 x, .int .i64 y] w fun e w' => e = .returned (.int .i64 (cmpI x y)) ∧ w = w' := by
  by_cases h : x < y
  · rw [show cmpI x y = -1 by simp [cmpI, h]]
    go_enter Tryd.func52, Tryd.ntmps52
    go_wp2
    go_ret
    exact ⟨rfl, rfl⟩
  · by_cases k : y < x
    · rw [show cmpI x y = 1 by simp [cmpI, h, k]]
      go_enter Tryd.func52, Tryd.ntmps52
      go_wp2
      go_ret
      exact ⟨rfl, rfl⟩
    · rw [show cmpI x y = 0 by simp [cmpI, h, k]]
      go_enter Tryd.func52, Tryd.ntmps52
      go_wp2
      go_ret
      exact ⟨rfl, rfl⟩
theorem cmp_u32 (x y : Int) (w : World) : Calls Tryd.prog 53 #[.int .u32 x, .int .u32 y] w fun e w' => e = .returned (.int .i64 (cmpI x y)) ∧ w = w' := by
  by_cases h : x < y
  · rw [show cmpI x y = -1 by simp [cmpI, h]]
    go_enter Tryd.func53, Tryd.ntmps53
    go_wp2
    go_ret
    exact ⟨rfl, rfl⟩
  · by_cases k : y < x
    · rw [show cmpI x y = 1 by simp [cmpI, h, k]]
      go_enter Tryd.func53, Tryd.ntmps53
      go_wp2
      go_ret
      exact ⟨rfl, rfl⟩
    · rw [show cmpI x y = 0 by simp [cmpI, h, k]]
      go_enter Tryd.func53, Tryd.ntmps53
      go_wp2
      go_ret
      exact ⟨rfl, rfl⟩
theorem cmp_is (x y : Int) {p : Int} (h : cmpI x y = p) (w : World) : Calls Tryd.prog 53 #[.int .u32 x, .int .u32 y] w fun e w' => e = .returned (.int .i64 p) ∧ w = w' := h ▸ cmp_u32 x y w

theorem or_any (p q r : Int) (g : Nat) (w : World) (c0 : w.cell? ⟨g, 0, none⟩ = some (.int .i64 p)) (c1 : w.cell? ⟨g, 1, none⟩ = some (.int .i64 q)) (c2 : w.cell? ⟨g, 2, none⟩ = some (.int .i64 r)) :
    Calls Tryd.prog 51 #[.slice (some ⟨g, 0, none⟩) 3 3] w fun e w' => e = .returned (.int .i64 (orI p (orI q r))) ∧ w = w' := by
  generalize hC : orI p (orI q r) = C
  have HC := Lib.hid hC
  clear hC
  go_enter Tryd.func51, Tryd.ntmps51
  go_wp2
  refine wp_loop_rounds 4 ?_
  rw [rounds_succ]
  go_wp2
  all_goals try (rw [rounds_succ]; go_wp2)
  all_goals try (rw [rounds_succ]; go_wp2)
  all_goals try (rw [rounds_succ]; go_wp2)
  all_goals go_ret
  all_goals refine ⟨ret_i64 ?_, rfl⟩
  all_goals rw [← HC.out]
  all_goals first | (have z := nz ‹(p != 0) = true›; simp [orI, z]) | (have y := ze ‹(p != 0) = false›; have z := nz ‹(q != 0) = true›; simp [orI, y, z]) | (have y := ze ‹(p != 0) = false›; have x := ze ‹(q != 0) = false›; have z := nz ‹(r != 0) = true›; simp [orI, y, x]) | (have y := ze ‹(p != 0) = false›; have x := ze ‹(q != 0) = false›; have z := ze ‹(r != 0) = false›; simp [orI, y, x, z])
theorem cmp3_any (a b c x y z : Int) (g k : Nat) (w : World) (a0 : w.cell? ⟨g, 2, none⟩ = some (.int .u32 a)) (a1 : w.cell? ⟨g, 3, none⟩ = some (.int .u32 b)) (a2 : w.cell? ⟨g, 4, none⟩ = some (.int .u32 c))
    (b0 : w.cell? ⟨k, 2, none⟩ = some (.int .u32 x)) (b1 : w.cell? ⟨k, 3, none⟩ = some (.int .u32 y)) (b2 : w.cell? ⟨k, 4, none⟩ = some (.int .u32 z)) :
    Calls Tryd.prog 54 #[.slice (some ⟨g, 2, none⟩) 3 3, .slice (some ⟨k, 2, none⟩) 3 3] w fun e w' => e = .returned (.int .i64 (orI (cmpI a x) (orI (cmpI b y) (cmpI c z)))) ∧ w = w' := by
  generalize hp : cmpI a x = p
  generalize hq : cmpI b y = q
  generalize hr : cmpI c z = r
  have HP := Lib.hid hp
  have HQ := Lib.hid hq
  have HR := Lib.hid hr
  clear hp hq hr
  generalize hC : orI p (orI q r) = C
  have HC := Lib.hid hC
  clear hC
  go_enter Tryd.func54, Tryd.ntmps54
  go_wp2
  refine wp_loop_rounds 4 ?_
  rw [rounds_succ]
  go_wp2_with (go_at_call 53; refine (cmp_is _ _ HP.out _).mono ?_; rintro e w' ⟨rfl, rfl⟩)
  all_goals try (rw [rounds_succ]; go_wp2_with (go_at_call 53; refine (cmp_is _ _ HQ.out _).mono ?_; rintro e w' ⟨rfl, rfl⟩))
  all_goals try (rw [rounds_succ]; go_wp2_with (go_at_call 53; refine (cmp_is _ _ HR.out _).mono ?_; rintro e w' ⟨rfl, rfl⟩))
  all_goals try (rw [rounds_succ]; go_wp2)
  all_goals go_ret
  all_goals refine ⟨ret_i64 ?_, rfl⟩
  all_goals rw [← HC.out]
  all_goals first | (have z := nz ‹(p != 0) = true›; simp [orI, z]) | (have y := ze ‹(p != 0) = false›; have z := nz ‹(q != 0) = true›; simp [orI, y, z]) | (have y := ze ‹(p != 0) = false›; have x := ze ‹(q != 0) = false›; have z := nz ‹(r != 0) = true›; simp [orI, y, x]) | (have y := ze ‹(p != 0) = false›; have x := ze ‹(q != 0) = false›; have z := ze ‹(r != 0) = false›; simp [orI, y, x, z])
end Go.Proofs.YtmepiogoofmbbaaDoor.stamp
namespace Go.Proofs.YtmepiogoofmbbaaDoor.stamp
open Go.ChangeShapes Go.WideShapes Go.ChangeAt Go.RowKit
open Go.Proofs.YtmepiogoofmbbaaDoor.tm Go.Proofs.YtmepiogoofmbbaaDoor.opened Go.Proofs.YtmepiogoofmbbaaDoor.block

theorem run_eq_yes (t : Tm) (w : World) : (binOp .eql 26 (.agg #[.int .u32 t.e, .int .i64 t.d, .int .u32 t.a, .int .u32 t.b, .int .u32 t.c]) (.agg #[.int .u32 t.e, .int .i64 t.d, .int .u32 t.a, .int .u32 t.b, .int .u32 t.c])).run Tryd.prog w = .ok (.bool true) w := by rw [run_eqT, eqT_self]
theorem run_eq_no {s t : Tm} (h : s ≠ t) (w : World) : (binOp .eql 26 (.agg #[.int .u32 s.e, .int .i64 s.d, .int .u32 s.a, .int .u32 s.b, .int .u32 s.c]) (.agg #[.int .u32 t.e, .int .i64 t.d, .int .u32 t.a, .int .u32 t.b, .int .u32 t.c])).run Tryd.prog w = .ok (.bool false) w := by rw [run_eqT, eqT_no h]
theorem compare_same (t : Tm) (_i : t.In) (w : World) : Calls Tryd.prog 30 #[.agg #[.int .u32 t.e, .int .i64 t.d, .int .u32 t.a, .int .u32 t.b, .int .u32 t.c], .agg #[.int .u32 t.e, .int .i64 t.d, .int .u32 t.a, .int .u32 t.b, .int .u32 t.c]] w fun e w' => e = .returned (.int .i64 0) ∧ Below w.heap.size w w' := by
  have he := run_eq_yes t
  go_enter Tryd.func30, Tryd.ntmps30
  go_wp2_with (fail)
  go_ret
  exact ⟨rfl, fresh2 _ _ _⟩
theorem or_new (p q r : Int) {W : World} {g : Nat} (hg : W.heap.size = g) :
    Calls Tryd.prog 51 #[.slice (some ⟨g, 0, none⟩) 3 3] ((W.alloc (.cells #[.int .i64 p, .int .i64 q, .int .i64 r] 3)).drew) fun e w' => e = .returned (.int .i64 (orI p (orI q r))) ∧ ((W.alloc (.cells #[.int .i64 p, .int .i64 q, .int .i64 r] 3)).drew) = w' := by
  subst hg
  have h := Whole.fresh W 3 #[.int .i64 p, .int .i64 q, .int .i64 r]
  exact or_any p q r W.heap.size _ (h.read 0) (h.read 1) (h.read 2)
set_option maxHeartbeats 1000000 in
theorem compare_rest (s t : Tm) (_i : s.In) (_j : t.In) (h : s ≠ t) (w : World) : Calls Tryd.prog 30 #[.agg #[.int .u32 s.e, .int .i64 s.d, .int .u32 s.a, .int .u32 s.b, .int .u32 s.c], .agg #[.int .u32 t.e, .int .i64 t.d, .int .u32 t.a, .int .u32 t.b, .int .u32 t.c]] w fun e w' => e = .returned (.int .i64 (cmpT s t)) ∧ Below w.heap.size w w' := by
  have he := run_eq_no h
  go_enter Tryd.func30, Tryd.ntmps30
  go_wp2_with (fail)
  clear he
  go_region_held3 (fun w' => w'.cell? ⟨w.heap.size, 0, none⟩ = some (.int .u32 s.e) ∧ w'.cell? ⟨w.heap.size, 1, none⟩ = some (.int .i64 s.d) ∧ w'.cell? ⟨w.heap.size, 2, none⟩ = some (.int .u32 s.a) ∧ w'.cell? ⟨w.heap.size, 3, none⟩ = some (.int .u32 s.b) ∧ w'.cell? ⟨w.heap.size, 4, none⟩ = some (.int .u32 s.c) ∧ w'.cell? ⟨w.heap.size + 1, 0, none⟩ = some (.int .u32 t.e) ∧ w'.cell? ⟨w.heap.size + 1, 1, none⟩ = some (.int .i64 t.d) ∧ w'.cell? ⟨w.heap.size + 1, 2, none⟩ = some (.int .u32 t.a) ∧ w'.cell? ⟨w.heap.size + 1, 3, none⟩ = some (.int .u32 t.b) ∧ w'.cell? ⟨w.heap.size + 1, 4, none⟩ = some (.int .u32 t.c))
    (go_keep)
    (first | (go_at_call 52; refine (cmp_i64 _ _ _).mono ?_; rintro e w' ⟨rfl, rfl⟩) | (go_at_call 53; refine (cmp_u32 _ _ _).mono ?_; rintro e w' ⟨rfl, rfl⟩) | (go_at_call 54; refine (cmp3_any s.a s.b s.c t.a t.b t.c _ _ _ ?_ ?_ ?_ ?_ ?_ ?_).mono ?_ <;> first | (rintro e w2 ⟨rfl, rfl⟩) | (go_split_ands; assumption)) | (go_at_call 51; refine (or_new _ _ _ ?_).mono ?_; (simp); rintro e w2 ⟨rfl, rfl⟩))
  all_goals go_wp2
  all_goals go_ret
  all_goals exact ⟨rfl, below_drewN ((fresh2 _ _ _).alloc (by simp; omega) _) 1⟩
theorem compare_any (s t : Tm) (i : s.In) (j : t.In) (w : World) : Calls Tryd.prog 30 #[.agg #[.int .u32 s.e, .int .i64 s.d, .int .u32 s.a, .int .u32 s.b, .int .u32 s.c], .agg #[.int .u32 t.e, .int .i64 t.d, .int .u32 t.a, .int .u32 t.b, .int .u32 t.c]] w fun e w' => e = .returned (.int .i64 (cmpT s t)) ∧ Below w.heap.size w w' := by
  by_cases h : s = t
  · subst h
    rw [cmpT_self]
    exact compare_same s i w
  · exact compare_rest s t i j h w
end Go.Proofs.YtmepiogoofmbbaaDoor.stamp
