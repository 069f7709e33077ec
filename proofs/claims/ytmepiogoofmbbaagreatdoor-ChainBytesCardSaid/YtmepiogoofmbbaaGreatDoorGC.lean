/-
  The contracts of stamp.LE and of watershedref04.LE, at any two times.
  The contracts of cmp.Compare, cmp.Or and slices.Compare where stamp.Compare calls them.
  The contracts of stamp.Compare and of watershedref04.Compare, at any two times.
  The contract of watershedref04.Compare, at any two times.
-/
import Derived.Test.YtmepiogoofmbbaaGreatDoorGB
import Derived.Deep.QuietTactic
import Derived.BigQuiet
import Derived.Deep.RegionWith
import Derived.Deep.RegionHeld3
namespace Go.Proofs.YtmepiogoofmbbaaGreatDoor.stamp
open Go.ChangeShapes Go.WideShapes Go.ChangeAt Go.RowKit
open Go.Proofs.YtmepiogoofmbbaaGreatDoor.tm Go.Proofs.YtmepiogoofmbbaaGreatDoor.opened Go.Proofs.YtmepiogoofmbbaaGreatDoor.block

theorem ret_bool {a b : Bool} (h : a = b) : Ending.returned (.bool a) = .returned (.bool b) := by rw [h]
theorem le_apart (s t : Tm) (_i : s.In) (_j : t.In) (h : s.d ≠ t.d) (w : World) : Calls Tryz.prog 68 #[.agg #[.int .u32 s.e, .int .i64 s.d, .int .u32 s.a, .int .u32 s.b, .int .u32 s.c], .agg #[.int .u32 t.e, .int .i64 t.d, .int .u32 t.a, .int .u32 t.b, .int .u32 t.c]] w fun e w' => e = .returned (.bool false) ∧ Below w.heap.size w w' := by
  have h' : (s.d != t.d) = true := by simpa using h
  clear h
  go_enter Tryz.func68, Tryz.ntmps68
  go_wp2_with fail
  go_ret
  exact ⟨rfl, fresh2 _ _ _⟩
theorem le_depth (s t : Tm) (_i : s.In) (_j : t.In) (h : s.d = t.d) (hd : t.d < 0 ∨ 3 < t.d) (w : World) : Calls Tryz.prog 68 #[.agg #[.int .u32 s.e, .int .i64 s.d, .int .u32 s.a, .int .u32 s.b, .int .u32 s.c], .agg #[.int .u32 t.e, .int .i64 t.d, .int .u32 t.a, .int .u32 t.b, .int .u32 t.c]] w fun e w' => e = .returned (.bool false) ∧ Below w.heap.size w w' := by
  obtain ⟨se, sd, sa, sb, sc⟩ := s
  obtain ⟨te, td, ta, tb, tc⟩ := t
  dsimp only at *
  subst h
  go_enter Tryz.func68, Tryz.ntmps68
  go_wp2_with (go_at_call 47; refine (isDepth_no _ hd _).mono ?_; rintro e w' ⟨rfl, rfl⟩)
  go_ret
  exact ⟨rfl, fresh2 _ _ _⟩
theorem le_epoch (s t : Tm) (_i : s.In) (_j : t.In) (h : s.d = t.d) (h0 : 0 ≤ t.d) (h1 : t.d ≤ 3) (he : t.e < s.e) (w : World) : Calls Tryz.prog 68 #[.agg #[.int .u32 s.e, .int .i64 s.d, .int .u32 s.a, .int .u32 s.b, .int .u32 s.c], .agg #[.int .u32 t.e, .int .i64 t.d, .int .u32 t.a, .int .u32 t.b, .int .u32 t.c]] w fun e w' => e = .returned (.bool false) ∧ Below w.heap.size w w' := by
  obtain ⟨se, sd, sa, sb, sc⟩ := s
  obtain ⟨te, td, ta, tb, tc⟩ := t
  dsimp only at *
  subst h
  go_enter Tryz.func68, Tryz.ntmps68
  go_wp2_with (go_at_call 47; refine (isDepth_yes _ (by omega) (by omega) _).mono ?_; rintro e w' ⟨rfl, rfl⟩)
  go_ret
  exact ⟨rfl, fresh2 _ _ _⟩
theorem le_rest (s t : Tm) (_i : s.In) (_j : t.In) (h : s.d = t.d) (h0 : 0 ≤ t.d) (h1 : t.d ≤ 3) (he : s.e ≤ t.e) (w : World) : Calls Tryz.prog 68 #[.agg #[.int .u32 s.e, .int .i64 s.d, .int .u32 s.a, .int .u32 s.b, .int .u32 s.c], .agg #[.int .u32 t.e, .int .i64 t.d, .int .u32 t.a, .int .u32 t.b, .int .u32 t.c]] w fun e w' => e = .returned (.bool (leB s t)) ∧ Below w.heap.size w w' := by
  have hd : t.d = 0 ∨ t.d = 1 ∨ t.d = 2 ∨ t.d = 3 := by omega
  generalize hC : leB s t = C
  have HC := Lib.hid hC
  clear hC
  obtain ⟨se, sd, sa, sb, sc⟩ := s
  obtain ⟨te, td, ta, tb, tc⟩ := t
  dsimp only at *
  subst h
  rcases hd with rfl | rfl | rfl | rfl
  all_goals go_enter Tryz.func68, Tryz.ntmps68
  all_goals go_wp2_with (go_at_call 47; refine (isDepth_yes _ (by omega) (by omega) _).mono ?_; rintro e w' ⟨rfl, rfl⟩)
  all_goals refine wp_loop_rounds 4 ?_
  all_goals rw [rounds_succ]
  all_goals go_wp2
  all_goals try (go_quiet (fail))
  all_goals go_wp2
  all_goals try (rw [rounds_succ]; go_wp2)
  all_goals try (go_quiet (fail))
  all_goals go_wp2
  all_goals try (rw [rounds_succ]; go_wp2)
  all_goals try (go_quiet (fail))
  all_goals go_wp2
  all_goals try (rw [rounds_succ]; go_wp2)
  all_goals go_ret
  all_goals refine ⟨ret_bool ?_, by repeat (first | exact fresh2 _ _ _ | apply below_drewN)⟩
  all_goals rw [← HC.out]
  all_goals first | (rw [leB_yes]; dsimp only; omega) | (rw [leB_no]; dsimp only; omega)
theorem le_any (s t : Tm) (i : s.In) (j : t.In) (w : World) : Calls Tryz.prog 68 #[.agg #[.int .u32 s.e, .int .i64 s.d, .int .u32 s.a, .int .u32 s.b, .int .u32 s.c], .agg #[.int .u32 t.e, .int .i64 t.d, .int .u32 t.a, .int .u32 t.b, .int .u32 t.c]] w fun e w' => e = .returned (.bool (leB s t)) ∧ Below w.heap.size w w' := by
  by_cases h : s.d = t.d
  · by_cases hd : t.d < 0 ∨ 3 < t.d
    · rw [leB_no (by omega)]; exact le_depth s t i j h hd w
    · by_cases he : t.e < s.e
      · rw [leB_no (by omega)]; exact le_epoch s t i j h (by omega) (by omega) he w
      · exact le_rest s t i j h (by omega) (by omega) (by omega) w
  · rw [leB_no (by omega)]; exact le_apart s t i j h w
theorem leR_apart (s t : Tm) (_i : s.In) (_j : t.In) (h : s.d ≠ t.d) (w : World) : Calls Tryz.prog 52 #[.agg #[.int .u32 s.e, .int .i64 s.d, .int .u32 s.a, .int .u32 s.b, .int .u32 s.c], .agg #[.int .u32 t.e, .int .i64 t.d, .int .u32 t.a, .int .u32 t.b, .int .u32 t.c]] w fun e w' => e = .returned (.bool false) ∧ Below w.heap.size w w' := by
  have h' : (s.d != t.d) = true := by simpa using h
  clear h
  go_enter Tryz.func52, Tryz.ntmps52
  go_wp2
  go_ret
  exact ⟨rfl, fresh2 _ _ _⟩
theorem leR_depth (s t : Tm) (_i : s.In) (_j : t.In) (h : s.d = t.d) (hd : t.d < 0 ∨ 3 < t.d) (w : World) : Calls Tryz.prog 52 #[.agg #[.int .u32 s.e, .int .i64 s.d, .int .u32 s.a, .int .u32 s.b, .int .u32 s.c], .agg #[.int .u32 t.e, .int .i64 t.d, .int .u32 t.a, .int .u32 t.b, .int .u32 t.c]] w fun e w' => e = .returned (.bool false) ∧ Below w.heap.size w w' := by
  obtain ⟨se, sd, sa, sb, sc⟩ := s
  obtain ⟨te, td, ta, tb, tc⟩ := t
  dsimp only at *
  subst h
  by_cases hd0 : sd < 0
  · clear hd
    go_enter Tryz.func52, Tryz.ntmps52
    go_wp2
    go_ret
    exact ⟨rfl, fresh2 _ _ _⟩
  · have hd1 : 3 < sd := by omega
    clear hd
    go_enter Tryz.func52, Tryz.ntmps52
    go_wp2
    go_ret
    exact ⟨rfl, fresh2 _ _ _⟩
theorem leR_epoch (s t : Tm) (_i : s.In) (_j : t.In) (h : s.d = t.d) (h0 : 0 ≤ t.d) (h1 : t.d ≤ 3) (he : t.e < s.e) (w : World) : Calls Tryz.prog 52 #[.agg #[.int .u32 s.e, .int .i64 s.d, .int .u32 s.a, .int .u32 s.b, .int .u32 s.c], .agg #[.int .u32 t.e, .int .i64 t.d, .int .u32 t.a, .int .u32 t.b, .int .u32 t.c]] w fun e w' => e = .returned (.bool false) ∧ Below w.heap.size w w' := by
  obtain ⟨se, sd, sa, sb, sc⟩ := s
  obtain ⟨te, td, ta, tb, tc⟩ := t
  dsimp only at *
  subst h
  go_enter Tryz.func52, Tryz.ntmps52
  go_wp2
  go_ret
  exact ⟨rfl, fresh2 _ _ _⟩
theorem leR_rest (s t : Tm) (_i : s.In) (_j : t.In) (h : s.d = t.d) (h0 : 0 ≤ t.d) (h1 : t.d ≤ 3) (he : s.e ≤ t.e) (w : World) : Calls Tryz.prog 52 #[.agg #[.int .u32 s.e, .int .i64 s.d, .int .u32 s.a, .int .u32 s.b, .int .u32 s.c], .agg #[.int .u32 t.e, .int .i64 t.d, .int .u32 t.a, .int .u32 t.b, .int .u32 t.c]] w fun e w' => e = .returned (.bool (leB s t)) ∧ Below w.heap.size w w' := by
  have hd : t.d = 0 ∨ t.d = 1 ∨ t.d = 2 ∨ t.d = 3 := by omega
  generalize hC : leB s t = C
  have HC := Lib.hid hC
  clear hC
  obtain ⟨se, sd, sa, sb, sc⟩ := s
  obtain ⟨te, td, ta, tb, tc⟩ := t
  dsimp only at *
  subst h
  rcases hd with rfl | rfl | rfl | rfl
  all_goals go_enter Tryz.func52, Tryz.ntmps52
  all_goals go_wp2
  all_goals refine wp_loop_rounds 4 ?_
  all_goals rw [rounds_succ]
  all_goals go_wp2
  all_goals try (go_quiet (fail))
  all_goals go_wp2
  all_goals try (rw [rounds_succ]; go_wp2)
  all_goals try (go_quiet (fail))
  all_goals go_wp2
  all_goals try (rw [rounds_succ]; go_wp2)
  all_goals try (go_quiet (fail))
  all_goals go_wp2
  all_goals try (rw [rounds_succ]; go_wp2)
  all_goals go_ret
  all_goals refine ⟨ret_bool ?_, by repeat (first | exact fresh2 _ _ _ | apply below_drewN)⟩
  all_goals rw [← HC.out]
  all_goals first | (rw [leB_yes]; dsimp only; omega) | (rw [leB_no]; dsimp only; omega)
theorem leR_any (s t : Tm) (i : s.In) (j : t.In) (w : World) : Calls Tryz.prog 52 #[.agg #[.int .u32 s.e, .int .i64 s.d, .int .u32 s.a, .int .u32 s.b, .int .u32 s.c], .agg #[.int .u32 t.e, .int .i64 t.d, .int .u32 t.a, .int .u32 t.b, .int .u32 t.c]] w fun e w' => e = .returned (.bool (leB s t)) ∧ Below w.heap.size w w' := by
  by_cases h : s.d = t.d
  · by_cases hd : t.d < 0 ∨ 3 < t.d
    · rw [leB_no (by omega)]; exact leR_depth s t i j h hd w
    · by_cases he : t.e < s.e
      · rw [leB_no (by omega)]; exact leR_epoch s t i j h (by omega) (by omega) he w
      · exact leR_rest s t i j h (by omega) (by omega) (by omega) w
  · rw [leB_no (by omega)]; exact leR_apart s t i j h w
end Go.Proofs.YtmepiogoofmbbaaGreatDoor.stamp
namespace Go.Proofs.YtmepiogoofmbbaaGreatDoor.stamp
open Go.ChangeShapes Go.WideShapes Go.ChangeAt Go.RowKit
open Go.Proofs.YtmepiogoofmbbaaGreatDoor.tm Go.Proofs.YtmepiogoofmbbaaGreatDoor.opened Go.Proofs.YtmepiogoofmbbaaGreatDoor.block

theorem cmp_i64 (x y : Int) (w : World) : Calls Tryz.prog 73 #[.int .i64 x, .int .i64 y] w fun e w' => e = .returned (.int .i64 (cmpI x y)) ∧ w = w' := by
  by_cases h : x < y
  · rw [show cmpI x y = -1 by simp [cmpI, h]]
    go_enter Tryz.func73, Tryz.ntmps73
    go_wp2
    go_ret
    exact ⟨rfl, rfl⟩
  · by_cases k : y < x
    · rw [show cmpI x y = 1 by simp [cmpI, h, k]]
      go_enter Tryz.func73, Tryz.ntmps73
      go_wp2
      go_ret
      exact ⟨rfl, rfl⟩
    · rw [show cmpI x y = 0 by simp [cmpI, h, k]]
      go_enter Tryz.func73, Tryz.ntmps73
      go_wp2
      go_ret
      exact ⟨rfl, rfl⟩
theorem cmp_u32 (x y : Int) (w : World) : Calls Tryz.prog 74 #[.int .u32 x, .int .u32 y] w fun e w' => e = .returned (.int .i64 (cmpI x y)) ∧ w = w' := by
  by_cases h : x < y
  · rw [show cmpI x y = -1 by simp [cmpI, h]]
    go_enter Tryz.func74, Tryz.ntmps74
    go_wp2
    go_ret
    exact ⟨rfl, rfl⟩
  · by_cases k : y < x
    · rw [show cmpI x y = 1 by simp [cmpI, h, k]]
      go_enter Tryz.func74, Tryz.ntmps74
      go_wp2
      go_ret
      exact ⟨rfl, rfl⟩
    · rw [show cmpI x y = 0 by simp [cmpI, h, k]]
      go_enter Tryz.func74, Tryz.ntmps74
      go_wp2
      go_ret
      exact ⟨rfl, rfl⟩
theorem cmp_is (x y : Int) {p : Int} (h : cmpI x y = p) (w : World) : Calls Tryz.prog 74 #[.int .u32 x, .int .u32 y] w fun e w' => e = .returned (.int .i64 p) ∧ w = w' := h ▸ cmp_u32 x y w

theorem or_any (p q r : Int) (g : Nat) (w : World) (c0 : w.cell? ⟨g, 0, none⟩ = some (.int .i64 p)) (c1 : w.cell? ⟨g, 1, none⟩ = some (.int .i64 q)) (c2 : w.cell? ⟨g, 2, none⟩ = some (.int .i64 r)) :
    Calls Tryz.prog 72 #[.slice (some ⟨g, 0, none⟩) 3 3] w fun e w' => e = .returned (.int .i64 (orI p (orI q r))) ∧ w = w' := by
  generalize hC : orI p (orI q r) = C
  have HC := Lib.hid hC
  clear hC
  go_enter Tryz.func72, Tryz.ntmps72
  go_wp2
  refine wp_loop_rounds 4 ?_
  rw [rounds_succ]
  go_wp2
  all_goals try (rw [rounds_succ]; go_wp2)
  all_goals try (rw [rounds_succ]; go_wp2)
  all_goals try (rw [rounds_succ]; go_wp2)
  all_goals go_ret
  all_goals refine ⟨ret_i64 ?_, rfl⟩
  all_goals rw [← HC.out]
  all_goals first | (have z := nz ‹(p != 0) = true›; simp [orI, z]) | (have y := ze ‹(p != 0) = false›; have z := nz ‹(q != 0) = true›; simp [orI, y, z]) | (have y := ze ‹(p != 0) = false›; have x := ze ‹(q != 0) = false›; have z := nz ‹(r != 0) = true›; simp [orI, y, x]) | (have y := ze ‹(p != 0) = false›; have x := ze ‹(q != 0) = false›; have z := ze ‹(r != 0) = false›; simp [orI, y, x, z])
theorem cmp3_any (a b c x y z : Int) (g k : Nat) (w : World) (a0 : w.cell? ⟨g, 2, none⟩ = some (.int .u32 a)) (a1 : w.cell? ⟨g, 3, none⟩ = some (.int .u32 b)) (a2 : w.cell? ⟨g, 4, none⟩ = some (.int .u32 c))
    (b0 : w.cell? ⟨k, 2, none⟩ = some (.int .u32 x)) (b1 : w.cell? ⟨k, 3, none⟩ = some (.int .u32 y)) (b2 : w.cell? ⟨k, 4, none⟩ = some (.int .u32 z)) :
    Calls Tryz.prog 75 #[.slice (some ⟨g, 2, none⟩) 3 3, .slice (some ⟨k, 2, none⟩) 3 3] w fun e w' => e = .returned (.int .i64 (orI (cmpI a x) (orI (cmpI b y) (cmpI c z)))) ∧ w = w' := by
  generalize hp : cmpI a x = p
  generalize hq : cmpI b y = q
  generalize hr : cmpI c z = r
  have HP := Lib.hid hp
  have HQ := Lib.hid hq
  have HR := Lib.hid hr
  clear hp hq hr
  generalize hC : orI p (orI q r) = C
  have HC := Lib.hid hC
  clear hC
  go_enter Tryz.func75, Tryz.ntmps75
  go_wp2
  refine wp_loop_rounds 4 ?_
  rw [rounds_succ]
  go_wp2_with (go_at_call 74; refine (cmp_is _ _ HP.out _).mono ?_; rintro e w' ⟨rfl, rfl⟩)
  all_goals try (rw [rounds_succ]; go_wp2_with (go_at_call 74; refine (cmp_is _ _ HQ.out _).mono ?_; rintro e w' ⟨rfl, rfl⟩))
  all_goals try (rw [rounds_succ]; go_wp2_with (go_at_call 74; refine (cmp_is _ _ HR.out _).mono ?_; rintro e w' ⟨rfl, rfl⟩))
  all_goals try (rw [rounds_succ]; go_wp2)
  all_goals go_ret
  all_goals refine ⟨ret_i64 ?_, rfl⟩
  all_goals rw [← HC.out]
  all_goals first | (have z := nz ‹(p != 0) = true›; simp [orI, z]) | (have y := ze ‹(p != 0) = false›; have z := nz ‹(q != 0) = true›; simp [orI, y, z]) | (have y := ze ‹(p != 0) = false›; have x := ze ‹(q != 0) = false›; have z := nz ‹(r != 0) = true›; simp [orI, y, x]) | (have y := ze ‹(p != 0) = false›; have x := ze ‹(q != 0) = false›; have z := ze ‹(r != 0) = false›; simp [orI, y, x, z])
end Go.Proofs.YtmepiogoofmbbaaGreatDoor.stamp
namespace Go.Proofs.YtmepiogoofmbbaaGreatDoor.stamp
open Go.ChangeShapes Go.WideShapes Go.ChangeAt Go.RowKit
open Go.Proofs.YtmepiogoofmbbaaGreatDoor.tm Go.Proofs.YtmepiogoofmbbaaGreatDoor.opened Go.Proofs.YtmepiogoofmbbaaGreatDoor.block

theorem run_eq_yes (t : Tm) (w : World) : (binOp .eql 49 (.agg #[.int .u32 t.e, .int .i64 t.d, .int .u32 t.a, .int .u32 t.b, .int .u32 t.c]) (.agg #[.int .u32 t.e, .int .i64 t.d, .int .u32 t.a, .int .u32 t.b, .int .u32 t.c])).run Tryz.prog w = .ok (.bool true) w := by rw [run_eqT, eqT_self]
theorem run_eq_no {s t : Tm} (h : s ≠ t) (w : World) : (binOp .eql 49 (.agg #[.int .u32 s.e, .int .i64 s.d, .int .u32 s.a, .int .u32 s.b, .int .u32 s.c]) (.agg #[.int .u32 t.e, .int .i64 t.d, .int .u32 t.a, .int .u32 t.b, .int .u32 t.c])).run Tryz.prog w = .ok (.bool false) w := by rw [run_eqT, eqT_no h]
theorem compare_same (t : Tm) (_i : t.In) (w : World) : Calls Tryz.prog 59 #[.agg #[.int .u32 t.e, .int .i64 t.d, .int .u32 t.a, .int .u32 t.b, .int .u32 t.c], .agg #[.int .u32 t.e, .int .i64 t.d, .int .u32 t.a, .int .u32 t.b, .int .u32 t.c]] w fun e w' => e = .returned (.int .i64 0) ∧ Below w.heap.size w w' := by
  have he := run_eq_yes t
  go_enter Tryz.func59, Tryz.ntmps59
  go_wp2_with (fail)
  go_ret
  exact ⟨rfl, fresh2 _ _ _⟩
theorem or_new (p q r : Int) {W : World} {g : Nat} (hg : W.heap.size = g) :
    Calls Tryz.prog 72 #[.slice (some ⟨g, 0, none⟩) 3 3] ((W.alloc (.cells #[.int .i64 p, .int .i64 q, .int .i64 r] 3)).drew) fun e w' => e = .returned (.int .i64 (orI p (orI q r))) ∧ ((W.alloc (.cells #[.int .i64 p, .int .i64 q, .int .i64 r] 3)).drew) = w' := by
  subst hg
  have h := Whole.fresh W 3 #[.int .i64 p, .int .i64 q, .int .i64 r]
  exact or_any p q r W.heap.size _ (h.read 0) (h.read 1) (h.read 2)
set_option maxHeartbeats 1000000 in
theorem compare_rest (s t : Tm) (_i : s.In) (_j : t.In) (h : s ≠ t) (w : World) : Calls Tryz.prog 59 #[.agg #[.int .u32 s.e, .int .i64 s.d, .int .u32 s.a, .int .u32 s.b, .int .u32 s.c], .agg #[.int .u32 t.e, .int .i64 t.d, .int .u32 t.a, .int .u32 t.b, .int .u32 t.c]] w fun e w' => e = .returned (.int .i64 (cmpT s t)) ∧ Below w.heap.size w w' := by
  have he := run_eq_no h
  go_enter Tryz.func59, Tryz.ntmps59
  go_wp2_with (fail)
  clear he
  go_region_held3 (fun w' => w'.cell? ⟨w.heap.size, 0, none⟩ = some (.int .u32 s.e) ∧ w'.cell? ⟨w.heap.size, 1, none⟩ = some (.int .i64 s.d) ∧ w'.cell? ⟨w.heap.size, 2, none⟩ = some (.int .u32 s.a) ∧ w'.cell? ⟨w.heap.size, 3, none⟩ = some (.int .u32 s.b) ∧ w'.cell? ⟨w.heap.size, 4, none⟩ = some (.int .u32 s.c) ∧ w'.cell? ⟨w.heap.size + 1, 0, none⟩ = some (.int .u32 t.e) ∧ w'.cell? ⟨w.heap.size + 1, 1, none⟩ = some (.int .i64 t.d) ∧ w'.cell? ⟨w.heap.size + 1, 2, none⟩ = some (.int .u32 t.a) ∧ w'.cell? ⟨w.heap.size + 1, 3, none⟩ = some (.int .u32 t.b) ∧ w'.cell? ⟨w.heap.size + 1, 4, none⟩ = some (.int .u32 t.c))
    (go_keep)
    (first | (go_at_call 73; refine (cmp_i64 _ _ _).mono ?_; rintro e w' ⟨rfl, rfl⟩) | (go_at_call 74; refine (cmp_u32 _ _ _).mono ?_; rintro e w' ⟨rfl, rfl⟩) | (go_at_call 75; refine (cmp3_any s.a s.b s.c t.a t.b t.c _ _ _ ?_ ?_ ?_ ?_ ?_ ?_).mono ?_ <;> first | (rintro e w2 ⟨rfl, rfl⟩) | (go_split_ands; assumption)) | (go_at_call 72; refine (or_new _ _ _ ?_).mono ?_; (simp); rintro e w2 ⟨rfl, rfl⟩))
  all_goals go_wp2
  all_goals go_ret
  all_goals exact ⟨rfl, below_drewN ((fresh2 _ _ _).alloc (by simp; omega) _) 1⟩
theorem compare_any (s t : Tm) (i : s.In) (j : t.In) (w : World) : Calls Tryz.prog 59 #[.agg #[.int .u32 s.e, .int .i64 s.d, .int .u32 s.a, .int .u32 s.b, .int .u32 s.c], .agg #[.int .u32 t.e, .int .i64 t.d, .int .u32 t.a, .int .u32 t.b, .int .u32 t.c]] w fun e w' => e = .returned (.int .i64 (cmpT s t)) ∧ Below w.heap.size w w' := by
  by_cases h : s = t
  · subst h
    rw [cmpT_self]
    exact compare_same s i w
  · exact compare_rest s t i j h w
end Go.Proofs.YtmepiogoofmbbaaGreatDoor.stamp
namespace Go.Proofs.YtmepiogoofmbbaaGreatDoor.stamp
open Go.ChangeShapes Go.WideShapes Go.ChangeAt Go.RowKit
open Go.Proofs.YtmepiogoofmbbaaGreatDoor.tm Go.Proofs.YtmepiogoofmbbaaGreatDoor.opened Go.Proofs.YtmepiogoofmbbaaGreatDoor.block

theorem order_any (x y : Int) (w : World) : Calls Tryz.prog 66 #[.int .u32 x, .int .u32 y] w fun e w' => e = .returned (.int .i64 (cmpI x y)) ∧ w = w' := by
  by_cases h : x < y
  · rw [cmpI_lt h]
    go_enter Tryz.func66, Tryz.ntmps66
    go_wp2
    go_ret
    exact ⟨rfl, rfl⟩
  · by_cases k : y < x
    · rw [cmpI_gt k]
      go_enter Tryz.func66, Tryz.ntmps66
      go_wp2
      go_ret
      exact ⟨rfl, rfl⟩
    · obtain rfl : x = y := by omega
      rw [cmpI_self]
      clear h k
      go_enter Tryz.func66, Tryz.ntmps66
      go_wp2
      go_ret
      exact ⟨rfl, rfl⟩
theorem still_at {P : Program} {f : FuncId} {args : Array Value} {w : World} {a n : Nat} {v : Value} (h : ∀ W : World, Calls P f args W fun e w' => e = .returned v ∧ W = w') :
    Calls P f args (w.drewN (a + n)) fun e w' => e = .returned v ∧ ∃ m, w' = w.drewN (a + m) := (h _).mono fun _ _ ⟨he, hm⟩ => ⟨he, n, hm.symm⟩
theorem compareR_lt (s t : Tm) (_i : s.In) (_j : t.In) (h : s.d < t.d) (w : World) : Calls Tryz.prog 53 #[.agg #[.int .u32 s.e, .int .i64 s.d, .int .u32 s.a, .int .u32 s.b, .int .u32 s.c], .agg #[.int .u32 t.e, .int .i64 t.d, .int .u32 t.a, .int .u32 t.b, .int .u32 t.c]] w fun e w' => e = .returned (.int .i64 (-1)) ∧ Below w.heap.size w w' := by
  go_enter Tryz.func53, Tryz.ntmps53
  go_wp2
  go_ret
  exact ⟨rfl, fresh2 _ _ _⟩
theorem compareR_gt (s t : Tm) (_i : s.In) (_j : t.In) (h : t.d < s.d) (w : World) : Calls Tryz.prog 53 #[.agg #[.int .u32 s.e, .int .i64 s.d, .int .u32 s.a, .int .u32 s.b, .int .u32 s.c], .agg #[.int .u32 t.e, .int .i64 t.d, .int .u32 t.a, .int .u32 t.b, .int .u32 t.c]] w fun e w' => e = .returned (.int .i64 1) ∧ Below w.heap.size w w' := by
  go_enter Tryz.func53, Tryz.ntmps53
  go_wp2
  go_ret
  exact ⟨rfl, fresh2 _ _ _⟩
theorem compareR_e (s t : Tm) (_i : s.In) (_j : t.In) (h : s.d = t.d) (he : s.e ≠ t.e) (w : World) : Calls Tryz.prog 53 #[.agg #[.int .u32 s.e, .int .i64 s.d, .int .u32 s.a, .int .u32 s.b, .int .u32 s.c], .agg #[.int .u32 t.e, .int .i64 t.d, .int .u32 t.a, .int .u32 t.b, .int .u32 t.c]] w fun e w' => e = .returned (.int .i64 (cmpI s.e t.e)) ∧ Below w.heap.size w w' := by
  obtain ⟨se, sd, sa, sb, sc⟩ := s
  obtain ⟨te, td, ta, tb, tc⟩ := t
  dsimp only at *
  subst h
  have he' : (se != te) = true := by simpa using he
  clear he
  go_enter Tryz.func53, Tryz.ntmps53
  go_wp2_with (go_at_call 66; refine (order_any _ _ _).mono ?_; rintro e w' ⟨rfl, rfl⟩)
  go_ret
  exact ⟨rfl, fresh2 _ _ _⟩
theorem compareR_a (s t : Tm) (_i : s.In) (_j : t.In) (h : s.d = t.d) (he : s.e = t.e) (ha : s.a ≠ t.a) (w : World) : Calls Tryz.prog 53 #[.agg #[.int .u32 s.e, .int .i64 s.d, .int .u32 s.a, .int .u32 s.b, .int .u32 s.c], .agg #[.int .u32 t.e, .int .i64 t.d, .int .u32 t.a, .int .u32 t.b, .int .u32 t.c]] w fun e w' => e = .returned (.int .i64 (cmpI s.a t.a)) ∧ Below w.heap.size w w' := by
  obtain ⟨se, sd, sa, sb, sc⟩ := s
  obtain ⟨te, td, ta, tb, tc⟩ := t
  dsimp only at *
  subst h he
  have ha' : (sa != ta) = true := by simpa using ha
  clear ha
  go_enter Tryz.func53, Tryz.ntmps53
  go_wp2
  refine wp_loop_rounds 4 ?_
  rw [rounds_succ]
  go_wp2
  go_quiet (fail)
  go_wp2
  go_quiet ((go_at_call 66; exact still_at (order_any _ _)))
  go_wp2
  go_ret
  exact ⟨rfl, by repeat (first | exact fresh2 _ _ _ | apply below_drewN)⟩
theorem compareR_b (s t : Tm) (_i : s.In) (_j : t.In) (h : s.d = t.d) (he : s.e = t.e) (ha : s.a = t.a) (hb : s.b ≠ t.b) (w : World) : Calls Tryz.prog 53 #[.agg #[.int .u32 s.e, .int .i64 s.d, .int .u32 s.a, .int .u32 s.b, .int .u32 s.c], .agg #[.int .u32 t.e, .int .i64 t.d, .int .u32 t.a, .int .u32 t.b, .int .u32 t.c]] w fun e w' => e = .returned (.int .i64 (cmpI s.b t.b)) ∧ Below w.heap.size w w' := by
  obtain ⟨se, sd, sa, sb, sc⟩ := s
  obtain ⟨te, td, ta, tb, tc⟩ := t
  dsimp only at *
  subst h he
  subst ha
  have hb' : (sb != tb) = true := by simpa using hb
  clear hb
  go_enter Tryz.func53, Tryz.ntmps53
  go_wp2
  refine wp_loop_rounds 4 ?_
  rw [rounds_succ]
  go_wp2
  go_quiet (fail)
  go_wp2
  rw [rounds_succ]
  go_wp2
  go_quiet (fail)
  go_wp2
  go_quiet ((go_at_call 66; exact still_at (order_any _ _)))
  go_wp2
  go_ret
  exact ⟨rfl, by repeat (first | exact fresh2 _ _ _ | apply below_drewN)⟩
theorem compareR_c (s t : Tm) (_i : s.In) (_j : t.In) (h : s.d = t.d) (he : s.e = t.e) (ha : s.a = t.a) (hb : s.b = t.b) (hc : s.c ≠ t.c) (w : World) : Calls Tryz.prog 53 #[.agg #[.int .u32 s.e, .int .i64 s.d, .int .u32 s.a, .int .u32 s.b, .int .u32 s.c], .agg #[.int .u32 t.e, .int .i64 t.d, .int .u32 t.a, .int .u32 t.b, .int .u32 t.c]] w fun e w' => e = .returned (.int .i64 (cmpI s.c t.c)) ∧ Below w.heap.size w w' := by
  obtain ⟨se, sd, sa, sb, sc⟩ := s
  obtain ⟨te, td, ta, tb, tc⟩ := t
  dsimp only at *
  subst h he
  subst ha hb
  have hc' : (sc != tc) = true := by simpa using hc
  clear hc
  go_enter Tryz.func53, Tryz.ntmps53
  go_wp2
  refine wp_loop_rounds 4 ?_
  rw [rounds_succ]
  go_wp2
  go_quiet (fail)
  go_wp2
  rw [rounds_succ]
  go_wp2
  go_quiet (fail)
  go_wp2
  rw [rounds_succ]
  go_wp2
  go_quiet (fail)
  go_wp2
  go_quiet ((go_at_call 66; exact still_at (order_any _ _)))
  go_wp2
  go_ret
  exact ⟨rfl, by repeat (first | exact fresh2 _ _ _ | apply below_drewN)⟩
theorem compareR_o (s t : Tm) (_i : s.In) (_j : t.In) (h : s.d = t.d) (he : s.e = t.e) (ha : s.a = t.a) (hb : s.b = t.b) (hc : s.c = t.c) (w : World) : Calls Tryz.prog 53 #[.agg #[.int .u32 s.e, .int .i64 s.d, .int .u32 s.a, .int .u32 s.b, .int .u32 s.c], .agg #[.int .u32 t.e, .int .i64 t.d, .int .u32 t.a, .int .u32 t.b, .int .u32 t.c]] w fun e w' => e = .returned (.int .i64 (0)) ∧ Below w.heap.size w w' := by
  obtain ⟨se, sd, sa, sb, sc⟩ := s
  obtain ⟨te, td, ta, tb, tc⟩ := t
  dsimp only at *
  subst h he
  subst ha hb hc
  go_enter Tryz.func53, Tryz.ntmps53
  go_wp2
  refine wp_loop_rounds 4 ?_
  rw [rounds_succ]
  go_wp2
  go_quiet (fail)
  go_wp2
  rw [rounds_succ]
  go_wp2
  go_quiet (fail)
  go_wp2
  rw [rounds_succ]
  go_wp2
  go_quiet (fail)
  go_wp2
  rw [rounds_succ]
  go_wp2
  go_ret
  exact ⟨rfl, by repeat (first | exact fresh2 _ _ _ | apply below_drewN)⟩
theorem compareR_any (s t : Tm) (i : s.In) (j : t.In) (w : World) : Calls Tryz.prog 53 #[.agg #[.int .u32 s.e, .int .i64 s.d, .int .u32 s.a, .int .u32 s.b, .int .u32 s.c], .agg #[.int .u32 t.e, .int .i64 t.d, .int .u32 t.a, .int .u32 t.b, .int .u32 t.c]] w fun e w' => e = .returned (.int .i64 (cmpT s t)) ∧ Below w.heap.size w w' := by
  by_cases h1 : s.d < t.d
  · rw [show cmpT s t = -1 by simp [cmpT, cmpI_lt h1, orI]]
    exact compareR_lt s t i j h1 w
  · by_cases h2 : t.d < s.d
    · rw [show cmpT s t = 1 by simp [cmpT, cmpI_gt h2, orI]]
      exact compareR_gt s t i j h2 w
    · have h : s.d = t.d := by omega
      by_cases he : s.e = t.e
      · by_cases ha : s.a = t.a
        · by_cases hb : s.b = t.b
          · by_cases hc : s.c = t.c
            · rw [show cmpT s t = 0 by simp [cmpT, h, he, ha, hb, hc, cmpI_self, orI]]
              exact compareR_o s t i j h he ha hb hc w
            · rw [show cmpT s t = cmpI s.c t.c by simp [cmpT, h, he, ha, hb, cmpI_self, orI]]
              exact compareR_c s t i j h he ha hb hc w
          · rw [show cmpT s t = cmpI s.b t.b by simp [cmpT, h, he, ha, cmpI_self, cmpI_ne hb, orI]]
            exact compareR_b s t i j h he ha hb w
        · rw [show cmpT s t = cmpI s.a t.a by simp [cmpT, h, he, cmpI_self, cmpI_ne ha, orI]]
          exact compareR_a s t i j h he ha w
      · rw [show cmpT s t = cmpI s.e t.e by simp [cmpT, h, cmpI_self, cmpI_ne he, orI]]
        exact compareR_e s t i j h he w
end Go.Proofs.YtmepiogoofmbbaaGreatDoor.stamp
