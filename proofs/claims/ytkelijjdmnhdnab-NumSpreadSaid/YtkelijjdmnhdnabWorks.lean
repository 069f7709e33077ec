/-
  The contracts at the constants of works(), and of works itself: it returns true. No condition.
-/
import Derived.Test.YtkelijjdmnhdnabNum
namespace Go.Proofs.Ytkelijjdmnhdnab.num
open Go.ChangeShapes Go.WideShapes Go.ChangeAt Go.RowKit
theorem add_34 (w : World) : Calls Try.prog 7 #[.int .u32 3, .int .u32 4] w fun e w' => e = .returned (.tuple #[.int .u32 7, .int .i64 0]) ∧ w = w' :=
  add_any 3 4 (by omega) (by omega) (by omega) (by omega) w
theorem add_m1 (w : World) : Calls Try.prog 7 #[.int .u32 1048576, .int .u32 1] w fun e w' => e = .returned (.tuple #[.int .u32 0, .int .i64 9]) ∧ w = w' :=
  add_any 1048576 1 (by omega) (by omega) (by omega) (by omega) w
theorem sub_34 (w : World) : Calls Try.prog 8 #[.int .u32 3, .int .u32 4] w fun e w' => e = .returned (.tuple #[.int .u32 0, .int .i64 9]) ∧ w = w' :=
  sub_any 3 4 (by omega) (by omega) (by omega) (by omega) w
theorem ceil_73 (w : World) : Calls Try.prog 9 #[.int .i64 7, .int .i64 3] w fun e w' => e = .returned (.tuple #[.int .i64 3, .int .i64 0]) ∧ w = w' :=
  ceil_any 7 3 (by omega) (by omega) (by omega) (by omega) w
theorem floor_73 (w : World) : Calls Try.prog 10 #[.int .i64 (-7), .int .i64 3] w fun e w' => e = .returned (.tuple #[.int .i64 (-3), .int .i64 2, .int .i64 0]) ∧ Grown w w' :=
  floor_any (-7) 3 (by omega) (by omega) (by omega) w
theorem mixV_1 : mixV 1 = 3389036311 := by decide +kernel
theorem mixV_2 : mixV 2 = 1815234515 := by decide +kernel
theorem mix_1 (w : World) : Calls Try.prog 6 #[.int .i64 1] w fun e w' => e = .returned (.int .u32 3389036311) ∧ w = w' := by
  have h := mix_any 1 w
  rw [mixV_1] at h
  exact h
theorem mix_2 (w : World) : Calls Try.prog 6 #[.int .i64 2] w fun e w' => e = .returned (.int .u32 1815234515) ∧ w = w' := by
  have h := mix_any 2 w
  rw [mixV_2] at h
  exact h
theorem part_99 (w : World) : Calls Try.prog 5 #[.int .i64 99, .int .i64 1] w fun e w' => e = .returned (.tuple #[.int .i64 0, .int .i64 0]) ∧ w = w' := by
  have h := part_any 99 1 w
  have e : partV 99 1 = 0 := by simp [partV]
  rw [e] at h
  exact h
theorem works_any (w : World) : Calls Try.prog 4 #[] w fun e w' => e = .returned (.bool true) ∧ Grown w w' := by
  go_enter Try.func4, Try.ntmps4
  go_wp2_with fail
  refine (add_34 _).mono ?_
  rintro e w' ⟨rfl, rfl⟩
  go_wp2_with fail
  refine (add_m1 _).mono ?_
  rintro e w' ⟨rfl, rfl⟩
  go_wp2_with fail
  refine (sub_34 _).mono ?_
  rintro e w' ⟨rfl, rfl⟩
  go_wp2_with fail
  refine (ceil_73 _).mono ?_
  rintro e w' ⟨rfl, rfl⟩
  go_wp2_with fail
  refine (floor_73 _).mono ?_
  rintro e w1 ⟨rfl, g1⟩
  go_wp2_with fail
  refine (part_99 _).mono ?_
  rintro e w' ⟨rfl, rfl⟩
  go_wp2_with fail
  refine (mix_1 _).mono ?_
  rintro e w' ⟨rfl, rfl⟩
  go_wp2_with fail
  refine (mix_2 _).mono ?_
  rintro e w' ⟨rfl, rfl⟩
  go_wp2_with fail
  go_ret
  exact ⟨rfl, g1⟩
end Go.Proofs.Ytkelijjdmnhdnab.num
