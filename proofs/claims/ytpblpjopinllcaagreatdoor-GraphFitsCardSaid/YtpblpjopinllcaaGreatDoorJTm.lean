/-
  Plain: times, what is wrong with one, and how they stand.
  The contracts of stamp.Check and of watershedref04.Check, at any time.
-/
import Derived.Test.YtpblpjopinllcaaGreatDoorRows
import Derived.WalkKit
import Derived.ProofKit
import Derived.OpenShut
import Derived.Lib.Hide
import Derived.Handy
import Derived.LoopN
import Derived.Test.YtpblpjopinllcaaGreatDoorJOpen
import Derived.Test.YtpblpjopinllcaaGreatDoorJBlock
namespace Go.Proofs.YtpblpjopinllcaaGreatDoor.tm

/-- A time: the epoch, the depth, the rounds. -/
structure Tm where
  e : Int
  d : Int
  a : Int
  b : Int
  c : Int
deriving DecidableEq
/-- Each number is one that its kind can hold. -/
structure Tm.In (t : Tm) : Prop where
  e0 : 0 ≤ t.e
  e1 : t.e ≤ 4294967295
  d0 : -9223372036854775808 ≤ t.d
  d1 : t.d ≤ 9223372036854775807
  a0 : 0 ≤ t.a
  a1 : t.a ≤ 4294967295
  b0 : 0 ≤ t.b
  b1 : t.b ≤ 4294967295
  c0 : 0 ≤ t.c
  c1 : t.c ≤ 4294967295
def zeroT (d : Int) : Tm := ⟨0, d, 0, 0, 0⟩
/-- What Check tells. -/
def chk (t : Tm) : Int :=
  if t.d < 0 ∨ 3 < t.d then 10
  else if 1048576 < t.e ∨ 1048576 < t.a ∨ 1048576 < t.b ∨ 1048576 < t.c then 1
  else if (t.d ≤ 0 ∧ t.a ≠ 0) ∨ (t.d ≤ 1 ∧ t.b ≠ 0) ∨ (t.d ≤ 2 ∧ t.c ≠ 0) then 6
  else 0
theorem chk_depth {t : Tm} (h : t.d < 0 ∨ 3 < t.d) : chk t = 10 := by unfold chk; rw [if_pos h]
theorem chk_range {t : Tm} (h : ¬ (t.d < 0 ∨ 3 < t.d)) (k : 1048576 < t.e ∨ 1048576 < t.a ∨ 1048576 < t.b ∨ 1048576 < t.c) : chk t = 1 := by unfold chk; rw [if_neg h, if_pos k]
theorem chk_field {t : Tm} (h : ¬ (t.d < 0 ∨ 3 < t.d)) (k : ¬ (1048576 < t.e ∨ 1048576 < t.a ∨ 1048576 < t.b ∨ 1048576 < t.c))
    (z : (t.d ≤ 0 ∧ t.a ≠ 0) ∨ (t.d ≤ 1 ∧ t.b ≠ 0) ∨ (t.d ≤ 2 ∧ t.c ≠ 0)) : chk t = 6 := by unfold chk; rw [if_neg h, if_neg k, if_pos z]
theorem chk_ok {t : Tm} (h : ¬ (t.d < 0 ∨ 3 < t.d)) (k : ¬ (1048576 < t.e ∨ 1048576 < t.a ∨ 1048576 < t.b ∨ 1048576 < t.c))
    (z : ¬ ((t.d ≤ 0 ∧ t.a ≠ 0) ∨ (t.d ≤ 1 ∧ t.b ≠ 0) ∨ (t.d ≤ 2 ∧ t.c ≠ 0))) : chk t = 0 := by unfold chk; rw [if_neg h, if_neg k, if_neg z]
theorem chk_cases (t : Tm) : chk t = 0 ∨ chk t = 1 ∨ chk t = 6 ∨ chk t = 10 := by
  unfold chk
  split
  · simp
  · split
    · simp
    · split <;> simp
/-- Is a time not behind another one? -/
def leB (s t : Tm) : Bool := decide (s.d = t.d ∧ 0 ≤ s.d ∧ s.d ≤ 3 ∧ s.e ≤ t.e ∧ (1 ≤ s.d → s.a ≤ t.a) ∧ (2 ≤ s.d → s.b ≤ t.b) ∧ (3 ≤ s.d → s.c ≤ t.c))
theorem leB_yes {s t : Tm} (h : s.d = t.d ∧ 0 ≤ s.d ∧ s.d ≤ 3 ∧ s.e ≤ t.e ∧ (1 ≤ s.d → s.a ≤ t.a) ∧ (2 ≤ s.d → s.b ≤ t.b) ∧ (3 ≤ s.d → s.c ≤ t.c)) : leB s t = true := by unfold leB; exact decide_eq_true h
theorem leB_no {s t : Tm} (h : ¬ (s.d = t.d ∧ 0 ≤ s.d ∧ s.d ≤ 3 ∧ s.e ≤ t.e ∧ (1 ≤ s.d → s.a ≤ t.a) ∧ (2 ≤ s.d → s.b ≤ t.b) ∧ (3 ≤ s.d → s.c ≤ t.c))) : leB s t = false := by unfold leB; exact decide_eq_false h
theorem leB_iff {s t : Tm} : leB s t = true ↔ (s.d = t.d ∧ 0 ≤ s.d ∧ s.d ≤ 3 ∧ s.e ≤ t.e ∧ (1 ≤ s.d → s.a ≤ t.a) ∧ (2 ≤ s.d → s.b ≤ t.b) ∧ (3 ≤ s.d → s.c ≤ t.c)) := by unfold leB; exact decide_eq_true_iff
/-- What Compare answers of two numbers. -/
def cmpI (x y : Int) : Int := if x < y then -1 else if y < x then 1 else 0
/-- The first of two answers, if it is not nought, and else the second. -/
def orI (x y : Int) : Int := if x = 0 then y else x
/-- The total order of times. -/
def cmpT (s t : Tm) : Int := orI (cmpI s.d t.d) (orI (cmpI s.e t.e) (orI (cmpI s.a t.a) (orI (cmpI s.b t.b) (cmpI s.c t.c))))
theorem cmpI_self (x : Int) : cmpI x x = 0 := by simp [cmpI]
theorem cmpI_ne {x y : Int} (h : x ≠ y) : cmpI x y ≠ 0 := by
  unfold cmpI
  split
  · omega
  · split
    · omega
    · omega
theorem cmpI_lt {x y : Int} (h : x < y) : cmpI x y = -1 := by simp [cmpI, h]
theorem cmpI_gt {x y : Int} (h : y < x) : cmpI x y = 1 := by
  have : ¬ x < y := by omega
  simp [cmpI, h, this]
theorem cmpT_self (t : Tm) : cmpT t t = 0 := by simp [cmpT, cmpI_self, orI]
/-- Are two times one? -/
def eqT (s t : Tm) : Bool := decide (s = t)
theorem eqT_self (t : Tm) : eqT t t = true := by simp [eqT]
theorem eqT_iff {s t : Tm} : eqT s t = true ↔ s = t := by simp [eqT]
theorem eqT_no {s t : Tm} (h : s ≠ t) : eqT s t = false := by simp [eqT, h]
def T0 : Tm := ⟨0, 0, 0, 0, 0⟩
/-- What is asked of one that is within a loop. -/
def inn (t : Tm) : Int := if chk t = 0 then (if t.d = 0 then 10 else 0) else chk t
/-- What is asked of two. -/
def both (s t : Tm) : Int := if chk s = 0 then (if chk t = 0 then (if s.d = t.d then 0 else 10) else chk t) else chk s
def zeroV (d : Int) : Tm := if d < 0 ∨ 3 < d then T0 else ⟨0, d, 0, 0, 0⟩
def zeroE (d : Int) : Int := if d < 0 ∨ 3 < d then 10 else 0
def enterV (t : Tm) : Tm := if chk t = 0 then (if t.d = 3 then T0 else ⟨t.e, t.d + 1, t.a, t.b, t.c⟩) else T0
def enterE (t : Tm) : Int := if chk t = 0 then (if t.d = 3 then 10 else 0) else chk t
def dropT (t : Tm) : Tm := ⟨t.e, t.d - 1, if t.d = 1 then 0 else t.a, if t.d = 2 then 0 else t.b, if t.d = 3 then 0 else t.c⟩
def leaveV (t : Tm) : Tm := if inn t = 0 then dropT t else T0
def lastT (t : Tm) : Int := if t.d = 1 then t.a else if t.d = 2 then t.b else t.c
def bumpT (t : Tm) : Tm := ⟨t.e, t.d, if t.d = 1 then t.a + 1 else t.a, if t.d = 2 then t.b + 1 else t.b, if t.d = 3 then t.c + 1 else t.c⟩
def nextV (t : Tm) : Tm := if inn t = 0 then (if lastT t = 1048576 then T0 else bumpT t) else T0
def nextE (t : Tm) : Int := if inn t = 0 then (if lastT t = 1048576 then 9 else 0) else inn t
def laterV (t : Tm) (n : Int) : Tm := if chk t = 0 then (if 1048576 < n then T0 else if 1048576 < t.e + n then T0 else ⟨t.e + n, t.d, t.a, t.b, t.c⟩) else T0
def laterE (t : Tm) (n : Int) : Int := if chk t = 0 then (if 1048576 < n then 1 else if 1048576 < t.e + n then 9 else 0) else chk t
def maxI (x y : Int) : Int := if y > x then y else x
def minI (x y : Int) : Int := if y < x then y else x
def joinV (s t : Tm) : Tm := if both s t = 0 then ⟨maxI s.e t.e, s.d, maxI s.a t.a, maxI s.b t.b, maxI s.c t.c⟩ else T0
def meetV (s t : Tm) : Tm := if both s t = 0 then ⟨minI s.e t.e, s.d, minI s.a t.a, minI s.b t.b, minI s.c t.c⟩ else T0

/-- A time is one, if nothing is wrong with it. -/
theorem chk_zero {t : Tm} (h : chk t = 0) : 0 ≤ t.d ∧ t.d ≤ 3 ∧ t.e ≤ 1048576 ∧ t.a ≤ 1048576 ∧ t.b ≤ 1048576 ∧ t.c ≤ 1048576 ∧ (t.d ≤ 0 → t.a = 0) ∧ (t.d ≤ 1 → t.b = 0) ∧ (t.d ≤ 2 → t.c = 0) := by
  unfold chk at h
  split at h
  · omega
  · split at h
    · omega
    · split at h
      · omega
      · omega
theorem inn_zero {t : Tm} (h : inn t = 0) : chk t = 0 ∧ t.d ≠ 0 := by
  unfold inn at h
  split at h
  · split at h
    · omega
    · exact ⟨by assumption, by assumption⟩
  · omega
theorem both_zero {s t : Tm} (h : both s t = 0) : chk s = 0 ∧ chk t = 0 ∧ s.d = t.d := by
  unfold both at h
  split at h
  · split at h
    · split at h
      · exact ⟨by assumption, by assumption, by assumption⟩
      · omega
    · omega
  · omega
end Go.Proofs.YtpblpjopinllcaaGreatDoor.tm
namespace Go.Proofs.YtpblpjopinllcaaGreatDoor.stamp
open Go.ChangeShapes Go.WideShapes Go.ChangeAt Go.RowKit
open Go.Proofs.YtpblpjopinllcaaGreatDoor.tm Go.Proofs.YtpblpjopinllcaaGreatDoor.opened Go.Proofs.YtpblpjopinllcaaGreatDoor.block

theorem ret_i64 {a b : Int} (h : a = b) : Ending.returned (.int .i64 a) = .returned (.int .i64 b) := by rw [h]
theorem isCount_yes (a : Int) (h : a ≤ 1048576) (w : World) : Calls Tryz.prog 167 #[.int .u32 a] w fun e w' => e = .returned (.bool true) ∧ w = w' := by
  go_enter Tryz.func167, Tryz.ntmps167
  go_wp2
  go_ret
  exact ⟨rfl, rfl⟩
theorem isCount_no (a : Int) (h : ¬ a ≤ 1048576) (w : World) : Calls Tryz.prog 167 #[.int .u32 a] w fun e w' => e = .returned (.bool false) ∧ w = w' := by
  have h' : decide (a ≤ 1048576) = false := by simpa using h
  go_enter Tryz.func167, Tryz.ntmps167
  go_wp2
  go_ret
  exact ⟨rfl, rfl⟩
theorem isDepth_yes (d : Int) (h0 : 0 ≤ d) (h1 : d ≤ 3) (w : World) : Calls Tryz.prog 123 #[.int .i64 d] w fun e w' => e = .returned (.bool true) ∧ w = w' := by
  go_enter Tryz.func123, Tryz.ntmps123
  go_wp2
  go_ret
  exact ⟨rfl, rfl⟩
theorem isDepth_no (d : Int) (h : d < 0 ∨ 3 < d) (w : World) : Calls Tryz.prog 123 #[.int .i64 d] w fun e w' => e = .returned (.bool false) ∧ w = w' := by
  by_cases h0 : 0 ≤ d
  · have h1 : decide (d ≤ 3) = false := by simp; omega
    clear h
    go_enter Tryz.func123, Tryz.ntmps123
    go_wp2
    go_ret
    exact ⟨rfl, rfl⟩
  · have h1 : decide (0 ≤ d) = false := by simpa using h0
    clear h
    go_enter Tryz.func123, Tryz.ntmps123
    go_wp2
    go_ret
    exact ⟨rfl, rfl⟩

theorem ixA (x y z : Int) : ∀ w, (Instr.index 51 (.agg #[.int .u32 x, .int .u32 y, .int .u32 z]) (.int .i64 0)).run Tryz.prog w = .ok (.int .u32 x) w := fun _ => by kernel_rfl
theorem ixB (x y z : Int) : ∀ w, (Instr.index 51 (.agg #[.int .u32 x, .int .u32 y, .int .u32 z]) (.int .i64 1)).run Tryz.prog w = .ok (.int .u32 y) w := fun _ => by kernel_rfl
theorem ixC (x y z : Int) : ∀ w, (Instr.index 51 (.agg #[.int .u32 x, .int .u32 y, .int .u32 z]) (.int .i64 2)).run Tryz.prog w = .ok (.int .u32 z) w := fun _ => by kernel_rfl
theorem fresh1 (w : World) (o : Obj) : Below w.heap.size w (w.alloc o) := (Below.refl _ _).alloc (Nat.le_refl _) _
theorem nz {x : Int} (h : (x != 0) = true) : x ≠ 0 := by simpa using h
theorem ze {x : Int} (h : (x != 0) = false) : x = 0 := by simpa using h
theorem check_depth (t : Tm) (_i : t.In) (h : t.d < 0 ∨ 3 < t.d) (w : World) : Calls Tryz.prog 103 #[.agg #[.int .u32 t.e, .int .i64 t.d, .int .u32 t.a, .int .u32 t.b, .int .u32 t.c]] w fun e w' => e = .returned (.int .i64 10) ∧ Below w.heap.size w w' := by
  go_enter Tryz.func103, Tryz.ntmps103
  go_wp2_with (go_at_call 123; refine (isDepth_no _ h _).mono ?_; rintro e w' ⟨rfl, rfl⟩)
  go_ret
  exact ⟨rfl, fresh1 _ _⟩
theorem check_range (t : Tm) (_i : t.In) (h0 : 0 ≤ t.d) (h1 : t.d ≤ 3) (h : 1048576 < t.e ∨ 1048576 < t.a ∨ 1048576 < t.b ∨ 1048576 < t.c) (w : World) : Calls Tryz.prog 103 #[.agg #[.int .u32 t.e, .int .i64 t.d, .int .u32 t.a, .int .u32 t.b, .int .u32 t.c]] w fun e w' => e = .returned (.int .i64 1) ∧ Below w.heap.size w w' := by
  have x0 := ixA t.a t.b t.c
  have x1 := ixB t.a t.b t.c
  have x2 := ixC t.a t.b t.c
  by_cases he : t.e ≤ 1048576
  · by_cases ha : t.a ≤ 1048576
    · by_cases hb : t.b ≤ 1048576
      · have hc : 1048576 < t.c := by omega
        clear h
        go_enter Tryz.func103, Tryz.ntmps103
        go_wp2_with (first | (go_at_call 123; refine (isDepth_yes _ h0 h1 _).mono ?_; rintro e w' ⟨rfl, rfl⟩) | (go_at_call 167; refine (isCount_yes _ (by omega) _).mono ?_; rintro e w' ⟨rfl, rfl⟩))
        refine wp_loop_rounds 3 ?_
        rw [rounds_succ]
        go_wp2_with (first | (go_at_call 167; refine (isCount_yes _ (by omega) _).mono ?_; rintro e w' ⟨rfl, rfl⟩))
        rw [rounds_succ]
        go_wp2_with (first | (go_at_call 167; refine (isCount_yes _ (by omega) _).mono ?_; rintro e w' ⟨rfl, rfl⟩))
        rw [rounds_succ]
        go_wp2_with (first | (go_at_call 167; refine (isCount_no _ (by omega) _).mono ?_; rintro e w' ⟨rfl, rfl⟩))
        go_ret
        exact ⟨rfl, fresh1 _ _⟩
      · clear h
        go_enter Tryz.func103, Tryz.ntmps103
        go_wp2_with (first | (go_at_call 123; refine (isDepth_yes _ h0 h1 _).mono ?_; rintro e w' ⟨rfl, rfl⟩) | (go_at_call 167; refine (isCount_yes _ (by omega) _).mono ?_; rintro e w' ⟨rfl, rfl⟩))
        refine wp_loop_rounds 3 ?_
        rw [rounds_succ]
        go_wp2_with (first | (go_at_call 167; refine (isCount_yes _ (by omega) _).mono ?_; rintro e w' ⟨rfl, rfl⟩))
        rw [rounds_succ]
        go_wp2_with (first | (go_at_call 167; refine (isCount_no _ (by omega) _).mono ?_; rintro e w' ⟨rfl, rfl⟩))
        go_ret
        exact ⟨rfl, fresh1 _ _⟩
    · clear h
      go_enter Tryz.func103, Tryz.ntmps103
      go_wp2_with (first | (go_at_call 123; refine (isDepth_yes _ h0 h1 _).mono ?_; rintro e w' ⟨rfl, rfl⟩) | (go_at_call 167; refine (isCount_yes _ (by omega) _).mono ?_; rintro e w' ⟨rfl, rfl⟩))
      refine wp_loop_rounds 3 ?_
      rw [rounds_succ]
      go_wp2_with (first | (go_at_call 167; refine (isCount_no _ (by omega) _).mono ?_; rintro e w' ⟨rfl, rfl⟩))
      go_ret
      exact ⟨rfl, fresh1 _ _⟩
  · clear h
    go_enter Tryz.func103, Tryz.ntmps103
    go_wp2_with (first | (go_at_call 123; refine (isDepth_yes _ h0 h1 _).mono ?_; rintro e w' ⟨rfl, rfl⟩) | (go_at_call 167; refine (isCount_no _ (by omega) _).mono ?_; rintro e w' ⟨rfl, rfl⟩))
    go_ret
    exact ⟨rfl, fresh1 _ _⟩
theorem check_rest (t : Tm) (_i : t.In) (h0 : 0 ≤ t.d) (h1 : t.d ≤ 3) (he : t.e ≤ 1048576) (ha : t.a ≤ 1048576) (hb : t.b ≤ 1048576) (hc : t.c ≤ 1048576) (w : World) :
    Calls Tryz.prog 103 #[.agg #[.int .u32 t.e, .int .i64 t.d, .int .u32 t.a, .int .u32 t.b, .int .u32 t.c]] w fun e w' => e = .returned (.int .i64 (chk t)) ∧ Below w.heap.size w w' := by
  have x0 := ixA t.a t.b t.c
  have x1 := ixB t.a t.b t.c
  have x2 := ixC t.a t.b t.c
  have hd : t.d = 0 ∨ t.d = 1 ∨ t.d = 2 ∨ t.d = 3 := by omega
  generalize hC : chk t = C
  have HC := Lib.hid hC
  clear hC
  obtain ⟨e, d, a, b, c⟩ := t
  dsimp only at *
  rcases hd with rfl | rfl | rfl | rfl
  all_goals go_enter Tryz.func103, Tryz.ntmps103
  all_goals go_wp2_with (first | (go_at_call 123; refine (isDepth_yes _ h0 h1 _).mono ?_; rintro e w' ⟨rfl, rfl⟩) | (go_at_call 167; refine (isCount_yes _ (by omega) _).mono ?_; rintro e w' ⟨rfl, rfl⟩))
  all_goals refine wp_loop_rounds 4 ?_
  all_goals rw [rounds_succ]
  all_goals go_wp2_with (first | (go_at_call 167; refine (isCount_yes _ (by omega) _).mono ?_; rintro e w' ⟨rfl, rfl⟩))
  all_goals rw [rounds_succ]
  all_goals go_wp2_with (first | (go_at_call 167; refine (isCount_yes _ (by omega) _).mono ?_; rintro e w' ⟨rfl, rfl⟩))
  all_goals rw [rounds_succ]
  all_goals go_wp2_with (first | (go_at_call 167; refine (isCount_yes _ (by omega) _).mono ?_; rintro e w' ⟨rfl, rfl⟩))
  all_goals rw [rounds_succ]
  all_goals go_wp2
  all_goals refine wp_loop_rounds 4 ?_
  all_goals rw [rounds_succ]
  all_goals go_wp2
  all_goals try (rw [rounds_succ]; go_wp2)
  all_goals try (rw [rounds_succ]; go_wp2)
  all_goals try (rw [rounds_succ]; go_wp2)
  all_goals go_ret
  all_goals refine ⟨ret_i64 ?_, fresh1 _ _⟩
  all_goals rw [← HC.out]
  all_goals first | (have z := nz ‹(a != 0) = true›; rw [chk_field] <;> simp only <;> omega) | (have z := nz ‹(b != 0) = true›; rw [chk_field] <;> simp only <;> omega) | (have z := nz ‹(c != 0) = true›; rw [chk_field] <;> simp only <;> omega) | (have z := ze ‹(a != 0) = false›; have y := ze ‹(b != 0) = false›; have x := ze ‹(c != 0) = false›; rw [chk_ok] <;> simp only <;> omega) | (have y := ze ‹(b != 0) = false›; have x := ze ‹(c != 0) = false›; rw [chk_ok] <;> simp only <;> omega) | (have x := ze ‹(c != 0) = false›; rw [chk_ok] <;> simp only <;> omega) | (rw [chk_ok] <;> simp only <;> omega)
theorem check_any (t : Tm) (i : t.In) (w : World) : Calls Tryz.prog 103 #[.agg #[.int .u32 t.e, .int .i64 t.d, .int .u32 t.a, .int .u32 t.b, .int .u32 t.c]] w fun e w' => e = .returned (.int .i64 (chk t)) ∧ Below w.heap.size w w' := by
  by_cases h : t.d < 0 ∨ 3 < t.d
  · rw [chk_depth h]; exact check_depth t i h w
  · by_cases k : 1048576 < t.e ∨ 1048576 < t.a ∨ 1048576 < t.b ∨ 1048576 < t.c
    · rw [chk_range h k]; exact check_range t i (by omega) (by omega) k w
    · exact check_rest t i (by omega) (by omega) (by omega) (by omega) (by omega) (by omega) w

theorem checkR_depth (t : Tm) (_i : t.In) (h : t.d < 0 ∨ 3 < t.d) (w : World) : Calls Tryz.prog 30 #[.agg #[.int .u32 t.e, .int .i64 t.d, .int .u32 t.a, .int .u32 t.b, .int .u32 t.c]] w fun e w' => e = .returned (.int .i64 10) ∧ Below w.heap.size w w' := by
  by_cases h0 : t.d < 0
  · clear h
    go_enter Tryz.func30, Tryz.ntmps30
    go_wp2
    go_ret
    exact ⟨rfl, fresh1 _ _⟩
  · have h1 : 3 < t.d := by omega
    clear h
    go_enter Tryz.func30, Tryz.ntmps30
    go_wp2
    go_ret
    exact ⟨rfl, fresh1 _ _⟩
theorem checkR_range (t : Tm) (_i : t.In) (h0 : 0 ≤ t.d) (h1 : t.d ≤ 3) (h : 1048576 < t.e ∨ 1048576 < t.a ∨ 1048576 < t.b ∨ 1048576 < t.c) (w : World) : Calls Tryz.prog 30 #[.agg #[.int .u32 t.e, .int .i64 t.d, .int .u32 t.a, .int .u32 t.b, .int .u32 t.c]] w fun e w' => e = .returned (.int .i64 1) ∧ Below w.heap.size w w' := by
  by_cases he : t.e ≤ 1048576
  · by_cases ha : t.a ≤ 1048576
    · by_cases hb : t.b ≤ 1048576
      · have hc : 1048576 < t.c := by omega
        clear h
        go_enter Tryz.func30, Tryz.ntmps30
        go_wp2
        refine wp_loop_rounds 3 ?_
        rw [rounds_succ]
        go_wp2
        rw [rounds_succ]
        go_wp2
        rw [rounds_succ]
        go_wp2
        go_ret
        exact ⟨rfl, fresh1 _ _⟩
      · clear h
        go_enter Tryz.func30, Tryz.ntmps30
        go_wp2
        refine wp_loop_rounds 3 ?_
        rw [rounds_succ]
        go_wp2
        rw [rounds_succ]
        go_wp2
        go_ret
        exact ⟨rfl, fresh1 _ _⟩
    · clear h
      go_enter Tryz.func30, Tryz.ntmps30
      go_wp2
      refine wp_loop_rounds 3 ?_
      rw [rounds_succ]
      go_wp2
      go_ret
      exact ⟨rfl, fresh1 _ _⟩
  · clear h
    go_enter Tryz.func30, Tryz.ntmps30
    go_wp2
    go_ret
    exact ⟨rfl, fresh1 _ _⟩
theorem checkR_rest (t : Tm) (_i : t.In) (h0 : 0 ≤ t.d) (h1 : t.d ≤ 3) (he : t.e ≤ 1048576) (ha : t.a ≤ 1048576) (hb : t.b ≤ 1048576) (hc : t.c ≤ 1048576) (w : World) :
    Calls Tryz.prog 30 #[.agg #[.int .u32 t.e, .int .i64 t.d, .int .u32 t.a, .int .u32 t.b, .int .u32 t.c]] w fun e w' => e = .returned (.int .i64 (chk t)) ∧ Below w.heap.size w w' := by
  have hd : t.d = 0 ∨ t.d = 1 ∨ t.d = 2 ∨ t.d = 3 := by omega
  generalize hC : chk t = C
  have HC := Lib.hid hC
  clear hC
  obtain ⟨e, d, a, b, c⟩ := t
  dsimp only at *
  rcases hd with rfl | rfl | rfl | rfl
  all_goals go_enter Tryz.func30, Tryz.ntmps30
  all_goals go_wp2
  all_goals refine wp_loop_rounds 4 ?_
  all_goals rw [rounds_succ]
  all_goals go_wp2
  all_goals rw [rounds_succ]
  all_goals go_wp2
  all_goals rw [rounds_succ]
  all_goals go_wp2
  all_goals rw [rounds_succ]
  all_goals go_wp2
  all_goals refine wp_loop_rounds 4 ?_
  all_goals rw [rounds_succ]
  all_goals go_wp2
  all_goals try (rw [rounds_succ]; go_wp2)
  all_goals try (rw [rounds_succ]; go_wp2)
  all_goals try (rw [rounds_succ]; go_wp2)
  all_goals go_ret
  all_goals refine ⟨ret_i64 ?_, fresh1 _ _⟩
  all_goals rw [← HC.out]
  all_goals first | (have z := nz ‹(a != 0) = true›; rw [chk_field] <;> simp only <;> omega) | (have z := nz ‹(b != 0) = true›; rw [chk_field] <;> simp only <;> omega) | (have z := nz ‹(c != 0) = true›; rw [chk_field] <;> simp only <;> omega) | (have z := ze ‹(a != 0) = false›; have y := ze ‹(b != 0) = false›; have x := ze ‹(c != 0) = false›; rw [chk_ok] <;> simp only <;> omega) | (have y := ze ‹(b != 0) = false›; have x := ze ‹(c != 0) = false›; rw [chk_ok] <;> simp only <;> omega) | (have x := ze ‹(c != 0) = false›; rw [chk_ok] <;> simp only <;> omega) | (rw [chk_ok] <;> simp only <;> omega)
theorem checkR_any (t : Tm) (i : t.In) (w : World) : Calls Tryz.prog 30 #[.agg #[.int .u32 t.e, .int .i64 t.d, .int .u32 t.a, .int .u32 t.b, .int .u32 t.c]] w fun e w' => e = .returned (.int .i64 (chk t)) ∧ Below w.heap.size w w' := by
  by_cases h : t.d < 0 ∨ 3 < t.d
  · rw [chk_depth h]; exact checkR_depth t i h w
  · by_cases k : 1048576 < t.e ∨ 1048576 < t.a ∨ 1048576 < t.b ∨ 1048576 < t.c
    · rw [chk_range h k]; exact checkR_range t i (by omega) (by omega) k w
    · exact checkR_rest t i (by omega) (by omega) (by omega) (by omega) (by omega) (by omega) w
end Go.Proofs.YtpblpjopinllcaaGreatDoor.stamp
