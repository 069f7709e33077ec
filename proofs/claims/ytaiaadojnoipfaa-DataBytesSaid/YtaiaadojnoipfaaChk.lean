/-
  The contracts of stamp.Check and of watershedref04.Check, at any time.
-/
import Derived.Test.YtaiaadojnoipfaaRows
import Derived.WalkKit
import Derived.ProofKit
import Derived.OpenShut
import Derived.Lib.Hide
import Derived.Handy
import Derived.LoopN
import Derived.Test.YtaiaadojnoipfaaTm
import Derived.Test.YtaiaadojnoipfaaOpen
import Derived.Test.YtaiaadojnoipfaaBlock
namespace Go.Proofs.Ytaiaadojnoipfaa.stamp
open Go.ChangeShapes Go.WideShapes Go.ChangeAt Go.RowKit
open Go.Proofs.Ytaiaadojnoipfaa.tm Go.Proofs.Ytaiaadojnoipfaa.opened Go.Proofs.Ytaiaadojnoipfaa.block

theorem ret_i64 {a b : Int} (h : a = b) : Ending.returned (.int .i64 a) = .returned (.int .i64 b) := by rw [h]
theorem isCount_yes (a : Int) (h : a ≤ 1048576) (w : World) : Calls Try.prog 65 #[.int .u32 a] w fun e w' => e = .returned (.bool true) ∧ w = w' := by
  go_enter Try.func65, Try.ntmps65
  go_wp2
  go_ret
  exact ⟨rfl, rfl⟩
theorem isCount_no (a : Int) (h : ¬ a ≤ 1048576) (w : World) : Calls Try.prog 65 #[.int .u32 a] w fun e w' => e = .returned (.bool false) ∧ w = w' := by
  have h' : decide (a ≤ 1048576) = false := by simpa using h
  go_enter Try.func65, Try.ntmps65
  go_wp2
  go_ret
  exact ⟨rfl, rfl⟩
theorem isDepth_yes (d : Int) (h0 : 0 ≤ d) (h1 : d ≤ 3) (w : World) : Calls Try.prog 64 #[.int .i64 d] w fun e w' => e = .returned (.bool true) ∧ w = w' := by
  go_enter Try.func64, Try.ntmps64
  go_wp2
  go_ret
  exact ⟨rfl, rfl⟩
theorem isDepth_no (d : Int) (h : d < 0 ∨ 3 < d) (w : World) : Calls Try.prog 64 #[.int .i64 d] w fun e w' => e = .returned (.bool false) ∧ w = w' := by
  by_cases h0 : 0 ≤ d
  · have h1 : decide (d ≤ 3) = false := by simp; omega
    clear h
    go_enter Try.func64, Try.ntmps64
    go_wp2
    go_ret
    exact ⟨rfl, rfl⟩
  · have h1 : decide (0 ≤ d) = false := by simpa using h0
    clear h
    go_enter Try.func64, Try.ntmps64
    go_wp2
    go_ret
    exact ⟨rfl, rfl⟩

theorem ixA (x y z : Int) : ∀ w, (Instr.index 33 (.agg #[.int .u32 x, .int .u32 y, .int .u32 z]) (.int .i64 0)).run Try.prog w = .ok (.int .u32 x) w := fun _ => by kernel_rfl
theorem ixB (x y z : Int) : ∀ w, (Instr.index 33 (.agg #[.int .u32 x, .int .u32 y, .int .u32 z]) (.int .i64 1)).run Try.prog w = .ok (.int .u32 y) w := fun _ => by kernel_rfl
theorem ixC (x y z : Int) : ∀ w, (Instr.index 33 (.agg #[.int .u32 x, .int .u32 y, .int .u32 z]) (.int .i64 2)).run Try.prog w = .ok (.int .u32 z) w := fun _ => by kernel_rfl
theorem fresh1 (w : World) (o : Obj) : Below w.heap.size w (w.alloc o) := (Below.refl _ _).alloc (Nat.le_refl _) _
theorem nz {x : Int} (h : (x != 0) = true) : x ≠ 0 := by simpa using h
theorem ze {x : Int} (h : (x != 0) = false) : x = 0 := by simpa using h
theorem check_depth (t : Tm) (_i : t.In) (h : t.d < 0 ∨ 3 < t.d) (w : World) : Calls Try.prog 44 #[.agg #[.int .u32 t.e, .int .i64 t.d, .int .u32 t.a, .int .u32 t.b, .int .u32 t.c]] w fun e w' => e = .returned (.int .i64 10) ∧ Below w.heap.size w w' := by
  go_enter Try.func44, Try.ntmps44
  go_wp2_with (go_at_call 64; refine (isDepth_no _ h _).mono ?_; rintro e w' ⟨rfl, rfl⟩)
  go_ret
  exact ⟨rfl, fresh1 _ _⟩
theorem check_range (t : Tm) (_i : t.In) (h0 : 0 ≤ t.d) (h1 : t.d ≤ 3) (h : 1048576 < t.e ∨ 1048576 < t.a ∨ 1048576 < t.b ∨ 1048576 < t.c) (w : World) : Calls Try.prog 44 #[.agg #[.int .u32 t.e, .int .i64 t.d, .int .u32 t.a, .int .u32 t.b, .int .u32 t.c]] w fun e w' => e = .returned (.int .i64 1) ∧ Below w.heap.size w w' := by
  have x0 := ixA t.a t.b t.c
  have x1 := ixB t.a t.b t.c
  have x2 := ixC t.a t.b t.c
  by_cases he : t.e ≤ 1048576
  · by_cases ha : t.a ≤ 1048576
    · by_cases hb : t.b ≤ 1048576
      · have hc : 1048576 < t.c := by omega
        clear h
        go_enter Try.func44, Try.ntmps44
        go_wp2_with (first | (go_at_call 64; refine (isDepth_yes _ h0 h1 _).mono ?_; rintro e w' ⟨rfl, rfl⟩) | (go_at_call 65; refine (isCount_yes _ (by omega) _).mono ?_; rintro e w' ⟨rfl, rfl⟩))
        refine wp_loop_rounds 3 ?_
        rw [rounds_succ]
        go_wp2_with (first | (go_at_call 65; refine (isCount_yes _ (by omega) _).mono ?_; rintro e w' ⟨rfl, rfl⟩))
        rw [rounds_succ]
        go_wp2_with (first | (go_at_call 65; refine (isCount_yes _ (by omega) _).mono ?_; rintro e w' ⟨rfl, rfl⟩))
        rw [rounds_succ]
        go_wp2_with (first | (go_at_call 65; refine (isCount_no _ (by omega) _).mono ?_; rintro e w' ⟨rfl, rfl⟩))
        go_ret
        exact ⟨rfl, fresh1 _ _⟩
      · clear h
        go_enter Try.func44, Try.ntmps44
        go_wp2_with (first | (go_at_call 64; refine (isDepth_yes _ h0 h1 _).mono ?_; rintro e w' ⟨rfl, rfl⟩) | (go_at_call 65; refine (isCount_yes _ (by omega) _).mono ?_; rintro e w' ⟨rfl, rfl⟩))
        refine wp_loop_rounds 3 ?_
        rw [rounds_succ]
        go_wp2_with (first | (go_at_call 65; refine (isCount_yes _ (by omega) _).mono ?_; rintro e w' ⟨rfl, rfl⟩))
        rw [rounds_succ]
        go_wp2_with (first | (go_at_call 65; refine (isCount_no _ (by omega) _).mono ?_; rintro e w' ⟨rfl, rfl⟩))
        go_ret
        exact ⟨rfl, fresh1 _ _⟩
    · clear h
      go_enter Try.func44, Try.ntmps44
      go_wp2_with (first | (go_at_call 64; refine (isDepth_yes _ h0 h1 _).mono ?_; rintro e w' ⟨rfl, rfl⟩) | (go_at_call 65; refine (isCount_yes _ (by omega) _).mono ?_; rintro e w' ⟨rfl, rfl⟩))
      refine wp_loop_rounds 3 ?_
      rw [rounds_succ]
      go_wp2_with (first | (go_at_call 65; refine (isCount_no _ (by omega) _).mono ?_; rintro e w' ⟨rfl, rfl⟩))
      go_ret
      exact ⟨rfl, fresh1 _ _⟩
  · clear h
    go_enter Try.func44, Try.ntmps44
    go_wp2_with (first | (go_at_call 64; refine (isDepth_yes _ h0 h1 _).mono ?_; rintro e w' ⟨rfl, rfl⟩) | (go_at_call 65; refine (isCount_no _ (by omega) _).mono ?_; rintro e w' ⟨rfl, rfl⟩))
    go_ret
    exact ⟨rfl, fresh1 _ _⟩
theorem check_rest (t : Tm) (_i : t.In) (h0 : 0 ≤ t.d) (h1 : t.d ≤ 3) (he : t.e ≤ 1048576) (ha : t.a ≤ 1048576) (hb : t.b ≤ 1048576) (hc : t.c ≤ 1048576) (w : World) :
    Calls Try.prog 44 #[.agg #[.int .u32 t.e, .int .i64 t.d, .int .u32 t.a, .int .u32 t.b, .int .u32 t.c]] w fun e w' => e = .returned (.int .i64 (chk t)) ∧ Below w.heap.size w w' := by
  have x0 := ixA t.a t.b t.c
  have x1 := ixB t.a t.b t.c
  have x2 := ixC t.a t.b t.c
  have hd : t.d = 0 ∨ t.d = 1 ∨ t.d = 2 ∨ t.d = 3 := by omega
  generalize hC : chk t = C
  have HC := Lib.hid hC
  clear hC
  obtain ⟨e, d, a, b, c⟩ := t
  dsimp only at *
  rcases hd with rfl | rfl | rfl | rfl
  all_goals go_enter Try.func44, Try.ntmps44
  all_goals go_wp2_with (first | (go_at_call 64; refine (isDepth_yes _ h0 h1 _).mono ?_; rintro e w' ⟨rfl, rfl⟩) | (go_at_call 65; refine (isCount_yes _ (by omega) _).mono ?_; rintro e w' ⟨rfl, rfl⟩))
  all_goals refine wp_loop_rounds 4 ?_
  all_goals rw [rounds_succ]
  all_goals go_wp2_with (first | (go_at_call 65; refine (isCount_yes _ (by omega) _).mono ?_; rintro e w' ⟨rfl, rfl⟩))
  all_goals rw [rounds_succ]
  all_goals go_wp2_with (first | (go_at_call 65; refine (isCount_yes _ (by omega) _).mono ?_; rintro e w' ⟨rfl, rfl⟩))
  all_goals rw [rounds_succ]
  all_goals go_wp2_with (first | (go_at_call 65; refine (isCount_yes _ (by omega) _).mono ?_; rintro e w' ⟨rfl, rfl⟩))
  all_goals rw [rounds_succ]
  all_goals go_wp2
  all_goals refine wp_loop_rounds 4 ?_
  all_goals rw [rounds_succ]
  all_goals go_wp2
  all_goals try (rw [rounds_succ]; go_wp2)
  all_goals try (rw [rounds_succ]; go_wp2)
  all_goals try (rw [rounds_succ]; go_wp2)
  all_goals go_ret
  all_goals refine ⟨ret_i64 ?_, fresh1 _ _⟩
  all_goals rw [← HC.out]
  all_goals first | (have z := nz ‹(a != 0) = true›; rw [chk_field] <;> simp only <;> omega) | (have z := nz ‹(b != 0) = true›; rw [chk_field] <;> simp only <;> omega) | (have z := nz ‹(c != 0) = true›; rw [chk_field] <;> simp only <;> omega) | (have z := ze ‹(a != 0) = false›; have y := ze ‹(b != 0) = false›; have x := ze ‹(c != 0) = false›; rw [chk_ok] <;> simp only <;> omega) | (have y := ze ‹(b != 0) = false›; have x := ze ‹(c != 0) = false›; rw [chk_ok] <;> simp only <;> omega) | (have x := ze ‹(c != 0) = false›; rw [chk_ok] <;> simp only <;> omega) | (rw [chk_ok] <;> simp only <;> omega)
theorem check_any (t : Tm) (i : t.In) (w : World) : Calls Try.prog 44 #[.agg #[.int .u32 t.e, .int .i64 t.d, .int .u32 t.a, .int .u32 t.b, .int .u32 t.c]] w fun e w' => e = .returned (.int .i64 (chk t)) ∧ Below w.heap.size w w' := by
  by_cases h : t.d < 0 ∨ 3 < t.d
  · rw [chk_depth h]; exact check_depth t i h w
  · by_cases k : 1048576 < t.e ∨ 1048576 < t.a ∨ 1048576 < t.b ∨ 1048576 < t.c
    · rw [chk_range h k]; exact check_range t i (by omega) (by omega) k w
    · exact check_rest t i (by omega) (by omega) (by omega) (by omega) (by omega) (by omega) w

theorem checkR_depth (t : Tm) (_i : t.In) (h : t.d < 0 ∨ 3 < t.d) (w : World) : Calls Try.prog 45 #[.agg #[.int .u32 t.e, .int .i64 t.d, .int .u32 t.a, .int .u32 t.b, .int .u32 t.c]] w fun e w' => e = .returned (.int .i64 10) ∧ Below w.heap.size w w' := by
  by_cases h0 : t.d < 0
  · clear h
    go_enter Try.func45, Try.ntmps45
    go_wp2
    go_ret
    exact ⟨rfl, fresh1 _ _⟩
  · have h1 : 3 < t.d := by omega
    clear h
    go_enter Try.func45, Try.ntmps45
    go_wp2
    go_ret
    exact ⟨rfl, fresh1 _ _⟩
theorem checkR_range (t : Tm) (_i : t.In) (h0 : 0 ≤ t.d) (h1 : t.d ≤ 3) (h : 1048576 < t.e ∨ 1048576 < t.a ∨ 1048576 < t.b ∨ 1048576 < t.c) (w : World) : Calls Try.prog 45 #[.agg #[.int .u32 t.e, .int .i64 t.d, .int .u32 t.a, .int .u32 t.b, .int .u32 t.c]] w fun e w' => e = .returned (.int .i64 1) ∧ Below w.heap.size w w' := by
  by_cases he : t.e ≤ 1048576
  · by_cases ha : t.a ≤ 1048576
    · by_cases hb : t.b ≤ 1048576
      · have hc : 1048576 < t.c := by omega
        clear h
        go_enter Try.func45, Try.ntmps45
        go_wp2
        refine wp_loop_rounds 3 ?_
        rw [rounds_succ]
        go_wp2
        rw [rounds_succ]
        go_wp2
        rw [rounds_succ]
        go_wp2
        go_ret
        exact ⟨rfl, fresh1 _ _⟩
      · clear h
        go_enter Try.func45, Try.ntmps45
        go_wp2
        refine wp_loop_rounds 3 ?_
        rw [rounds_succ]
        go_wp2
        rw [rounds_succ]
        go_wp2
        go_ret
        exact ⟨rfl, fresh1 _ _⟩
    · clear h
      go_enter Try.func45, Try.ntmps45
      go_wp2
      refine wp_loop_rounds 3 ?_
      rw [rounds_succ]
      go_wp2
      go_ret
      exact ⟨rfl, fresh1 _ _⟩
  · clear h
    go_enter Try.func45, Try.ntmps45
    go_wp2
    go_ret
    exact ⟨rfl, fresh1 _ _⟩
theorem checkR_rest (t : Tm) (_i : t.In) (h0 : 0 ≤ t.d) (h1 : t.d ≤ 3) (he : t.e ≤ 1048576) (ha : t.a ≤ 1048576) (hb : t.b ≤ 1048576) (hc : t.c ≤ 1048576) (w : World) :
    Calls Try.prog 45 #[.agg #[.int .u32 t.e, .int .i64 t.d, .int .u32 t.a, .int .u32 t.b, .int .u32 t.c]] w fun e w' => e = .returned (.int .i64 (chk t)) ∧ Below w.heap.size w w' := by
  have hd : t.d = 0 ∨ t.d = 1 ∨ t.d = 2 ∨ t.d = 3 := by omega
  generalize hC : chk t = C
  have HC := Lib.hid hC
  clear hC
  obtain ⟨e, d, a, b, c⟩ := t
  dsimp only at *
  rcases hd with rfl | rfl | rfl | rfl
  all_goals go_enter Try.func45, Try.ntmps45
  all_goals go_wp2
  all_goals refine wp_loop_rounds 4 ?_
  all_goals rw [rounds_succ]
  all_goals go_wp2
  all_goals rw [rounds_succ]
  all_goals go_wp2
  all_goals rw [rounds_succ]
  all_goals go_wp2
  all_goals rw [rounds_succ]
  all_goals go_wp2
  all_goals refine wp_loop_rounds 4 ?_
  all_goals rw [rounds_succ]
  all_goals go_wp2
  all_goals try (rw [rounds_succ]; go_wp2)
  all_goals try (rw [rounds_succ]; go_wp2)
  all_goals try (rw [rounds_succ]; go_wp2)
  all_goals go_ret
  all_goals refine ⟨ret_i64 ?_, fresh1 _ _⟩
  all_goals rw [← HC.out]
  all_goals first | (have z := nz ‹(a != 0) = true›; rw [chk_field] <;> simp only <;> omega) | (have z := nz ‹(b != 0) = true›; rw [chk_field] <;> simp only <;> omega) | (have z := nz ‹(c != 0) = true›; rw [chk_field] <;> simp only <;> omega) | (have z := ze ‹(a != 0) = false›; have y := ze ‹(b != 0) = false›; have x := ze ‹(c != 0) = false›; rw [chk_ok] <;> simp only <;> omega) | (have y := ze ‹(b != 0) = false›; have x := ze ‹(c != 0) = false›; rw [chk_ok] <;> simp only <;> omega) | (have x := ze ‹(c != 0) = false›; rw [chk_ok] <;> simp only <;> omega) | (rw [chk_ok] <;> simp only <;> omega)
theorem checkR_any (t : Tm) (i : t.In) (w : World) : Calls Try.prog 45 #[.agg #[.int .u32 t.e, .int .i64 t.d, .int .u32 t.a, .int .u32 t.b, .int .u32 t.c]] w fun e w' => e = .returned (.int .i64 (chk t)) ∧ Below w.heap.size w w' := by
  by_cases h : t.d < 0 ∨ 3 < t.d
  · rw [chk_depth h]; exact checkR_depth t i h w
  · by_cases k : 1048576 < t.e ∨ 1048576 < t.a ∨ 1048576 < t.b ∨ 1048576 < t.c
    · rw [chk_range h k]; exact checkR_range t i (by omega) (by omega) k w
    · exact checkR_rest t i (by omega) (by omega) (by omega) (by omega) (by omega) (by omega) w
end Go.Proofs.Ytaiaadojnoipfaa.stamp
