/-
  The contracts of stamp.Check and of watershedref04.Check, at any time.
  '==' of two times.
  The contracts of what makes one time of another.
  The contracts of what makes one time of another, where nothing is wrong.
  The contract of stamp.counts: the epoch and the rounds of a time.
  '==' of two paths.
  Two paths are not the same: the model's '!=', off its '=='.
  A time that came in, as the walk wants it.
-/
import Derived.Test.YtmepiogoofmbbaaGreatDoorRows
import Derived.WalkKit
import Derived.ProofKit
import Derived.OpenShut
import Derived.Lib.Hide
import Derived.Handy
import Derived.LoopN
import Derived.Test.YtmepiogoofmbbaaGreatDoorGA
import Derived.ChangeKeysEq
import Derived.Laws.StructEq
import Derived.Deep.RegionHeld3
import Derived.Deep.RegionLaw
import Derived.Deep.AppendLies
import Derived.Laws.OwnMore
namespace Go.Proofs.YtmepiogoofmbbaaGreatDoor.stamp
open Go.ChangeShapes Go.WideShapes Go.ChangeAt Go.RowKit
open Go.Proofs.YtmepiogoofmbbaaGreatDoor.tm Go.Proofs.YtmepiogoofmbbaaGreatDoor.opened Go.Proofs.YtmepiogoofmbbaaGreatDoor.block

theorem ret_i64 {a b : Int} (h : a = b) : Ending.returned (.int .i64 a) = .returned (.int .i64 b) := by rw [h]
theorem isCount_yes (a : Int) (h : a ≤ 1048576) (w : World) : Calls Tryz.prog 48 #[.int .u32 a] w fun e w' => e = .returned (.bool true) ∧ w = w' := by
  go_enter Tryz.func48, Tryz.ntmps48
  go_wp2
  go_ret
  exact ⟨rfl, rfl⟩
theorem isCount_no (a : Int) (h : ¬ a ≤ 1048576) (w : World) : Calls Tryz.prog 48 #[.int .u32 a] w fun e w' => e = .returned (.bool false) ∧ w = w' := by
  have h' : decide (a ≤ 1048576) = false := by simpa using h
  go_enter Tryz.func48, Tryz.ntmps48
  go_wp2
  go_ret
  exact ⟨rfl, rfl⟩
theorem isDepth_yes (d : Int) (h0 : 0 ≤ d) (h1 : d ≤ 3) (w : World) : Calls Tryz.prog 47 #[.int .i64 d] w fun e w' => e = .returned (.bool true) ∧ w = w' := by
  go_enter Tryz.func47, Tryz.ntmps47
  go_wp2
  go_ret
  exact ⟨rfl, rfl⟩
theorem isDepth_no (d : Int) (h : d < 0 ∨ 3 < d) (w : World) : Calls Tryz.prog 47 #[.int .i64 d] w fun e w' => e = .returned (.bool false) ∧ w = w' := by
  by_cases h0 : 0 ≤ d
  · have h1 : decide (d ≤ 3) = false := by simp; omega
    clear h
    go_enter Tryz.func47, Tryz.ntmps47
    go_wp2
    go_ret
    exact ⟨rfl, rfl⟩
  · have h1 : decide (0 ≤ d) = false := by simpa using h0
    clear h
    go_enter Tryz.func47, Tryz.ntmps47
    go_wp2
    go_ret
    exact ⟨rfl, rfl⟩

theorem ixA (x y z : Int) : ∀ w, (Instr.index 47 (.agg #[.int .u32 x, .int .u32 y, .int .u32 z]) (.int .i64 0)).run Tryz.prog w = .ok (.int .u32 x) w := fun _ => by kernel_rfl
theorem ixB (x y z : Int) : ∀ w, (Instr.index 47 (.agg #[.int .u32 x, .int .u32 y, .int .u32 z]) (.int .i64 1)).run Tryz.prog w = .ok (.int .u32 y) w := fun _ => by kernel_rfl
theorem ixC (x y z : Int) : ∀ w, (Instr.index 47 (.agg #[.int .u32 x, .int .u32 y, .int .u32 z]) (.int .i64 2)).run Tryz.prog w = .ok (.int .u32 z) w := fun _ => by kernel_rfl
theorem fresh1 (w : World) (o : Obj) : Below w.heap.size w (w.alloc o) := (Below.refl _ _).alloc (Nat.le_refl _) _
theorem nz {x : Int} (h : (x != 0) = true) : x ≠ 0 := by simpa using h
theorem ze {x : Int} (h : (x != 0) = false) : x = 0 := by simpa using h
theorem check_depth (t : Tm) (_i : t.In) (h : t.d < 0 ∨ 3 < t.d) (w : World) : Calls Tryz.prog 33 #[.agg #[.int .u32 t.e, .int .i64 t.d, .int .u32 t.a, .int .u32 t.b, .int .u32 t.c]] w fun e w' => e = .returned (.int .i64 10) ∧ Below w.heap.size w w' := by
  go_enter Tryz.func33, Tryz.ntmps33
  go_wp2_with (go_at_call 47; refine (isDepth_no _ h _).mono ?_; rintro e w' ⟨rfl, rfl⟩)
  go_ret
  exact ⟨rfl, fresh1 _ _⟩
theorem check_range (t : Tm) (_i : t.In) (h0 : 0 ≤ t.d) (h1 : t.d ≤ 3) (h : 1048576 < t.e ∨ 1048576 < t.a ∨ 1048576 < t.b ∨ 1048576 < t.c) (w : World) : Calls Tryz.prog 33 #[.agg #[.int .u32 t.e, .int .i64 t.d, .int .u32 t.a, .int .u32 t.b, .int .u32 t.c]] w fun e w' => e = .returned (.int .i64 1) ∧ Below w.heap.size w w' := by
  have x0 := ixA t.a t.b t.c
  have x1 := ixB t.a t.b t.c
  have x2 := ixC t.a t.b t.c
  by_cases he : t.e ≤ 1048576
  · by_cases ha : t.a ≤ 1048576
    · by_cases hb : t.b ≤ 1048576
      · have hc : 1048576 < t.c := by omega
        clear h
        go_enter Tryz.func33, Tryz.ntmps33
        go_wp2_with (first | (go_at_call 47; refine (isDepth_yes _ h0 h1 _).mono ?_; rintro e w' ⟨rfl, rfl⟩) | (go_at_call 48; refine (isCount_yes _ (by omega) _).mono ?_; rintro e w' ⟨rfl, rfl⟩))
        refine wp_loop_rounds 3 ?_
        rw [rounds_succ]
        go_wp2_with (first | (go_at_call 48; refine (isCount_yes _ (by omega) _).mono ?_; rintro e w' ⟨rfl, rfl⟩))
        rw [rounds_succ]
        go_wp2_with (first | (go_at_call 48; refine (isCount_yes _ (by omega) _).mono ?_; rintro e w' ⟨rfl, rfl⟩))
        rw [rounds_succ]
        go_wp2_with (first | (go_at_call 48; refine (isCount_no _ (by omega) _).mono ?_; rintro e w' ⟨rfl, rfl⟩))
        go_ret
        exact ⟨rfl, fresh1 _ _⟩
      · clear h
        go_enter Tryz.func33, Tryz.ntmps33
        go_wp2_with (first | (go_at_call 47; refine (isDepth_yes _ h0 h1 _).mono ?_; rintro e w' ⟨rfl, rfl⟩) | (go_at_call 48; refine (isCount_yes _ (by omega) _).mono ?_; rintro e w' ⟨rfl, rfl⟩))
        refine wp_loop_rounds 3 ?_
        rw [rounds_succ]
        go_wp2_with (first | (go_at_call 48; refine (isCount_yes _ (by omega) _).mono ?_; rintro e w' ⟨rfl, rfl⟩))
        rw [rounds_succ]
        go_wp2_with (first | (go_at_call 48; refine (isCount_no _ (by omega) _).mono ?_; rintro e w' ⟨rfl, rfl⟩))
        go_ret
        exact ⟨rfl, fresh1 _ _⟩
    · clear h
      go_enter Tryz.func33, Tryz.ntmps33
      go_wp2_with (first | (go_at_call 47; refine (isDepth_yes _ h0 h1 _).mono ?_; rintro e w' ⟨rfl, rfl⟩) | (go_at_call 48; refine (isCount_yes _ (by omega) _).mono ?_; rintro e w' ⟨rfl, rfl⟩))
      refine wp_loop_rounds 3 ?_
      rw [rounds_succ]
      go_wp2_with (first | (go_at_call 48; refine (isCount_no _ (by omega) _).mono ?_; rintro e w' ⟨rfl, rfl⟩))
      go_ret
      exact ⟨rfl, fresh1 _ _⟩
  · clear h
    go_enter Tryz.func33, Tryz.ntmps33
    go_wp2_with (first | (go_at_call 47; refine (isDepth_yes _ h0 h1 _).mono ?_; rintro e w' ⟨rfl, rfl⟩) | (go_at_call 48; refine (isCount_no _ (by omega) _).mono ?_; rintro e w' ⟨rfl, rfl⟩))
    go_ret
    exact ⟨rfl, fresh1 _ _⟩
theorem check_rest (t : Tm) (_i : t.In) (h0 : 0 ≤ t.d) (h1 : t.d ≤ 3) (he : t.e ≤ 1048576) (ha : t.a ≤ 1048576) (hb : t.b ≤ 1048576) (hc : t.c ≤ 1048576) (w : World) :
    Calls Tryz.prog 33 #[.agg #[.int .u32 t.e, .int .i64 t.d, .int .u32 t.a, .int .u32 t.b, .int .u32 t.c]] w fun e w' => e = .returned (.int .i64 (chk t)) ∧ Below w.heap.size w w' := by
  have x0 := ixA t.a t.b t.c
  have x1 := ixB t.a t.b t.c
  have x2 := ixC t.a t.b t.c
  have hd : t.d = 0 ∨ t.d = 1 ∨ t.d = 2 ∨ t.d = 3 := by omega
  generalize hC : chk t = C
  have HC := Lib.hid hC
  clear hC
  obtain ⟨e, d, a, b, c⟩ := t
  dsimp only at *
  rcases hd with rfl | rfl | rfl | rfl
  all_goals go_enter Tryz.func33, Tryz.ntmps33
  all_goals go_wp2_with (first | (go_at_call 47; refine (isDepth_yes _ h0 h1 _).mono ?_; rintro e w' ⟨rfl, rfl⟩) | (go_at_call 48; refine (isCount_yes _ (by omega) _).mono ?_; rintro e w' ⟨rfl, rfl⟩))
  all_goals refine wp_loop_rounds 4 ?_
  all_goals rw [rounds_succ]
  all_goals go_wp2_with (first | (go_at_call 48; refine (isCount_yes _ (by omega) _).mono ?_; rintro e w' ⟨rfl, rfl⟩))
  all_goals rw [rounds_succ]
  all_goals go_wp2_with (first | (go_at_call 48; refine (isCount_yes _ (by omega) _).mono ?_; rintro e w' ⟨rfl, rfl⟩))
  all_goals rw [rounds_succ]
  all_goals go_wp2_with (first | (go_at_call 48; refine (isCount_yes _ (by omega) _).mono ?_; rintro e w' ⟨rfl, rfl⟩))
  all_goals rw [rounds_succ]
  all_goals go_wp2
  all_goals refine wp_loop_rounds 4 ?_
  all_goals rw [rounds_succ]
  all_goals go_wp2
  all_goals try (rw [rounds_succ]; go_wp2)
  all_goals try (rw [rounds_succ]; go_wp2)
  all_goals try (rw [rounds_succ]; go_wp2)
  all_goals go_ret
  all_goals refine ⟨ret_i64 ?_, fresh1 _ _⟩
  all_goals rw [← HC.out]
  all_goals first | (have z := nz ‹(a != 0) = true›; rw [chk_field] <;> simp only <;> omega) | (have z := nz ‹(b != 0) = true›; rw [chk_field] <;> simp only <;> omega) | (have z := nz ‹(c != 0) = true›; rw [chk_field] <;> simp only <;> omega) | (have z := ze ‹(a != 0) = false›; have y := ze ‹(b != 0) = false›; have x := ze ‹(c != 0) = false›; rw [chk_ok] <;> simp only <;> omega) | (have y := ze ‹(b != 0) = false›; have x := ze ‹(c != 0) = false›; rw [chk_ok] <;> simp only <;> omega) | (have x := ze ‹(c != 0) = false›; rw [chk_ok] <;> simp only <;> omega) | (rw [chk_ok] <;> simp only <;> omega)
theorem check_any (t : Tm) (i : t.In) (w : World) : Calls Tryz.prog 33 #[.agg #[.int .u32 t.e, .int .i64 t.d, .int .u32 t.a, .int .u32 t.b, .int .u32 t.c]] w fun e w' => e = .returned (.int .i64 (chk t)) ∧ Below w.heap.size w w' := by
  by_cases h : t.d < 0 ∨ 3 < t.d
  · rw [chk_depth h]; exact check_depth t i h w
  · by_cases k : 1048576 < t.e ∨ 1048576 < t.a ∨ 1048576 < t.b ∨ 1048576 < t.c
    · rw [chk_range h k]; exact check_range t i (by omega) (by omega) k w
    · exact check_rest t i (by omega) (by omega) (by omega) (by omega) (by omega) (by omega) w

theorem checkR_depth (t : Tm) (_i : t.In) (h : t.d < 0 ∨ 3 < t.d) (w : World) : Calls Tryz.prog 41 #[.agg #[.int .u32 t.e, .int .i64 t.d, .int .u32 t.a, .int .u32 t.b, .int .u32 t.c]] w fun e w' => e = .returned (.int .i64 10) ∧ Below w.heap.size w w' := by
  by_cases h0 : t.d < 0
  · clear h
    go_enter Tryz.func41, Tryz.ntmps41
    go_wp2
    go_ret
    exact ⟨rfl, fresh1 _ _⟩
  · have h1 : 3 < t.d := by omega
    clear h
    go_enter Tryz.func41, Tryz.ntmps41
    go_wp2
    go_ret
    exact ⟨rfl, fresh1 _ _⟩
theorem checkR_range (t : Tm) (_i : t.In) (h0 : 0 ≤ t.d) (h1 : t.d ≤ 3) (h : 1048576 < t.e ∨ 1048576 < t.a ∨ 1048576 < t.b ∨ 1048576 < t.c) (w : World) : Calls Tryz.prog 41 #[.agg #[.int .u32 t.e, .int .i64 t.d, .int .u32 t.a, .int .u32 t.b, .int .u32 t.c]] w fun e w' => e = .returned (.int .i64 1) ∧ Below w.heap.size w w' := by
  by_cases he : t.e ≤ 1048576
  · by_cases ha : t.a ≤ 1048576
    · by_cases hb : t.b ≤ 1048576
      · have hc : 1048576 < t.c := by omega
        clear h
        go_enter Tryz.func41, Tryz.ntmps41
        go_wp2
        refine wp_loop_rounds 3 ?_
        rw [rounds_succ]
        go_wp2
        rw [rounds_succ]
        go_wp2
        rw [rounds_succ]
        go_wp2
        go_ret
        exact ⟨rfl, fresh1 _ _⟩
      · clear h
        go_enter Tryz.func41, Tryz.ntmps41
        go_wp2
        refine wp_loop_rounds 3 ?_
        rw [rounds_succ]
        go_wp2
        rw [rounds_succ]
        go_wp2
        go_ret
        exact ⟨rfl, fresh1 _ _⟩
    · clear h
      go_enter Tryz.func41, Tryz.ntmps41
      go_wp2
      refine wp_loop_rounds 3 ?_
      rw [rounds_succ]
      go_wp2
      go_ret
      exact ⟨rfl, fresh1 _ _⟩
  · clear h
    go_enter Tryz.func41, Tryz.ntmps41
    go_wp2
    go_ret
    exact ⟨rfl, fresh1 _ _⟩
theorem checkR_rest (t : Tm) (_i : t.In) (h0 : 0 ≤ t.d) (h1 : t.d ≤ 3) (he : t.e ≤ 1048576) (ha : t.a ≤ 1048576) (hb : t.b ≤ 1048576) (hc : t.c ≤ 1048576) (w : World) :
    Calls Tryz.prog 41 #[.agg #[.int .u32 t.e, .int .i64 t.d, .int .u32 t.a, .int .u32 t.b, .int .u32 t.c]] w fun e w' => e = .returned (.int .i64 (chk t)) ∧ Below w.heap.size w w' := by
  have hd : t.d = 0 ∨ t.d = 1 ∨ t.d = 2 ∨ t.d = 3 := by omega
  generalize hC : chk t = C
  have HC := Lib.hid hC
  clear hC
  obtain ⟨e, d, a, b, c⟩ := t
  dsimp only at *
  rcases hd with rfl | rfl | rfl | rfl
  all_goals go_enter Tryz.func41, Tryz.ntmps41
  all_goals go_wp2
  all_goals refine wp_loop_rounds 4 ?_
  all_goals rw [rounds_succ]
  all_goals go_wp2
  all_goals rw [rounds_succ]
  all_goals go_wp2
  all_goals rw [rounds_succ]
  all_goals go_wp2
  all_goals rw [rounds_succ]
  all_goals go_wp2
  all_goals refine wp_loop_rounds 4 ?_
  all_goals rw [rounds_succ]
  all_goals go_wp2
  all_goals try (rw [rounds_succ]; go_wp2)
  all_goals try (rw [rounds_succ]; go_wp2)
  all_goals try (rw [rounds_succ]; go_wp2)
  all_goals go_ret
  all_goals refine ⟨ret_i64 ?_, fresh1 _ _⟩
  all_goals rw [← HC.out]
  all_goals first | (have z := nz ‹(a != 0) = true›; rw [chk_field] <;> simp only <;> omega) | (have z := nz ‹(b != 0) = true›; rw [chk_field] <;> simp only <;> omega) | (have z := nz ‹(c != 0) = true›; rw [chk_field] <;> simp only <;> omega) | (have z := ze ‹(a != 0) = false›; have y := ze ‹(b != 0) = false›; have x := ze ‹(c != 0) = false›; rw [chk_ok] <;> simp only <;> omega) | (have y := ze ‹(b != 0) = false›; have x := ze ‹(c != 0) = false›; rw [chk_ok] <;> simp only <;> omega) | (have x := ze ‹(c != 0) = false›; rw [chk_ok] <;> simp only <;> omega) | (rw [chk_ok] <;> simp only <;> omega)
theorem checkR_any (t : Tm) (i : t.In) (w : World) : Calls Tryz.prog 41 #[.agg #[.int .u32 t.e, .int .i64 t.d, .int .u32 t.a, .int .u32 t.b, .int .u32 t.c]] w fun e w' => e = .returned (.int .i64 (chk t)) ∧ Below w.heap.size w w' := by
  by_cases h : t.d < 0 ∨ 3 < t.d
  · rw [chk_depth h]; exact checkR_depth t i h w
  · by_cases k : 1048576 < t.e ∨ 1048576 < t.a ∨ 1048576 < t.b ∨ 1048576 < t.c
    · rw [chk_range h k]; exact checkR_range t i (by omega) (by omega) k w
    · exact checkR_rest t i (by omega) (by omega) (by omega) (by omega) (by omega) (by omega) w
end Go.Proofs.YtmepiogoofmbbaaGreatDoor.stamp
namespace Go.Proofs.YtmepiogoofmbbaaGreatDoor.stamp
open Go.ChangeShapes Go.WideShapes Go.ChangeAt Go.RowKit
open Go.Proofs.YtmepiogoofmbbaaGreatDoor.tm Go.Proofs.YtmepiogoofmbbaaGreatDoor.opened Go.Proofs.YtmepiogoofmbbaaGreatDoor.block

theorem info22 : ∃ i, Tryz.prog.info? 46 = some i := by
  have h : (Tryz.prog.info? 46).isSome = true := by kernel_rfl
  exact Option.isSome_iff_exists.1 h
theorem cells22 : Tryz.prog.cellsOf 46 = 1 := by kernel_rfl
theorem plain22 : Tryz.prog.plainKey 46 = true := by kernel_rfl
theorem plain3 : Tryz.prog.plainKey 3 = true := by kernel_rfl
theorem range3 : List.range 3 = [0, 1, 2] := by decide
theorem run_u32 (d : Nat) (x y : Int) (w : World) : (Op.equalIn (d + 1) 46 (.int .u32 x) (.int .u32 y)).run Tryz.prog w = .ok (x == y) w := run_equalIn_int w d 46 .u32 .u32 x y Tryz.underlying46
theorem run_eqA (d : Nat) (x0 x1 x2 y0 y1 y2 : Int) (w : World) : (Op.equalIn (d + 2) 47 (.agg #[.int .u32 x0, .int .u32 x1, .int .u32 x2]) (.agg #[.int .u32 y0, .int .u32 y1, .int .u32 y2])).run Tryz.prog w = .ok (x0 == y0 && (x1 == y1 && x2 == y2)) w := by
  obtain ⟨i, hi⟩ := info22
  have p : ∀ (l : Array Value) (k : Nat) (x : Int) (w : World), l[k]? = some (.int .u32 x) → (part 46 l k).run Tryz.prog w = .ok (.int .u32 x) w := fun l k x w h => run_part_plain w plain22 h
  rw [run_equalIn_array w (d + 1) _ _ Tryz.underlying47 hi, cells22, range3]
  simp only [Op.eqItems, Sem.run_bind]
  rw [p _ _ x0 w (by simp)]
  simp only [Result.andThen_ok]
  rw [p _ _ y0 w (by simp)]
  simp only [Result.andThen_ok]
  rw [run_u32]
  simp only [Result.andThen_ok]
  cases h0 : x0 == y0
  · simp
  · simp only [Bool.not_true, Bool.false_eq_true, if_false, Sem.run_bind]
    rw [p _ _ x1 w (by simp)]
    simp only [Result.andThen_ok]
    rw [p _ _ y1 w (by simp)]
    simp only [Result.andThen_ok]
    rw [run_u32]
    simp only [Result.andThen_ok]
    cases h1 : x1 == y1
    · simp
    · simp only [Bool.not_true, Bool.false_eq_true, if_false, Sem.run_bind]
      rw [p _ _ x2 w (by simp)]
      simp only [Result.andThen_ok]
      rw [p _ _ y2 w (by simp)]
      simp only [Result.andThen_ok]
      rw [run_u32]
      simp only [Result.andThen_ok]
      cases h2 : x2 == y2
      · simp
      · simp
theorem size23 : (Tryz.prog.info? 47).map (·.size) = some 3 := by kernel_rfl
theorem run_part23 (l : Array Value) (w : World) : (part 47 l 2).run Tryz.prog w = .ok (.agg (l.extract 2 5)) w := by
  have h := size23
  cases hq : Tryz.prog.info? 47 with
  | none => simp [hq] at h
  | some i =>
    have hs : i.size = 3 := by simpa [hq] using h
    simp [part, Sem.run_bind, sizeOf, typeInfo, hq, hs]
theorem fields25 : (Tryz.prog.fieldsOf 49).toList.map (fun f => (f.name == "_", f.type, f.offset)) = [(false, 46, 0), (false, 3, 1), (false, 47, 2)] := by kernel_rfl
theorem names25 : ∃ f g h : Field, (Tryz.prog.fieldsOf 49).toList = [f, g, h] ∧ f.name ≠ "_" ∧ f.type = 46 ∧ f.offset = 0 ∧ g.name ≠ "_" ∧ g.type = 3 ∧ g.offset = 1 ∧ h.name ≠ "_" ∧ h.type = 47 ∧ h.offset = 2 := by
  have k := fields25
  match hq : (Tryz.prog.fieldsOf 49).toList with
  | [f, g, h] =>
    rw [hq] at k
    simp at k
    obtain ⟨⟨a1, a2, a3⟩, ⟨b1, b2, b3⟩, c1, c2, c3⟩ := k
    exact ⟨f, g, h, rfl, a1, a2, a3, b1, b2, b3, c1, c2, c3⟩
  | [] => rw [hq] at k; simp at k
  | [_] => rw [hq] at k; simp at k
  | [_, _] => rw [hq] at k; simp at k
  | _ :: _ :: _ :: _ :: _ => rw [hq] at k; simp at k
theorem desc25 : Tryz.prog.underlying 49 = some (.struct (Tryz.prog.fieldsOf 49)) := by kernel_rfl
theorem stood25 : Tryz.prog.stoodInHeld 49 = false := by kernel_rfl
set_option maxRecDepth 100000 in
theorem run_eqT (s t : Tm) (w : World) : (binOp .eql 49 (.agg #[.int .u32 s.e, .int .i64 s.d, .int .u32 s.a, .int .u32 s.b, .int .u32 s.c]) (.agg #[.int .u32 t.e, .int .i64 t.d, .int .u32 t.a, .int .u32 t.b, .int .u32 t.c])).run Tryz.prog w = .ok (.bool (eqT s t)) w := by
  obtain ⟨f, g, h, hl, f1, f2, f3, g1, g2, g3, h1, h2, h3⟩ := names25
  have q : (Op.equalIn 10000 49 (.agg #[.int .u32 s.e, .int .i64 s.d, .int .u32 s.a, .int .u32 s.b, .int .u32 s.c]) (.agg #[.int .u32 t.e, .int .i64 t.d, .int .u32 t.a, .int .u32 t.b, .int .u32 t.c])).run Tryz.prog w = .ok (s.e == t.e && (s.d == t.d && (s.a == t.a && (s.b == t.b && s.c == t.c)))) w := by
    rw [run_equalIn_struct w 9999 49 _ _ desc25 stood25, hl]
    simp only [Op.eqFields, f1, g1, h1, f2, g2, h2, f3, g3, h3, ne_eq, not_false_eq_true, if_true, Sem.run_bind]
    rw [run_part_plain w plain22 (v := .int .u32 s.e) (by simp)]
    simp only [Result.andThen_ok]
    rw [run_part_plain w plain22 (v := .int .u32 t.e) (by simp)]
    simp only [Result.andThen_ok]
    rw [run_u32]
    simp only [Result.andThen_ok]
    cases e0 : s.e == t.e
    · simp
    · simp only [Bool.not_true, Bool.false_eq_true, if_false, Sem.run_bind]
      rw [run_part_plain w plain3 (v := .int .i64 s.d) (by simp)]
      simp only [Result.andThen_ok]
      rw [run_part_plain w plain3 (v := .int .i64 t.d) (by simp)]
      simp only [Result.andThen_ok]
      rw [run_equalIn_int w 9998 3 .i64 .i64 _ _ Tryz.underlying3]
      simp only [Result.andThen_ok]
      cases e1 : s.d == t.d
      · simp
      · simp only [Bool.not_true, Bool.false_eq_true, if_false, Sem.run_bind]
        rw [run_part23]
        simp only [Result.andThen_ok]
        rw [run_part23]
        simp only [Result.andThen_ok]
        have x1 : ∀ u : Tm, (#[.int .u32 u.e, .int .i64 u.d, .int .u32 u.a, .int .u32 u.b, .int .u32 u.c] : Array Value).extract 2 5 = #[.int .u32 u.a, .int .u32 u.b, .int .u32 u.c] := fun u => by simp
        rw [x1, x1, run_eqA 9997]
        simp only [Result.andThen_ok]
        cases e2 : (s.a == t.a && (s.b == t.b && s.c == t.c))
        · simp
        · simp
  rw [run_eql_struct, q]
  simp only [Result.andThen_ok]
  congr 2
  obtain ⟨se, sd, sa, sb, sc⟩ := s
  obtain ⟨te, td, ta, tb, tc⟩ := t
  rw [Bool.eq_iff_iff]
  simp [eqT]
end Go.Proofs.YtmepiogoofmbbaaGreatDoor.stamp
namespace Go.Proofs.YtmepiogoofmbbaaGreatDoor.stamp
open Go.ChangeShapes Go.WideShapes Go.ChangeAt Go.RowKit
open Go.Proofs.YtmepiogoofmbbaaGreatDoor.tm Go.Proofs.YtmepiogoofmbbaaGreatDoor.opened Go.Proofs.YtmepiogoofmbbaaGreatDoor.block

theorem fresh2 (w : World) (o o' : Obj) : Below w.heap.size w ((w.alloc o).alloc o') := ((Below.refl _ _).alloc (Nat.le_refl _) _).alloc (by simp) _
theorem over2 {w w1 : World} {o o' : Obj} (b1 : Below ((w.alloc o).alloc o').heap.size ((w.alloc o).alloc o') w1) : Below w.heap.size w w1 := (fresh2 _ _ _).trans (b1.mono (by simp; omega))
theorem over1 {w w1 : World} {o : Obj} (b1 : Below (w.alloc o).heap.size (w.alloc o) w1) : Below w.heap.size w w1 := (fresh1 _ _).trans (b1.mono (by simp))
theorem bcell {W w1 : World} (hb : Below W.heap.size W w1) : (∀ b o, b < W.heap.size → w1.cell? ⟨b, o, none⟩ = W.cell? ⟨b, o, none⟩) ∧ (∀ b o, b < W.heap.size → w1.frozen? ⟨b, o, none⟩ = W.frozen? ⟨b, o, none⟩) :=
  ⟨fun b o h => hb.cell (p := ⟨b, o, none⟩) h, fun b o h => hb.frozen (p := ⟨b, o, none⟩) h⟩
theorem tup {a b : Tm} {x y : Int} (h : a = b) (k : x = y) : Ending.returned (.tuple #[.agg #[.int .u32 a.e, .int .i64 a.d, .int .u32 a.a, .int .u32 a.b, .int .u32 a.c], .int .i64 x]) = .returned (.tuple #[.agg #[.int .u32 b.e, .int .i64 b.d, .int .u32 b.a, .int .u32 b.b, .int .u32 b.c], .int .i64 y]) := by rw [h, k]
theorem check_is (t : Tm) (i : t.In) {E : Int} (h : chk t = E) (w : World) : Calls Tryz.prog 33 #[.agg #[.int .u32 t.e, .int .i64 t.d, .int .u32 t.a, .int .u32 t.b, .int .u32 t.c]] w fun e w' => e = .returned (.int .i64 E) ∧ Below w.heap.size w w' := by
  have k := check_any t i w
  rw [h] at k
  exact k
theorem checkR_is (t : Tm) (i : t.In) {E : Int} (h : chk t = E) (w : World) : Calls Tryz.prog 41 #[.agg #[.int .u32 t.e, .int .i64 t.d, .int .u32 t.a, .int .u32 t.b, .int .u32 t.c]] w fun e w' => e = .returned (.int .i64 E) ∧ Below w.heap.size w w' := by
  have k := checkR_any t i w
  rw [h] at k
  exact k
end Go.Proofs.YtmepiogoofmbbaaGreatDoor.stamp
namespace Go.Proofs.YtmepiogoofmbbaaGreatDoor.stamp
open Go.ChangeShapes Go.WideShapes Go.ChangeAt Go.RowKit
open Go.Proofs.YtmepiogoofmbbaaGreatDoor.tm Go.Proofs.YtmepiogoofmbbaaGreatDoor.opened Go.Proofs.YtmepiogoofmbbaaGreatDoor.block

theorem fst2 {w w1 : World} {o o' : Obj} (b1 : Below ((w.alloc o).alloc o').heap.size ((w.alloc o).alloc o') w1) {cs : Array Value} (ho : o = .cells cs 49) : Whole w1 w.heap.size 49 cs := by
  subst ho
  exact Whole.below (Whole.alloc (Whole.fresh w 49 cs) _) b1 (by simp; omega)
theorem put_other {w : World} {g : Nat} {t : TypeId} {cs : Array Value} (h : Whole w g t cs) (i : Nat) : ∀ (v : Value) (j : Nat), i ≠ j → (w.setCell ⟨g, i, none⟩ v).cell? ⟨g, j, none⟩ = cs[j]? := fun v j hj => by
  rw [(h.store i v).read j, Array.getElem?_setIfInBounds_ne hj]
theorem put_same {w : World} {g : Nat} {t : TypeId} {cs : Array Value} (h : Whole w g t cs) (i : Nat) (hi : i < cs.size) : ∀ v : Value, (w.setCell ⟨g, i, none⟩ v).cell? ⟨g, i, none⟩ = some v := fun v => by
  rw [(h.store i v).read i]
  simp [hi]
theorem put2_other {w : World} {g : Nat} {t : TypeId} {cs : Array Value} (h : Whole w g t cs) (i k : Nat) : ∀ (u v : Value) (j : Nat), i ≠ j → k ≠ j → ((w.setCell ⟨g, i, none⟩ u).setCell ⟨g, k, none⟩ v).cell? ⟨g, j, none⟩ = cs[j]? := fun u v j hi hk => by
  rw [((h.store i u).store k v).read j, Array.getElem?_setIfInBounds_ne hk, Array.getElem?_setIfInBounds_ne hi]
theorem put2_first {w : World} {g : Nat} {t : TypeId} {cs : Array Value} (h : Whole w g t cs) (i k : Nat) (hik : k ≠ i) (hi : i < cs.size) : ∀ u v : Value, ((w.setCell ⟨g, i, none⟩ u).setCell ⟨g, k, none⟩ v).cell? ⟨g, i, none⟩ = some u := fun u v => by
  rw [((h.store i u).store k v).read i, Array.getElem?_setIfInBounds_ne hik]
  simp [hi]
theorem put2_second {w : World} {g : Nat} {t : TypeId} {cs : Array Value} (h : Whole w g t cs) (i k : Nat) (hk : k < cs.size) : ∀ u v : Value, ((w.setCell ⟨g, i, none⟩ u).setCell ⟨g, k, none⟩ v).cell? ⟨g, k, none⟩ = some v := fun u v => by
  rw [((h.store i u).store k v).read k]
  simp [hk]
end Go.Proofs.YtmepiogoofmbbaaGreatDoor.stamp
namespace Go.Proofs.YtmepiogoofmbbaaGreatDoor.stamp
open Go.ChangeShapes Go.WideShapes Go.ChangeAt Go.RowKit
open Go.Proofs.YtmepiogoofmbbaaGreatDoor.tm Go.Proofs.YtmepiogoofmbbaaGreatDoor.opened Go.Proofs.YtmepiogoofmbbaaGreatDoor.block

theorem info22' : (Tryz.prog.info? 46).map (fun i => (i.zero, i.size, i.bytes)) = some (some (.int .u32 0), 1, 4) := by kernel_rfl
/-- A slice of the call's own of these numbers. -/
def OwnU (w w' : World) (e : Ending) (l : List Int) : Prop := ∃ b cap, e = .returned (.slice (some ⟨b, 0, none⟩) l.length cap) ∧ w'.ownsRow w.heap.size 46 1 (.slice (some ⟨b, 0, none⟩) l.length cap) l.length (l.map (Value.int .u32)) ∧ Below w.heap.size w w'
theorem oneU (l : List Int) : ∀ u ∈ l.map (Value.int .u32), u.oneCell' = true := by
  intro u hu
  obtain ⟨x, _, rfl⟩ := List.mem_map.1 hu
  rfl
theorem own_lit {W : World} {G base : Nat} {x : Value} (hG : W.heap.size = G) (hb : base ≤ G) : (W.alloc (.cells #[x] 46)).drew.ownsRow base 46 1 (.slice (some ⟨G, 0, none⟩) 1 1) 1 [x] := by
  subst hG
  exact (World.ownsRow_lit (base := base) (e := 46) (size := 1) W #[x] 1 hb (by unfold maxLen; omega) rfl).drew
theorem news1 {w : World} {g k : Nat} {x : Value} (h : w.cell? ⟨g, k + 1, none⟩ = some x) : ∀ j u, [x][j]? = some u → w.cell? ((⟨g, k + 1, none⟩ : Addr).add j) = some u := by
  intro j u hu
  match j with
  | 0 => simp at hu; subst hu; exact h
theorem news2 {w : World} {g k : Nat} {x y : Value} (h : w.cell? ⟨g, k + 1, none⟩ = some x) (i : w.cell? ⟨g, k + 2, none⟩ = some y) : ∀ j u, [x, y][j]? = some u → w.cell? ((⟨g, k + 1, none⟩ : Addr).add j) = some u := by
  intro j u hu
  match j with
  | 0 => simp at hu; subst hu; exact h
  | 1 => simp at hu; subst hu; exact i
theorem news3 {w : World} {g k : Nat} {x y z : Value} (h : w.cell? ⟨g, k + 1, none⟩ = some x) (i : w.cell? ⟨g, k + 2, none⟩ = some y) (l : w.cell? ⟨g, k + 3, none⟩ = some z) : ∀ j u, [x, y, z][j]? = some u → w.cell? ((⟨g, k + 1, none⟩ : Addr).add j) = some u := by
  intro j u hu
  match j with
  | 0 => simp at hu; subst hu; exact h
  | 1 => simp at hu; subst hu; exact i
  | 2 => simp at hu; subst hu; exact l
set_option maxHeartbeats 1000000 in
theorem counts_1 (e a b c : Int) (w : World) : Calls Tryz.prog 34 #[.agg #[.int .u32 e, .int .i64 1, .int .u32 a, .int .u32 b, .int .u32 c]] w fun r w' => OwnU w w' r [e, a] := by
  obtain ⟨i0, hi0, hz0, hz1, hz2⟩ := info_parts info22'
  go_enter Tryz.func34, Tryz.ntmps34
  go_wp2_with fail
  go_region_held3 (fun w' => w'.cell? ⟨w.heap.size, 0, none⟩ = some (.int .u32 e) ∧ w'.cell? ⟨w.heap.size, 1, none⟩ = some (.int .i64 1) ∧ w'.cell? ⟨w.heap.size, 2, none⟩ = some (.int .u32 a) ∧ w'.cell? ⟨w.heap.size, 3, none⟩ = some (.int .u32 b) ∧ w'.cell? ⟨w.heap.size, 4, none⟩ = some (.int .u32 c))
    (first | go_keep | (go_split_ands; refine ⟨?_, ?_, ?_, ?_, ?_⟩ <;> (rw [hgrow.cell_far _ (by simp; omega) (by simp [Value.ownBlock])]; assumption)))
    ((go_split_ands; refine step_append_lies _ (by rfl) _ _ _ (by rfl) w.heap.size 46 i0 _ 1 4 Tryz.underlying58 hi0 hz0 hz1 hz2 rfl (by omega) _ 1 _ (by rfl) (own_lit (by simp) (by omega)) ⟨w.heap.size, 2, none⟩ 1 3 [.int .u32 a] (by rfl) (by rfl) (news1 (k := 1) (by assumption)) (by simp [Value.oneCell']) (by omega) (by decide) (by omega) (by simp; omega) _ rfl ?_; intro gg cap w1 hown1 hgrow hat hlt))
  go_wp2
  go_ret
  exact ⟨gg, cap, rfl, hown1, (((fresh1 w _).alloc (by simp) _).drew).grown hgrow (by simp; omega) (fun k hk => by simp [Value.ownBlock] at hk; omega)⟩
set_option maxHeartbeats 1000000 in
theorem counts_2 (e a b c : Int) (w : World) : Calls Tryz.prog 34 #[.agg #[.int .u32 e, .int .i64 2, .int .u32 a, .int .u32 b, .int .u32 c]] w fun r w' => OwnU w w' r [e, a, b] := by
  obtain ⟨i0, hi0, hz0, hz1, hz2⟩ := info_parts info22'
  go_enter Tryz.func34, Tryz.ntmps34
  go_wp2_with fail
  go_region_held3 (fun w' => w'.cell? ⟨w.heap.size, 0, none⟩ = some (.int .u32 e) ∧ w'.cell? ⟨w.heap.size, 1, none⟩ = some (.int .i64 2) ∧ w'.cell? ⟨w.heap.size, 2, none⟩ = some (.int .u32 a) ∧ w'.cell? ⟨w.heap.size, 3, none⟩ = some (.int .u32 b) ∧ w'.cell? ⟨w.heap.size, 4, none⟩ = some (.int .u32 c))
    (first | go_keep | (go_split_ands; refine ⟨?_, ?_, ?_, ?_, ?_⟩ <;> (rw [hgrow.cell_far _ (by simp; omega) (by simp [Value.ownBlock])]; assumption)))
    ((go_split_ands; refine step_append_lies _ (by rfl) _ _ _ (by rfl) w.heap.size 46 i0 _ 1 4 Tryz.underlying58 hi0 hz0 hz1 hz2 rfl (by omega) _ 1 _ (by rfl) (own_lit (by simp) (by omega)) ⟨w.heap.size, 2, none⟩ 2 3 [.int .u32 a, .int .u32 b] (by rfl) (by rfl) (news2 (k := 1) (by assumption) (by assumption)) (by simp [Value.oneCell']) (by omega) (by decide) (by omega) (by simp; omega) _ rfl ?_; intro gg cap w1 hown1 hgrow hat hlt))
  go_wp2
  go_ret
  exact ⟨gg, cap, rfl, hown1, (((fresh1 w _).alloc (by simp) _).drew).grown hgrow (by simp; omega) (fun k hk => by simp [Value.ownBlock] at hk; omega)⟩
set_option maxHeartbeats 1000000 in
theorem counts_3 (e a b c : Int) (w : World) : Calls Tryz.prog 34 #[.agg #[.int .u32 e, .int .i64 3, .int .u32 a, .int .u32 b, .int .u32 c]] w fun r w' => OwnU w w' r [e, a, b, c] := by
  obtain ⟨i0, hi0, hz0, hz1, hz2⟩ := info_parts info22'
  go_enter Tryz.func34, Tryz.ntmps34
  go_wp2_with fail
  go_region_held3 (fun w' => w'.cell? ⟨w.heap.size, 0, none⟩ = some (.int .u32 e) ∧ w'.cell? ⟨w.heap.size, 1, none⟩ = some (.int .i64 3) ∧ w'.cell? ⟨w.heap.size, 2, none⟩ = some (.int .u32 a) ∧ w'.cell? ⟨w.heap.size, 3, none⟩ = some (.int .u32 b) ∧ w'.cell? ⟨w.heap.size, 4, none⟩ = some (.int .u32 c))
    (first | go_keep | (go_split_ands; refine ⟨?_, ?_, ?_, ?_, ?_⟩ <;> (rw [hgrow.cell_far _ (by simp; omega) (by simp [Value.ownBlock])]; assumption)))
    ((go_split_ands; refine step_append_lies _ (by rfl) _ _ _ (by rfl) w.heap.size 46 i0 _ 1 4 Tryz.underlying58 hi0 hz0 hz1 hz2 rfl (by omega) _ 1 _ (by rfl) (own_lit (by simp) (by omega)) ⟨w.heap.size, 2, none⟩ 3 3 [.int .u32 a, .int .u32 b, .int .u32 c] (by rfl) (by rfl) (news3 (k := 1) (by assumption) (by assumption) (by assumption)) (by simp [Value.oneCell']) (by omega) (by decide) (by omega) (by simp; omega) _ rfl ?_; intro gg cap w1 hown1 hgrow hat hlt))
  go_wp2
  go_ret
  exact ⟨gg, cap, rfl, hown1, (((fresh1 w _).alloc (by simp) _).drew).grown hgrow (by simp; omega) (fun k hk => by simp [Value.ownBlock] at hk; omega)⟩
set_option maxHeartbeats 1000000 in
theorem counts_0 (e a b c : Int) (w : World) : Calls Tryz.prog 34 #[.agg #[.int .u32 e, .int .i64 0, .int .u32 a, .int .u32 b, .int .u32 c]] w fun r w' => OwnU w w' r [e] := by
  obtain ⟨i0, hi0, hz0, hz1, hz2⟩ := info_parts info22'
  clear hz0 hz2
  go_enter Tryz.func34, Tryz.ntmps34
  go_wp2_with fail
  go_region_held3 (fun w' => w'.cell? ⟨w.heap.size, 0, none⟩ = some (.int .u32 e) ∧ w'.cell? ⟨w.heap.size, 1, none⟩ = some (.int .i64 0))
    (go_keep)
    ((go_split_ands; refine step_append_room (by rfl) _ _ _ (by rfl) 46 i0 1 Tryz.underlying58 hi0 hz1 (w.heap.size + 1) 0 1 1 (by rfl) ⟨w.heap.size, 2, none⟩ 0 3 [] (by rfl) (by rfl) (fun j u hu => by simp at hu) (by simp) (by omega) (fun j hj => by simp at hj) ?_; unfold World.setCells))
  go_wp2
  go_ret
  exact ⟨w.heap.size + 1, 1, rfl, own_lit (by simp) (by omega), ((fresh1 w _).alloc (by simp) _).drew⟩
/-- The epoch and the rounds. -/
def cnt (t : Tm) : List Int := if t.d = 0 then [t.e] else if t.d = 1 then [t.e, t.a] else if t.d = 2 then [t.e, t.a, t.b] else [t.e, t.a, t.b, t.c]
theorem counts_any (t : Tm) (h0 : 0 ≤ t.d) (h1 : t.d ≤ 3) (w : World) : Calls Tryz.prog 34 #[.agg #[.int .u32 t.e, .int .i64 t.d, .int .u32 t.a, .int .u32 t.b, .int .u32 t.c]] w fun r w' => OwnU w w' r (cnt t) := by
  obtain ⟨e, d, a, b, c⟩ := t
  dsimp only at *
  have hk : d = 0 ∨ d = 1 ∨ d = 2 ∨ d = 3 := by omega
  rcases hk with rfl | rfl | rfl | rfl
  · exact counts_0 e a b c w
  · exact counts_1 e a b c w
  · exact counts_2 e a b c w
  · exact counts_3 e a b c w
end Go.Proofs.YtmepiogoofmbbaaGreatDoor.stamp
namespace Go.Proofs.YtmepiogoofmbbaaGreatDoor.path
open Go.ChangeShapes Go.WideShapes Go.ChangeAt Go.RowKit
open Go.Proofs.YtmepiogoofmbbaaGreatDoor.tm Go.Proofs.YtmepiogoofmbbaaGreatDoor.opened Go.Proofs.YtmepiogoofmbbaaGreatDoor.block Go.Proofs.YtmepiogoofmbbaaGreatDoor.stamp Go.Proofs.YtmepiogoofmbbaaGreatDoor.pa

theorem range4 : List.range 4 = [0, 1, 2, 3] := by decide
theorem run_part3 (l : Array Value) (k : Nat) (w : World) : (part 47 l k).run Tryz.prog w = .ok (.agg (l.extract k (k + 3))) w := by
  have h := size23
  cases hq : Tryz.prog.info? 47 with
  | none => simp [hq] at h
  | some i =>
    have hs : i.size = 3 := by simpa [hq] using h
    simp [part, Sem.run_bind, sizeOf, typeInfo, hq, hs]
/-- Are two paths one? -/
def eqP (p q : Pa) : Bool := decide (p = q)
theorem eqP_self (p : Pa) : eqP p p = true := by simp [eqP]
theorem eqP_no {p q : Pa} (h : p ≠ q) : eqP p q = false := by simp [eqP, h]
end Go.Proofs.YtmepiogoofmbbaaGreatDoor.path
namespace Go.Proofs.YtmepiogoofmbbaaGreatDoor.path
open Go.ChangeShapes Go.WideShapes Go.ChangeAt Go.RowKit
open Go.Proofs.YtmepiogoofmbbaaGreatDoor.tm Go.Proofs.YtmepiogoofmbbaaGreatDoor.opened Go.Proofs.YtmepiogoofmbbaaGreatDoor.block Go.Proofs.YtmepiogoofmbbaaGreatDoor.stamp Go.Proofs.YtmepiogoofmbbaaGreatDoor.pa

theorem run_ne_agg {P : Program} {t : TypeId} {x y : Array Value} {b : Bool} {w : World} (h : (binOp .eql t (.agg x) (.agg y)).run P w = .ok (.bool b) w) : (binOp .neq t (.agg x) (.agg y)).run P w = .ok (.bool (!b)) w := by
  simp only [binOp, Sem.run_bind, Sem.run_pure] at h ⊢
  cases hr : (Op.equal t (.agg x) (.agg y)).run P w with
  | ok v w2 =>
    rw [hr] at h
    simp only [Result.andThen_ok] at h ⊢
    injection h with h1 h2
    injection h1 with h1
    rw [h1, h2]
  | _ => rw [hr] at h; simp [Result.andThen] at h
end Go.Proofs.YtmepiogoofmbbaaGreatDoor.path
namespace Go.Proofs.YtmepiogoofmbbaaGreatDoor.stamp
open Go.ChangeShapes Go.WideShapes Go.ChangeAt Go.RowKit
open Go.Proofs.YtmepiogoofmbbaaGreatDoor.tm Go.Proofs.YtmepiogoofmbbaaGreatDoor.opened Go.Proofs.YtmepiogoofmbbaaGreatDoor.block

def timeR : Reader (Int × Int × List Int × Unit) := consR 1 (intR .u32) (consR 1 (intR .i64) (consR 3 (arrR 3 1 (intR .u32)) nilR))
set_option maxRecDepth 100000 in
theorem opens_time : Opens Tryz.prog 49 timeR :=
  opens_struct Tryz.underlying49 (by kernel_rfl) (by kernel_rfl) (opensFs_cons (opens_int Tryz.underlying46) (m := 1) (by kernel_rfl) (opensFs_cons (opens_int Tryz.underlying3) (m := 1) (by kernel_rfl) (opensFs_cons (opens_array (n := 3) (m := 1) Tryz.underlying47 (by kernel_rfl) (by kernel_rfl) (opens_int Tryz.underlying46)) (m := 3) (by kernel_rfl) opensFs_nil)))
set_option maxRecDepth 100000 in
theorem time_cells {w : World} {cs : List Value} {p : Int × Int × List Int × Unit} (h : timeR w cs p) : ∃ t : Tm, t.In ∧ cs = #[.int .u32 t.e, .int .i64 t.d, .int .u32 t.a, .int .u32 t.b, .int .u32 t.c].toList := by
  obtain ⟨⟨h1, w1⟩, ⟨h2, w2⟩, ⟨l1, l2, h3⟩, h4⟩ := h
  obtain ⟨e, d, l, u⟩ := p
  dsimp only at *
  match l, l2 with
  | [x, y, z], _ =>
    obtain ⟨k0, v0⟩ := h3 0 x rfl
    obtain ⟨k1, v1⟩ := h3 1 y rfl
    obtain ⟨k2, v2⟩ := h3 2 z rfl
    obtain ⟨a0, a1⟩ := bounds_u32 w1
    obtain ⟨a2, a3⟩ := bounds_i64 w2
    obtain ⟨a4, a5⟩ := bounds_u32 v0
    obtain ⟨a6, a7⟩ := bounds_u32 v1
    obtain ⟨a8, a9⟩ := bounds_u32 v2
    refine ⟨⟨e, d, x, y, z⟩, ⟨a0, by omega, a2, a3, a4, by omega, a6, by omega, a8, by omega⟩, ?_⟩
    unfold nilR at h4
    match cs, h1 with
    | c0 :: cs, h1 =>
      simp at h1
      subst h1
      match cs, h2 with
      | c1 :: cs, h2 =>
        simp at h2
        subst h2
        match cs, k0, k1, k2, h4, l1 with
        | [c2, c3, c4], k0, k1, k2, _, _ => simp at k0 k1 k2; subst k0; subst k1; subst k2; rfl
set_option maxRecDepth 100000 in
theorem top_time {w : World} {r : Reach} {b : Nat} {v : Value} {p : Int × Int × List Int × Unit} (hv : Value.okWide Tryz.prog w r b 49 v) (h : timeR w v.cells.toList p) : ∃ t : Tm, t.In ∧ v = .agg #[.int .u32 t.e, .int .i64 t.d, .int .u32 t.a, .int .u32 t.b, .int .u32 t.c] := by
  obtain ⟨t, i, ht⟩ := time_cells h
  refine ⟨t, i, ?_⟩
  rw [top_struct Tryz.underlying49 hv]
  congr 1
  exact Array.toList_inj.1 ht
end Go.Proofs.YtmepiogoofmbbaaGreatDoor.stamp
