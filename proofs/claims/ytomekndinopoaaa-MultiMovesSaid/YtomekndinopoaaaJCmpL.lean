/-
  The contracts of cmp.Compare, cmp.Or and slices.Compare where stamp.Compare calls them.
  The contracts of stamp.Compare and of watershedref04.Compare, at any two times.
-/
import Derived.Test.YtomekndinopoaaaJLe
import Derived.Test.YtomekndinopoaaaJOpen
import Derived.Deep.RegionWith
import Derived.Deep.RegionHeld3
namespace Go.Proofs.Ytomekndinopoaaa.stamp
open Go.ChangeShapes Go.WideShapes Go.ChangeAt Go.RowKit
open Go.Proofs.Ytomekndinopoaaa.tm Go.Proofs.Ytomekndinopoaaa.opened Go.Proofs.Ytomekndinopoaaa.block

theorem cmp_i64 (x y : Int) (w : World) : Calls Try.prog 81 #[.int .i64 x, .int .i64 y] w fun e w' => e = .returned (.int .i64 (cmpI x y)) ∧ w = w' := by
  by_cases h : x < y
  · rw [show cmpI x y = -1 by simp [cmpI, h]]
    go_enter Try.func81, Try.ntmps81
    go_wp2
    go_ret
    exact ⟨rfl, rfl⟩
  · by_cases k : y < x
    · rw [show cmpI x y = 1 by simp [cmpI, h, k]]
      go_enter Try.func81, Try.ntmps81
      go_wp2
      go_ret
      exact ⟨rfl, rfl⟩
    · rw [show cmpI x y = 0 by simp [cmpI, h, k]]
      go_enter Try.func81, Try.ntmps81
      go_wp2
      go_ret
      exact ⟨rfl, rfl⟩
theorem cmp_u32 (x y : Int) (w : World) : Calls Try.prog 82 #[.int .u32 x, .int .u32 y] w fun e w' => e = .returned (.int .i64 (cmpI x y)) ∧ w = w' := by
  by_cases h : x < y
  · rw [show cmpI x y = -1 by simp [cmpI, h]]
    go_enter Try.func82, Try.ntmps82
    go_wp2
    go_ret
    exact ⟨rfl, rfl⟩
  · by_cases k : y < x
    · rw [show cmpI x y = 1 by simp [cmpI, h, k]]
      go_enter Try.func82, Try.ntmps82
      go_wp2
      go_ret
      exact ⟨rfl, rfl⟩
    · rw [show cmpI x y = 0 by simp [cmpI, h, k]]
      go_enter Try.func82, Try.ntmps82
      go_wp2
      go_ret
      exact ⟨rfl, rfl⟩
theorem cmp_is (x y : Int) {p : Int} (h : cmpI x y = p) (w : World) : Calls Try.prog 82 #[.int .u32 x, .int .u32 y] w fun e w' => e = .returned (.int .i64 p) ∧ w = w' := h ▸ cmp_u32 x y w

theorem or_any (p q r : Int) (g : Nat) (w : World) (c0 : w.cell? ⟨g, 0, none⟩ = some (.int .i64 p)) (c1 : w.cell? ⟨g, 1, none⟩ = some (.int .i64 q)) (c2 : w.cell? ⟨g, 2, none⟩ = some (.int .i64 r)) :
    Calls Try.prog 80 #[.slice (some ⟨g, 0, none⟩) 3 3] w fun e w' => e = .returned (.int .i64 (orI p (orI q r))) ∧ w = w' := by
  generalize hC : orI p (orI q r) = C
  have HC := Lib.hid hC
  clear hC
  go_enter Try.func80, Try.ntmps80
  go_wp2
  refine wp_loop_rounds 4 ?_
  rw [rounds_succ]
  go_wp2
  all_goals try (rw [rounds_succ]; go_wp2)
  all_goals try (rw [rounds_succ]; go_wp2)
  all_goals try (rw [rounds_succ]; go_wp2)
  all_goals go_ret
  all_goals refine ⟨ret_i64 ?_, rfl⟩
  all_goals rw [← HC.out]
  all_goals first | (have z := nz ‹(p != 0) = true›; simp [orI, z]) | (have y := ze ‹(p != 0) = false›; have z := nz ‹(q != 0) = true›; simp [orI, y, z]) | (have y := ze ‹(p != 0) = false›; have x := ze ‹(q != 0) = false›; have z := nz ‹(r != 0) = true›; simp [orI, y, x]) | (have y := ze ‹(p != 0) = false›; have x := ze ‹(q != 0) = false›; have z := ze ‹(r != 0) = false›; simp [orI, y, x, z])
theorem cmp3_any (a b c x y z : Int) (g k : Nat) (w : World) (a0 : w.cell? ⟨g, 2, none⟩ = some (.int .u32 a)) (a1 : w.cell? ⟨g, 3, none⟩ = some (.int .u32 b)) (a2 : w.cell? ⟨g, 4, none⟩ = some (.int .u32 c))
    (b0 : w.cell? ⟨k, 2, none⟩ = some (.int .u32 x)) (b1 : w.cell? ⟨k, 3, none⟩ = some (.int .u32 y)) (b2 : w.cell? ⟨k, 4, none⟩ = some (.int .u32 z)) :
    Calls Try.prog 83 #[.slice (some ⟨g, 2, none⟩) 3 3, .slice (some ⟨k, 2, none⟩) 3 3] w fun e w' => e = .returned (.int .i64 (orI (cmpI a x) (orI (cmpI b y) (cmpI c z)))) ∧ w = w' := by
  generalize hp : cmpI a x = p
  generalize hq : cmpI b y = q
  generalize hr : cmpI c z = r
  have HP := Lib.hid hp
  have HQ := Lib.hid hq
  have HR := Lib.hid hr
  clear hp hq hr
  generalize hC : orI p (orI q r) = C
  have HC := Lib.hid hC
  clear hC
  go_enter Try.func83, Try.ntmps83
  go_wp2
  refine wp_loop_rounds 4 ?_
  rw [rounds_succ]
  go_wp2_with (go_at_call 82; refine (cmp_is _ _ HP.out _).mono ?_; rintro e w' ⟨rfl, rfl⟩)
  all_goals try (rw [rounds_succ]; go_wp2_with (go_at_call 82; refine (cmp_is _ _ HQ.out _).mono ?_; rintro e w' ⟨rfl, rfl⟩))
  all_goals try (rw [rounds_succ]; go_wp2_with (go_at_call 82; refine (cmp_is _ _ HR.out _).mono ?_; rintro e w' ⟨rfl, rfl⟩))
  all_goals try (rw [rounds_succ]; go_wp2)
  all_goals go_ret
  all_goals refine ⟨ret_i64 ?_, rfl⟩
  all_goals rw [← HC.out]
  all_goals first | (have z := nz ‹(p != 0) = true›; simp [orI, z]) | (have y := ze ‹(p != 0) = false›; have z := nz ‹(q != 0) = true›; simp [orI, y, z]) | (have y := ze ‹(p != 0) = false›; have x := ze ‹(q != 0) = false›; have z := nz ‹(r != 0) = true›; simp [orI, y, x]) | (have y := ze ‹(p != 0) = false›; have x := ze ‹(q != 0) = false›; have z := ze ‹(r != 0) = false›; simp [orI, y, x, z])
end Go.Proofs.Ytomekndinopoaaa.stamp
namespace Go.Proofs.Ytomekndinopoaaa.stamp
open Go.ChangeShapes Go.WideShapes Go.ChangeAt Go.RowKit
open Go.Proofs.Ytomekndinopoaaa.tm Go.Proofs.Ytomekndinopoaaa.opened Go.Proofs.Ytomekndinopoaaa.block

theorem run_eq_yes (t : Tm) (w : World) : (binOp .eql 33 (.agg #[.int .u32 t.e, .int .i64 t.d, .int .u32 t.a, .int .u32 t.b, .int .u32 t.c]) (.agg #[.int .u32 t.e, .int .i64 t.d, .int .u32 t.a, .int .u32 t.b, .int .u32 t.c])).run Try.prog w = .ok (.bool true) w := by rw [run_eqT, eqT_self]
theorem run_eq_no {s t : Tm} (h : s ≠ t) (w : World) : (binOp .eql 33 (.agg #[.int .u32 s.e, .int .i64 s.d, .int .u32 s.a, .int .u32 s.b, .int .u32 s.c]) (.agg #[.int .u32 t.e, .int .i64 t.d, .int .u32 t.a, .int .u32 t.b, .int .u32 t.c])).run Try.prog w = .ok (.bool false) w := by rw [run_eqT, eqT_no h]
theorem compare_same (t : Tm) (_i : t.In) (w : World) : Calls Try.prog 62 #[.agg #[.int .u32 t.e, .int .i64 t.d, .int .u32 t.a, .int .u32 t.b, .int .u32 t.c], .agg #[.int .u32 t.e, .int .i64 t.d, .int .u32 t.a, .int .u32 t.b, .int .u32 t.c]] w fun e w' => e = .returned (.int .i64 0) ∧ Below w.heap.size w w' := by
  have he := run_eq_yes t
  go_enter Try.func62, Try.ntmps62
  go_wp2_with (fail)
  go_ret
  exact ⟨rfl, fresh2 _ _ _⟩
theorem or_new (p q r : Int) {W : World} {g : Nat} (hg : W.heap.size = g) :
    Calls Try.prog 80 #[.slice (some ⟨g, 0, none⟩) 3 3] ((W.alloc (.cells #[.int .i64 p, .int .i64 q, .int .i64 r] 3)).drew) fun e w' => e = .returned (.int .i64 (orI p (orI q r))) ∧ ((W.alloc (.cells #[.int .i64 p, .int .i64 q, .int .i64 r] 3)).drew) = w' := by
  subst hg
  have h := Whole.fresh W 3 #[.int .i64 p, .int .i64 q, .int .i64 r]
  exact or_any p q r W.heap.size _ (h.read 0) (h.read 1) (h.read 2)
set_option maxHeartbeats 1000000 in
theorem compare_rest (s t : Tm) (_i : s.In) (_j : t.In) (h : s ≠ t) (w : World) : Calls Try.prog 62 #[.agg #[.int .u32 s.e, .int .i64 s.d, .int .u32 s.a, .int .u32 s.b, .int .u32 s.c], .agg #[.int .u32 t.e, .int .i64 t.d, .int .u32 t.a, .int .u32 t.b, .int .u32 t.c]] w fun e w' => e = .returned (.int .i64 (cmpT s t)) ∧ Below w.heap.size w w' := by
  have he := run_eq_no h
  go_enter Try.func62, Try.ntmps62
  go_wp2_with (fail)
  clear he
  go_region_held3 (fun w' => w'.cell? ⟨w.heap.size, 0, none⟩ = some (.int .u32 s.e) ∧ w'.cell? ⟨w.heap.size, 1, none⟩ = some (.int .i64 s.d) ∧ w'.cell? ⟨w.heap.size, 2, none⟩ = some (.int .u32 s.a) ∧ w'.cell? ⟨w.heap.size, 3, none⟩ = some (.int .u32 s.b) ∧ w'.cell? ⟨w.heap.size, 4, none⟩ = some (.int .u32 s.c) ∧ w'.cell? ⟨w.heap.size + 1, 0, none⟩ = some (.int .u32 t.e) ∧ w'.cell? ⟨w.heap.size + 1, 1, none⟩ = some (.int .i64 t.d) ∧ w'.cell? ⟨w.heap.size + 1, 2, none⟩ = some (.int .u32 t.a) ∧ w'.cell? ⟨w.heap.size + 1, 3, none⟩ = some (.int .u32 t.b) ∧ w'.cell? ⟨w.heap.size + 1, 4, none⟩ = some (.int .u32 t.c))
    (go_keep)
    (first | (go_at_call 81; refine (cmp_i64 _ _ _).mono ?_; rintro e w' ⟨rfl, rfl⟩) | (go_at_call 82; refine (cmp_u32 _ _ _).mono ?_; rintro e w' ⟨rfl, rfl⟩) | (go_at_call 83; refine (cmp3_any s.a s.b s.c t.a t.b t.c _ _ _ ?_ ?_ ?_ ?_ ?_ ?_).mono ?_ <;> first | (rintro e w2 ⟨rfl, rfl⟩) | (go_split_ands; assumption)) | (go_at_call 80; refine (or_new _ _ _ ?_).mono ?_; (simp); rintro e w2 ⟨rfl, rfl⟩))
  all_goals go_wp2
  all_goals go_ret
  all_goals exact ⟨rfl, below_drewN ((fresh2 _ _ _).alloc (by simp; omega) _) 1⟩
theorem compare_any (s t : Tm) (i : s.In) (j : t.In) (w : World) : Calls Try.prog 62 #[.agg #[.int .u32 s.e, .int .i64 s.d, .int .u32 s.a, .int .u32 s.b, .int .u32 s.c], .agg #[.int .u32 t.e, .int .i64 t.d, .int .u32 t.a, .int .u32 t.b, .int .u32 t.c]] w fun e w' => e = .returned (.int .i64 (cmpT s t)) ∧ Below w.heap.size w w' := by
  by_cases h : s = t
  · subst h
    rw [cmpT_self]
    exact compare_same s i w
  · exact compare_rest s t i j h w
end Go.Proofs.Ytomekndinopoaaa.stamp
