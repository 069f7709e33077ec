/-
  The contract of watershedref05.LE, at any two paths.
-/
import Derived.Test.YtggdcnoonmepcaaLeR0
import Derived.Deep.QuietTactic
import Derived.BigQuiet
namespace Go.Proofs.Ytggdcnoonmepcaa.path
open Go.ChangeShapes Go.WideShapes Go.ChangeAt Go.RowKit
open Go.Proofs.Ytggdcnoonmepcaa.tm Go.Proofs.Ytggdcnoonmepcaa.opened Go.Proofs.Ytggdcnoonmepcaa.block Go.Proofs.Ytggdcnoonmepcaa.stamp Go.Proofs.Ytggdcnoonmepcaa.pa

set_option maxHeartbeats 4000000 in
theorem leR_113 (f p0 p1 p2 p3 l0 l1 l2 q0 q1 q2 q3 m0 m1 m2 : Int) (i : (Pa.mk f 1 p0 p1 p2 p3 2 l0 l1 l2).In) (j : (Pa.mk f 1 q0 q1 q2 q3 2 m0 m1 m2).In) (hp : chkP (Pa.mk f 1 p0 p1 p2 p3 2 l0 l1 l2) = 0) (hq : chkP (Pa.mk f 1 q0 q1 q2 q3 2 m0 m1 m2) = 0) (w : World) : Calls Try.prog 30 #[.agg #[.int .i64 (Pa.mk f 1 p0 p1 p2 p3 2 l0 l1 l2).f, .int .i64 (Pa.mk f 1 p0 p1 p2 p3 2 l0 l1 l2).k, .int .u32 (Pa.mk f 1 p0 p1 p2 p3 2 l0 l1 l2).p0, .int .u32 (Pa.mk f 1 p0 p1 p2 p3 2 l0 l1 l2).p1, .int .u32 (Pa.mk f 1 p0 p1 p2 p3 2 l0 l1 l2).p2, .int .u32 (Pa.mk f 1 p0 p1 p2 p3 2 l0 l1 l2).p3, .int .i64 (Pa.mk f 1 p0 p1 p2 p3 2 l0 l1 l2).u, .int .u32 (Pa.mk f 1 p0 p1 p2 p3 2 l0 l1 l2).l0, .int .u32 (Pa.mk f 1 p0 p1 p2 p3 2 l0 l1 l2).l1, .int .u32 (Pa.mk f 1 p0 p1 p2 p3 2 l0 l1 l2).l2], .agg #[.int .i64 (Pa.mk f 1 q0 q1 q2 q3 2 m0 m1 m2).f, .int .i64 (Pa.mk f 1 q0 q1 q2 q3 2 m0 m1 m2).k, .int .u32 (Pa.mk f 1 q0 q1 q2 q3 2 m0 m1 m2).p0, .int .u32 (Pa.mk f 1 q0 q1 q2 q3 2 m0 m1 m2).p1, .int .u32 (Pa.mk f 1 q0 q1 q2 q3 2 m0 m1 m2).p2, .int .u32 (Pa.mk f 1 q0 q1 q2 q3 2 m0 m1 m2).p3, .int .i64 (Pa.mk f 1 q0 q1 q2 q3 2 m0 m1 m2).u, .int .u32 (Pa.mk f 1 q0 q1 q2 q3 2 m0 m1 m2).l0, .int .u32 (Pa.mk f 1 q0 q1 q2 q3 2 m0 m1 m2).l1, .int .u32 (Pa.mk f 1 q0 q1 q2 q3 2 m0 m1 m2).l2]] w fun e w' => e = .returned (.bool (lePB (Pa.mk f 1 p0 p1 p2 p3 2 l0 l1 l2) (Pa.mk f 1 q0 q1 q2 q3 2 m0 m1 m2))) ∧ Below w.heap.size w w' := by
  have A := Lib.hid (chkPR_any _ i)
  have B := Lib.hid (chkPR_any _ j)
  have C := Lib.hid (toR_any _ i)
  have D := Lib.hid (toR_any _ j)
  rw [hp] at A
  rw [hq] at B
  clear i j
  have hl : lePB (Pa.mk f 1 p0 p1 p2 p3 2 l0 l1 l2) (Pa.mk f 1 q0 q1 q2 q3 2 m0 m1 m2) = true ↔ (p0 ≤ q0 ∧ p1 ≤ q1 ∧ l0 ≤ m0 ∧ l1 ≤ m1) := by
    rw [leP_iff, leB_iff]
    simp [hp, hq, fstT, rawT]
  have HL := Lib.hid hl
  clear hl
  generalize lePB (Pa.mk f 1 p0 p1 p2 p3 2 l0 l1 l2) (Pa.mk f 1 q0 q1 q2 q3 2 m0 m1 m2) = r at HL ⊢
  rw [show toV (Pa.mk f 1 p0 p1 p2 p3 2 l0 l1 l2) = 3 by unfold toV; rw [if_pos hp]; rfl] at C
  rw [show toV (Pa.mk f 1 q0 q1 q2 q3 2 m0 m1 m2) = 3 by unfold toV; rw [if_pos hq]; rfl] at D
  clear hp hq
  have h0 := PQ.fresh w 30 (Pa.mk f 1 p0 p1 p2 p3 2 l0 l1 l2) (Pa.mk f 1 q0 q1 q2 q3 2 m0 m1 m2)
  go_enter Try.func30, Try.ntmps30
  go_wp2_with fail
  generalize (w.alloc (.cells #[.int .i64 (Pa.mk f 1 p0 p1 p2 p3 2 l0 l1 l2).f, .int .i64 (Pa.mk f 1 p0 p1 p2 p3 2 l0 l1 l2).k, .int .u32 (Pa.mk f 1 p0 p1 p2 p3 2 l0 l1 l2).p0, .int .u32 (Pa.mk f 1 p0 p1 p2 p3 2 l0 l1 l2).p1, .int .u32 (Pa.mk f 1 p0 p1 p2 p3 2 l0 l1 l2).p2, .int .u32 (Pa.mk f 1 p0 p1 p2 p3 2 l0 l1 l2).p3, .int .i64 (Pa.mk f 1 p0 p1 p2 p3 2 l0 l1 l2).u, .int .u32 (Pa.mk f 1 p0 p1 p2 p3 2 l0 l1 l2).l0, .int .u32 (Pa.mk f 1 p0 p1 p2 p3 2 l0 l1 l2).l1, .int .u32 (Pa.mk f 1 p0 p1 p2 p3 2 l0 l1 l2).l2] 30)).alloc (.cells #[.int .i64 (Pa.mk f 1 q0 q1 q2 q3 2 m0 m1 m2).f, .int .i64 (Pa.mk f 1 q0 q1 q2 q3 2 m0 m1 m2).k, .int .u32 (Pa.mk f 1 q0 q1 q2 q3 2 m0 m1 m2).p0, .int .u32 (Pa.mk f 1 q0 q1 q2 q3 2 m0 m1 m2).p1, .int .u32 (Pa.mk f 1 q0 q1 q2 q3 2 m0 m1 m2).p2, .int .u32 (Pa.mk f 1 q0 q1 q2 q3 2 m0 m1 m2).p3, .int .i64 (Pa.mk f 1 q0 q1 q2 q3 2 m0 m1 m2).u, .int .u32 (Pa.mk f 1 q0 q1 q2 q3 2 m0 m1 m2).l0, .int .u32 (Pa.mk f 1 q0 q1 q2 q3 2 m0 m1 m2).l1, .int .u32 (Pa.mk f 1 q0 q1 q2 q3 2 m0 m1 m2).l2] 30) = W at h0 ⊢
  generalize w.heap.size = g at h0 ⊢
  obtain ⟨c1, c2⟩ := h0.since
  refine region_since W (by kernel_rfl) (by kernel_rfl) (Below.refl _ _) ?_
  repeat (go_big_quiet_step ((first | (go_at_call 24; with_reducible exact since_call A.out _) | (go_at_call 24; with_reducible exact since_call B.out _) | (go_at_call 26; with_reducible exact since_call C.out _) | (go_at_call 26; with_reducible exact since_call D.out _))))
  refine wpQuiet_nil ?_
  rintro w2 ⟨x, hw⟩
  have H := h0.below (hw ▸ x.2)
  clear hw x c1 c2 h0 W
  obtain ⟨pc, pd⟩ := all_of H.one
  obtain ⟨qc, qd⟩ := all_of H.two
  go_wp2_with fail
  refine wp_loop_rounds 5 ?_
  rw [rounds_succ]
  go_wp2_with fail
  go_quiet (fail)
  go_wp2_with fail
  all_goals try (rw [rounds_succ]; go_wp2_with fail; go_quiet (fail); go_wp2_with fail)
  all_goals try (rw [rounds_succ]; go_wp2_with fail)
  all_goals try (refine wp_loop_rounds 5 ?_)
  all_goals try (rw [rounds_succ]; go_wp2_with (first | (go_at_call 26; (with_reducible refine (C.out _).mono ?_); rintro e w5 ⟨rfl, b5⟩; have H' := (PQ.drewN H _).below b5; clear pc pd qc qd b5 H; have H := H'; clear H'; obtain ⟨pc, pd⟩ := all_of H.one; obtain ⟨qc, qd⟩ := all_of H.two) | (go_at_call 26; (with_reducible refine (C.out _).mono ?_); rintro e w5 ⟨rfl, b5⟩; have H' := H.below b5; clear pc pd qc qd b5 H; have H := H'; clear H'; obtain ⟨pc, pd⟩ := all_of H.one; obtain ⟨qc, qd⟩ := all_of H.two) | fail))
  all_goals try (rw [rounds_succ]; go_wp2_with (first | (go_at_call 26; (with_reducible refine (C.out _).mono ?_); rintro e w5 ⟨rfl, b5⟩; have H' := (PQ.drewN H _).below b5; clear pc pd qc qd b5 H; have H := H'; clear H'; obtain ⟨pc, pd⟩ := all_of H.one; obtain ⟨qc, qd⟩ := all_of H.two) | (go_at_call 26; (with_reducible refine (C.out _).mono ?_); rintro e w5 ⟨rfl, b5⟩; have H' := H.below b5; clear pc pd qc qd b5 H; have H := H'; clear H'; obtain ⟨pc, pd⟩ := all_of H.one; obtain ⟨qc, qd⟩ := all_of H.two) | fail))
  all_goals try (rw [rounds_succ]; go_wp2_with (first | (go_at_call 26; (with_reducible refine (C.out _).mono ?_); rintro e w5 ⟨rfl, b5⟩; have H' := (PQ.drewN H _).below b5; clear pc pd qc qd b5 H; have H := H'; clear H'; obtain ⟨pc, pd⟩ := all_of H.one; obtain ⟨qc, qd⟩ := all_of H.two) | (go_at_call 26; (with_reducible refine (C.out _).mono ?_); rintro e w5 ⟨rfl, b5⟩; have H' := H.below b5; clear pc pd qc qd b5 H; have H := H'; clear H'; obtain ⟨pc, pd⟩ := all_of H.one; obtain ⟨qc, qd⟩ := all_of H.two) | fail))
  all_goals go_ret
  all_goals refine ⟨ret_bool ?_, by repeat (first | exact H.old | apply below_drewN)⟩
  all_goals have hl := HL.out
  all_goals cases r
  all_goals simp only [Bool.false_eq_true, false_iff, true_iff] at hl
  all_goals first | rfl | (exfalso; omega)
set_option maxHeartbeats 4000000 in
theorem leR_123 (f p0 p1 p2 p3 l0 l1 l2 q0 q1 q2 q3 m0 m1 m2 : Int) (i : (Pa.mk f 1 p0 p1 p2 p3 2 l0 l1 l2).In) (j : (Pa.mk f 2 q0 q1 q2 q3 1 m0 m1 m2).In) (hp : chkP (Pa.mk f 1 p0 p1 p2 p3 2 l0 l1 l2) = 0) (hq : chkP (Pa.mk f 2 q0 q1 q2 q3 1 m0 m1 m2) = 0) (w : World) : Calls Try.prog 30 #[.agg #[.int .i64 (Pa.mk f 1 p0 p1 p2 p3 2 l0 l1 l2).f, .int .i64 (Pa.mk f 1 p0 p1 p2 p3 2 l0 l1 l2).k, .int .u32 (Pa.mk f 1 p0 p1 p2 p3 2 l0 l1 l2).p0, .int .u32 (Pa.mk f 1 p0 p1 p2 p3 2 l0 l1 l2).p1, .int .u32 (Pa.mk f 1 p0 p1 p2 p3 2 l0 l1 l2).p2, .int .u32 (Pa.mk f 1 p0 p1 p2 p3 2 l0 l1 l2).p3, .int .i64 (Pa.mk f 1 p0 p1 p2 p3 2 l0 l1 l2).u, .int .u32 (Pa.mk f 1 p0 p1 p2 p3 2 l0 l1 l2).l0, .int .u32 (Pa.mk f 1 p0 p1 p2 p3 2 l0 l1 l2).l1, .int .u32 (Pa.mk f 1 p0 p1 p2 p3 2 l0 l1 l2).l2], .agg #[.int .i64 (Pa.mk f 2 q0 q1 q2 q3 1 m0 m1 m2).f, .int .i64 (Pa.mk f 2 q0 q1 q2 q3 1 m0 m1 m2).k, .int .u32 (Pa.mk f 2 q0 q1 q2 q3 1 m0 m1 m2).p0, .int .u32 (Pa.mk f 2 q0 q1 q2 q3 1 m0 m1 m2).p1, .int .u32 (Pa.mk f 2 q0 q1 q2 q3 1 m0 m1 m2).p2, .int .u32 (Pa.mk f 2 q0 q1 q2 q3 1 m0 m1 m2).p3, .int .i64 (Pa.mk f 2 q0 q1 q2 q3 1 m0 m1 m2).u, .int .u32 (Pa.mk f 2 q0 q1 q2 q3 1 m0 m1 m2).l0, .int .u32 (Pa.mk f 2 q0 q1 q2 q3 1 m0 m1 m2).l1, .int .u32 (Pa.mk f 2 q0 q1 q2 q3 1 m0 m1 m2).l2]] w fun e w' => e = .returned (.bool (lePB (Pa.mk f 1 p0 p1 p2 p3 2 l0 l1 l2) (Pa.mk f 2 q0 q1 q2 q3 1 m0 m1 m2))) ∧ Below w.heap.size w w' := by
  have A := Lib.hid (chkPR_any _ i)
  have B := Lib.hid (chkPR_any _ j)
  have C := Lib.hid (toR_any _ i)
  have D := Lib.hid (toR_any _ j)
  rw [hp] at A
  rw [hq] at B
  clear i j
  have hl : lePB (Pa.mk f 1 p0 p1 p2 p3 2 l0 l1 l2) (Pa.mk f 2 q0 q1 q2 q3 1 m0 m1 m2) = true ↔ (p0 ≤ q0 ∧ p1 ≤ q1 ∧ l0 ≤ q2 ∧ l1 ≤ m0) := by
    rw [leP_iff, leB_iff]
    simp [hp, hq, fstT, rawT]
  have HL := Lib.hid hl
  clear hl
  generalize lePB (Pa.mk f 1 p0 p1 p2 p3 2 l0 l1 l2) (Pa.mk f 2 q0 q1 q2 q3 1 m0 m1 m2) = r at HL ⊢
  rw [show toV (Pa.mk f 1 p0 p1 p2 p3 2 l0 l1 l2) = 3 by unfold toV; rw [if_pos hp]; rfl] at C
  rw [show toV (Pa.mk f 2 q0 q1 q2 q3 1 m0 m1 m2) = 3 by unfold toV; rw [if_pos hq]; rfl] at D
  clear hp hq
  have h0 := PQ.fresh w 30 (Pa.mk f 1 p0 p1 p2 p3 2 l0 l1 l2) (Pa.mk f 2 q0 q1 q2 q3 1 m0 m1 m2)
  go_enter Try.func30, Try.ntmps30
  go_wp2_with fail
  generalize (w.alloc (.cells #[.int .i64 (Pa.mk f 1 p0 p1 p2 p3 2 l0 l1 l2).f, .int .i64 (Pa.mk f 1 p0 p1 p2 p3 2 l0 l1 l2).k, .int .u32 (Pa.mk f 1 p0 p1 p2 p3 2 l0 l1 l2).p0, .int .u32 (Pa.mk f 1 p0 p1 p2 p3 2 l0 l1 l2).p1, .int .u32 (Pa.mk f 1 p0 p1 p2 p3 2 l0 l1 l2).p2, .int .u32 (Pa.mk f 1 p0 p1 p2 p3 2 l0 l1 l2).p3, .int .i64 (Pa.mk f 1 p0 p1 p2 p3 2 l0 l1 l2).u, .int .u32 (Pa.mk f 1 p0 p1 p2 p3 2 l0 l1 l2).l0, .int .u32 (Pa.mk f 1 p0 p1 p2 p3 2 l0 l1 l2).l1, .int .u32 (Pa.mk f 1 p0 p1 p2 p3 2 l0 l1 l2).l2] 30)).alloc (.cells #[.int .i64 (Pa.mk f 2 q0 q1 q2 q3 1 m0 m1 m2).f, .int .i64 (Pa.mk f 2 q0 q1 q2 q3 1 m0 m1 m2).k, .int .u32 (Pa.mk f 2 q0 q1 q2 q3 1 m0 m1 m2).p0, .int .u32 (Pa.mk f 2 q0 q1 q2 q3 1 m0 m1 m2).p1, .int .u32 (Pa.mk f 2 q0 q1 q2 q3 1 m0 m1 m2).p2, .int .u32 (Pa.mk f 2 q0 q1 q2 q3 1 m0 m1 m2).p3, .int .i64 (Pa.mk f 2 q0 q1 q2 q3 1 m0 m1 m2).u, .int .u32 (Pa.mk f 2 q0 q1 q2 q3 1 m0 m1 m2).l0, .int .u32 (Pa.mk f 2 q0 q1 q2 q3 1 m0 m1 m2).l1, .int .u32 (Pa.mk f 2 q0 q1 q2 q3 1 m0 m1 m2).l2] 30) = W at h0 ⊢
  generalize w.heap.size = g at h0 ⊢
  obtain ⟨c1, c2⟩ := h0.since
  refine region_since W (by kernel_rfl) (by kernel_rfl) (Below.refl _ _) ?_
  repeat (go_big_quiet_step ((first | (go_at_call 24; with_reducible exact since_call A.out _) | (go_at_call 24; with_reducible exact since_call B.out _) | (go_at_call 26; with_reducible exact since_call C.out _) | (go_at_call 26; with_reducible exact since_call D.out _))))
  refine wpQuiet_nil ?_
  rintro w2 ⟨x, hw⟩
  have H := h0.below (hw ▸ x.2)
  clear hw x c1 c2 h0 W
  obtain ⟨pc, pd⟩ := all_of H.one
  obtain ⟨qc, qd⟩ := all_of H.two
  go_wp2_with fail
  refine wp_loop_rounds 5 ?_
  rw [rounds_succ]
  go_wp2_with fail
  go_quiet (fail)
  go_wp2_with fail
  all_goals try (rw [rounds_succ]; go_wp2_with fail; go_quiet (fail); go_wp2_with fail)
  all_goals try (rw [rounds_succ]; go_wp2_with fail)
  all_goals try (refine wp_loop_rounds 5 ?_)
  all_goals try (rw [rounds_succ]; go_wp2_with (first | (go_at_call 26; (with_reducible refine (C.out _).mono ?_); rintro e w5 ⟨rfl, b5⟩; have H' := (PQ.drewN H _).below b5; clear pc pd qc qd b5 H; have H := H'; clear H'; obtain ⟨pc, pd⟩ := all_of H.one; obtain ⟨qc, qd⟩ := all_of H.two) | (go_at_call 26; (with_reducible refine (C.out _).mono ?_); rintro e w5 ⟨rfl, b5⟩; have H' := H.below b5; clear pc pd qc qd b5 H; have H := H'; clear H'; obtain ⟨pc, pd⟩ := all_of H.one; obtain ⟨qc, qd⟩ := all_of H.two) | fail))
  all_goals try (rw [rounds_succ]; go_wp2_with (first | (go_at_call 26; (with_reducible refine (C.out _).mono ?_); rintro e w5 ⟨rfl, b5⟩; have H' := (PQ.drewN H _).below b5; clear pc pd qc qd b5 H; have H := H'; clear H'; obtain ⟨pc, pd⟩ := all_of H.one; obtain ⟨qc, qd⟩ := all_of H.two) | (go_at_call 26; (with_reducible refine (C.out _).mono ?_); rintro e w5 ⟨rfl, b5⟩; have H' := H.below b5; clear pc pd qc qd b5 H; have H := H'; clear H'; obtain ⟨pc, pd⟩ := all_of H.one; obtain ⟨qc, qd⟩ := all_of H.two) | fail))
  all_goals try (rw [rounds_succ]; go_wp2_with (first | (go_at_call 26; (with_reducible refine (C.out _).mono ?_); rintro e w5 ⟨rfl, b5⟩; have H' := (PQ.drewN H _).below b5; clear pc pd qc qd b5 H; have H := H'; clear H'; obtain ⟨pc, pd⟩ := all_of H.one; obtain ⟨qc, qd⟩ := all_of H.two) | (go_at_call 26; (with_reducible refine (C.out _).mono ?_); rintro e w5 ⟨rfl, b5⟩; have H' := H.below b5; clear pc pd qc qd b5 H; have H := H'; clear H'; obtain ⟨pc, pd⟩ := all_of H.one; obtain ⟨qc, qd⟩ := all_of H.two) | fail))
  all_goals go_ret
  all_goals refine ⟨ret_bool ?_, by repeat (first | exact H.old | apply below_drewN)⟩
  all_goals have hl := HL.out
  all_goals cases r
  all_goals simp only [Bool.false_eq_true, false_iff, true_iff] at hl
  all_goals first | rfl | (exfalso; omega)
set_option maxHeartbeats 4000000 in
theorem leR_133 (f p0 p1 p2 p3 l0 l1 l2 q0 q1 q2 q3 m0 m1 m2 : Int) (i : (Pa.mk f 1 p0 p1 p2 p3 2 l0 l1 l2).In) (j : (Pa.mk f 3 q0 q1 q2 q3 0 m0 m1 m2).In) (hp : chkP (Pa.mk f 1 p0 p1 p2 p3 2 l0 l1 l2) = 0) (hq : chkP (Pa.mk f 3 q0 q1 q2 q3 0 m0 m1 m2) = 0) (w : World) : Calls Try.prog 30 #[.agg #[.int .i64 (Pa.mk f 1 p0 p1 p2 p3 2 l0 l1 l2).f, .int .i64 (Pa.mk f 1 p0 p1 p2 p3 2 l0 l1 l2).k, .int .u32 (Pa.mk f 1 p0 p1 p2 p3 2 l0 l1 l2).p0, .int .u32 (Pa.mk f 1 p0 p1 p2 p3 2 l0 l1 l2).p1, .int .u32 (Pa.mk f 1 p0 p1 p2 p3 2 l0 l1 l2).p2, .int .u32 (Pa.mk f 1 p0 p1 p2 p3 2 l0 l1 l2).p3, .int .i64 (Pa.mk f 1 p0 p1 p2 p3 2 l0 l1 l2).u, .int .u32 (Pa.mk f 1 p0 p1 p2 p3 2 l0 l1 l2).l0, .int .u32 (Pa.mk f 1 p0 p1 p2 p3 2 l0 l1 l2).l1, .int .u32 (Pa.mk f 1 p0 p1 p2 p3 2 l0 l1 l2).l2], .agg #[.int .i64 (Pa.mk f 3 q0 q1 q2 q3 0 m0 m1 m2).f, .int .i64 (Pa.mk f 3 q0 q1 q2 q3 0 m0 m1 m2).k, .int .u32 (Pa.mk f 3 q0 q1 q2 q3 0 m0 m1 m2).p0, .int .u32 (Pa.mk f 3 q0 q1 q2 q3 0 m0 m1 m2).p1, .int .u32 (Pa.mk f 3 q0 q1 q2 q3 0 m0 m1 m2).p2, .int .u32 (Pa.mk f 3 q0 q1 q2 q3 0 m0 m1 m2).p3, .int .i64 (Pa.mk f 3 q0 q1 q2 q3 0 m0 m1 m2).u, .int .u32 (Pa.mk f 3 q0 q1 q2 q3 0 m0 m1 m2).l0, .int .u32 (Pa.mk f 3 q0 q1 q2 q3 0 m0 m1 m2).l1, .int .u32 (Pa.mk f 3 q0 q1 q2 q3 0 m0 m1 m2).l2]] w fun e w' => e = .returned (.bool (lePB (Pa.mk f 1 p0 p1 p2 p3 2 l0 l1 l2) (Pa.mk f 3 q0 q1 q2 q3 0 m0 m1 m2))) ∧ Below w.heap.size w w' := by
  have A := Lib.hid (chkPR_any _ i)
  have B := Lib.hid (chkPR_any _ j)
  have C := Lib.hid (toR_any _ i)
  have D := Lib.hid (toR_any _ j)
  rw [hp] at A
  rw [hq] at B
  clear i j
  have hl : lePB (Pa.mk f 1 p0 p1 p2 p3 2 l0 l1 l2) (Pa.mk f 3 q0 q1 q2 q3 0 m0 m1 m2) = true ↔ (p0 ≤ q0 ∧ p1 ≤ q1 ∧ l0 ≤ q2 ∧ l1 ≤ q3) := by
    rw [leP_iff, leB_iff]
    simp [hp, hq, fstT, rawT]
  have HL := Lib.hid hl
  clear hl
  generalize lePB (Pa.mk f 1 p0 p1 p2 p3 2 l0 l1 l2) (Pa.mk f 3 q0 q1 q2 q3 0 m0 m1 m2) = r at HL ⊢
  rw [show toV (Pa.mk f 1 p0 p1 p2 p3 2 l0 l1 l2) = 3 by unfold toV; rw [if_pos hp]; rfl] at C
  rw [show toV (Pa.mk f 3 q0 q1 q2 q3 0 m0 m1 m2) = 3 by unfold toV; rw [if_pos hq]; rfl] at D
  clear hp hq
  have h0 := PQ.fresh w 30 (Pa.mk f 1 p0 p1 p2 p3 2 l0 l1 l2) (Pa.mk f 3 q0 q1 q2 q3 0 m0 m1 m2)
  go_enter Try.func30, Try.ntmps30
  go_wp2_with fail
  generalize (w.alloc (.cells #[.int .i64 (Pa.mk f 1 p0 p1 p2 p3 2 l0 l1 l2).f, .int .i64 (Pa.mk f 1 p0 p1 p2 p3 2 l0 l1 l2).k, .int .u32 (Pa.mk f 1 p0 p1 p2 p3 2 l0 l1 l2).p0, .int .u32 (Pa.mk f 1 p0 p1 p2 p3 2 l0 l1 l2).p1, .int .u32 (Pa.mk f 1 p0 p1 p2 p3 2 l0 l1 l2).p2, .int .u32 (Pa.mk f 1 p0 p1 p2 p3 2 l0 l1 l2).p3, .int .i64 (Pa.mk f 1 p0 p1 p2 p3 2 l0 l1 l2).u, .int .u32 (Pa.mk f 1 p0 p1 p2 p3 2 l0 l1 l2).l0, .int .u32 (Pa.mk f 1 p0 p1 p2 p3 2 l0 l1 l2).l1, .int .u32 (Pa.mk f 1 p0 p1 p2 p3 2 l0 l1 l2).l2] 30)).alloc (.cells #[.int .i64 (Pa.mk f 3 q0 q1 q2 q3 0 m0 m1 m2).f, .int .i64 (Pa.mk f 3 q0 q1 q2 q3 0 m0 m1 m2).k, .int .u32 (Pa.mk f 3 q0 q1 q2 q3 0 m0 m1 m2).p0, .int .u32 (Pa.mk f 3 q0 q1 q2 q3 0 m0 m1 m2).p1, .int .u32 (Pa.mk f 3 q0 q1 q2 q3 0 m0 m1 m2).p2, .int .u32 (Pa.mk f 3 q0 q1 q2 q3 0 m0 m1 m2).p3, .int .i64 (Pa.mk f 3 q0 q1 q2 q3 0 m0 m1 m2).u, .int .u32 (Pa.mk f 3 q0 q1 q2 q3 0 m0 m1 m2).l0, .int .u32 (Pa.mk f 3 q0 q1 q2 q3 0 m0 m1 m2).l1, .int .u32 (Pa.mk f 3 q0 q1 q2 q3 0 m0 m1 m2).l2] 30) = W at h0 ⊢
  generalize w.heap.size = g at h0 ⊢
  obtain ⟨c1, c2⟩ := h0.since
  refine region_since W (by kernel_rfl) (by kernel_rfl) (Below.refl _ _) ?_
  repeat (go_big_quiet_step ((first | (go_at_call 24; with_reducible exact since_call A.out _) | (go_at_call 24; with_reducible exact since_call B.out _) | (go_at_call 26; with_reducible exact since_call C.out _) | (go_at_call 26; with_reducible exact since_call D.out _))))
  refine wpQuiet_nil ?_
  rintro w2 ⟨x, hw⟩
  have H := h0.below (hw ▸ x.2)
  clear hw x c1 c2 h0 W
  obtain ⟨pc, pd⟩ := all_of H.one
  obtain ⟨qc, qd⟩ := all_of H.two
  go_wp2_with fail
  refine wp_loop_rounds 5 ?_
  rw [rounds_succ]
  go_wp2_with fail
  go_quiet (fail)
  go_wp2_with fail
  all_goals try (rw [rounds_succ]; go_wp2_with fail; go_quiet (fail); go_wp2_with fail)
  all_goals try (rw [rounds_succ]; go_wp2_with fail)
  all_goals try (refine wp_loop_rounds 5 ?_)
  all_goals try (rw [rounds_succ]; go_wp2_with (first | (go_at_call 26; (with_reducible refine (C.out _).mono ?_); rintro e w5 ⟨rfl, b5⟩; have H' := (PQ.drewN H _).below b5; clear pc pd qc qd b5 H; have H := H'; clear H'; obtain ⟨pc, pd⟩ := all_of H.one; obtain ⟨qc, qd⟩ := all_of H.two) | (go_at_call 26; (with_reducible refine (C.out _).mono ?_); rintro e w5 ⟨rfl, b5⟩; have H' := H.below b5; clear pc pd qc qd b5 H; have H := H'; clear H'; obtain ⟨pc, pd⟩ := all_of H.one; obtain ⟨qc, qd⟩ := all_of H.two) | fail))
  all_goals try (rw [rounds_succ]; go_wp2_with (first | (go_at_call 26; (with_reducible refine (C.out _).mono ?_); rintro e w5 ⟨rfl, b5⟩; have H' := (PQ.drewN H _).below b5; clear pc pd qc qd b5 H; have H := H'; clear H'; obtain ⟨pc, pd⟩ := all_of H.one; obtain ⟨qc, qd⟩ := all_of H.two) | (go_at_call 26; (with_reducible refine (C.out _).mono ?_); rintro e w5 ⟨rfl, b5⟩; have H' := H.below b5; clear pc pd qc qd b5 H; have H := H'; clear H'; obtain ⟨pc, pd⟩ := all_of H.one; obtain ⟨qc, qd⟩ := all_of H.two) | fail))
  all_goals try (rw [rounds_succ]; go_wp2_with (first | (go_at_call 26; (with_reducible refine (C.out _).mono ?_); rintro e w5 ⟨rfl, b5⟩; have H' := (PQ.drewN H _).below b5; clear pc pd qc qd b5 H; have H := H'; clear H'; obtain ⟨pc, pd⟩ := all_of H.one; obtain ⟨qc, qd⟩ := all_of H.two) | (go_at_call 26; (with_reducible refine (C.out _).mono ?_); rintro e w5 ⟨rfl, b5⟩; have H' := H.below b5; clear pc pd qc qd b5 H; have H := H'; clear H'; obtain ⟨pc, pd⟩ := all_of H.one; obtain ⟨qc, qd⟩ := all_of H.two) | fail))
  all_goals go_ret
  all_goals refine ⟨ret_bool ?_, by repeat (first | exact H.old | apply below_drewN)⟩
  all_goals have hl := HL.out
  all_goals cases r
  all_goals simp only [Bool.false_eq_true, false_iff, true_iff] at hl
  all_goals first | rfl | (exfalso; omega)
set_option maxHeartbeats 4000000 in
theorem leR_223 (f p0 p1 p2 p3 l0 l1 l2 q0 q1 q2 q3 m0 m1 m2 : Int) (i : (Pa.mk f 2 p0 p1 p2 p3 1 l0 l1 l2).In) (j : (Pa.mk f 2 q0 q1 q2 q3 1 m0 m1 m2).In) (hp : chkP (Pa.mk f 2 p0 p1 p2 p3 1 l0 l1 l2) = 0) (hq : chkP (Pa.mk f 2 q0 q1 q2 q3 1 m0 m1 m2) = 0) (w : World) : Calls Try.prog 30 #[.agg #[.int .i64 (Pa.mk f 2 p0 p1 p2 p3 1 l0 l1 l2).f, .int .i64 (Pa.mk f 2 p0 p1 p2 p3 1 l0 l1 l2).k, .int .u32 (Pa.mk f 2 p0 p1 p2 p3 1 l0 l1 l2).p0, .int .u32 (Pa.mk f 2 p0 p1 p2 p3 1 l0 l1 l2).p1, .int .u32 (Pa.mk f 2 p0 p1 p2 p3 1 l0 l1 l2).p2, .int .u32 (Pa.mk f 2 p0 p1 p2 p3 1 l0 l1 l2).p3, .int .i64 (Pa.mk f 2 p0 p1 p2 p3 1 l0 l1 l2).u, .int .u32 (Pa.mk f 2 p0 p1 p2 p3 1 l0 l1 l2).l0, .int .u32 (Pa.mk f 2 p0 p1 p2 p3 1 l0 l1 l2).l1, .int .u32 (Pa.mk f 2 p0 p1 p2 p3 1 l0 l1 l2).l2], .agg #[.int .i64 (Pa.mk f 2 q0 q1 q2 q3 1 m0 m1 m2).f, .int .i64 (Pa.mk f 2 q0 q1 q2 q3 1 m0 m1 m2).k, .int .u32 (Pa.mk f 2 q0 q1 q2 q3 1 m0 m1 m2).p0, .int .u32 (Pa.mk f 2 q0 q1 q2 q3 1 m0 m1 m2).p1, .int .u32 (Pa.mk f 2 q0 q1 q2 q3 1 m0 m1 m2).p2, .int .u32 (Pa.mk f 2 q0 q1 q2 q3 1 m0 m1 m2).p3, .int .i64 (Pa.mk f 2 q0 q1 q2 q3 1 m0 m1 m2).u, .int .u32 (Pa.mk f 2 q0 q1 q2 q3 1 m0 m1 m2).l0, .int .u32 (Pa.mk f 2 q0 q1 q2 q3 1 m0 m1 m2).l1, .int .u32 (Pa.mk f 2 q0 q1 q2 q3 1 m0 m1 m2).l2]] w fun e w' => e = .returned (.bool (lePB (Pa.mk f 2 p0 p1 p2 p3 1 l0 l1 l2) (Pa.mk f 2 q0 q1 q2 q3 1 m0 m1 m2))) ∧ Below w.heap.size w w' := by
  have A := Lib.hid (chkPR_any _ i)
  have B := Lib.hid (chkPR_any _ j)
  have C := Lib.hid (toR_any _ i)
  have D := Lib.hid (toR_any _ j)
  rw [hp] at A
  rw [hq] at B
  clear i j
  have hl : lePB (Pa.mk f 2 p0 p1 p2 p3 1 l0 l1 l2) (Pa.mk f 2 q0 q1 q2 q3 1 m0 m1 m2) = true ↔ (p0 ≤ q0 ∧ p1 ≤ q1 ∧ p2 ≤ q2 ∧ l0 ≤ m0) := by
    rw [leP_iff, leB_iff]
    simp [hp, hq, fstT, rawT]
  have HL := Lib.hid hl
  clear hl
  generalize lePB (Pa.mk f 2 p0 p1 p2 p3 1 l0 l1 l2) (Pa.mk f 2 q0 q1 q2 q3 1 m0 m1 m2) = r at HL ⊢
  rw [show toV (Pa.mk f 2 p0 p1 p2 p3 1 l0 l1 l2) = 3 by unfold toV; rw [if_pos hp]; rfl] at C
  rw [show toV (Pa.mk f 2 q0 q1 q2 q3 1 m0 m1 m2) = 3 by unfold toV; rw [if_pos hq]; rfl] at D
  clear hp hq
  have h0 := PQ.fresh w 30 (Pa.mk f 2 p0 p1 p2 p3 1 l0 l1 l2) (Pa.mk f 2 q0 q1 q2 q3 1 m0 m1 m2)
  go_enter Try.func30, Try.ntmps30
  go_wp2_with fail
  generalize (w.alloc (.cells #[.int .i64 (Pa.mk f 2 p0 p1 p2 p3 1 l0 l1 l2).f, .int .i64 (Pa.mk f 2 p0 p1 p2 p3 1 l0 l1 l2).k, .int .u32 (Pa.mk f 2 p0 p1 p2 p3 1 l0 l1 l2).p0, .int .u32 (Pa.mk f 2 p0 p1 p2 p3 1 l0 l1 l2).p1, .int .u32 (Pa.mk f 2 p0 p1 p2 p3 1 l0 l1 l2).p2, .int .u32 (Pa.mk f 2 p0 p1 p2 p3 1 l0 l1 l2).p3, .int .i64 (Pa.mk f 2 p0 p1 p2 p3 1 l0 l1 l2).u, .int .u32 (Pa.mk f 2 p0 p1 p2 p3 1 l0 l1 l2).l0, .int .u32 (Pa.mk f 2 p0 p1 p2 p3 1 l0 l1 l2).l1, .int .u32 (Pa.mk f 2 p0 p1 p2 p3 1 l0 l1 l2).l2] 30)).alloc (.cells #[.int .i64 (Pa.mk f 2 q0 q1 q2 q3 1 m0 m1 m2).f, .int .i64 (Pa.mk f 2 q0 q1 q2 q3 1 m0 m1 m2).k, .int .u32 (Pa.mk f 2 q0 q1 q2 q3 1 m0 m1 m2).p0, .int .u32 (Pa.mk f 2 q0 q1 q2 q3 1 m0 m1 m2).p1, .int .u32 (Pa.mk f 2 q0 q1 q2 q3 1 m0 m1 m2).p2, .int .u32 (Pa.mk f 2 q0 q1 q2 q3 1 m0 m1 m2).p3, .int .i64 (Pa.mk f 2 q0 q1 q2 q3 1 m0 m1 m2).u, .int .u32 (Pa.mk f 2 q0 q1 q2 q3 1 m0 m1 m2).l0, .int .u32 (Pa.mk f 2 q0 q1 q2 q3 1 m0 m1 m2).l1, .int .u32 (Pa.mk f 2 q0 q1 q2 q3 1 m0 m1 m2).l2] 30) = W at h0 ⊢
  generalize w.heap.size = g at h0 ⊢
  obtain ⟨c1, c2⟩ := h0.since
  refine region_since W (by kernel_rfl) (by kernel_rfl) (Below.refl _ _) ?_
  repeat (go_big_quiet_step ((first | (go_at_call 24; with_reducible exact since_call A.out _) | (go_at_call 24; with_reducible exact since_call B.out _) | (go_at_call 26; with_reducible exact since_call C.out _) | (go_at_call 26; with_reducible exact since_call D.out _))))
  refine wpQuiet_nil ?_
  rintro w2 ⟨x, hw⟩
  have H := h0.below (hw ▸ x.2)
  clear hw x c1 c2 h0 W
  obtain ⟨pc, pd⟩ := all_of H.one
  obtain ⟨qc, qd⟩ := all_of H.two
  go_wp2_with fail
  refine wp_loop_rounds 5 ?_
  rw [rounds_succ]
  go_wp2_with fail
  go_quiet (fail)
  go_wp2_with fail
  all_goals try (rw [rounds_succ]; go_wp2_with fail; go_quiet (fail); go_wp2_with fail)
  all_goals try (rw [rounds_succ]; go_wp2_with fail; go_quiet (fail); go_wp2_with fail)
  all_goals try (rw [rounds_succ]; go_wp2_with fail)
  all_goals try (refine wp_loop_rounds 5 ?_)
  all_goals try (rw [rounds_succ]; go_wp2_with (first | (go_at_call 26; (with_reducible refine (C.out _).mono ?_); rintro e w5 ⟨rfl, b5⟩; have H' := (PQ.drewN H _).below b5; clear pc pd qc qd b5 H; have H := H'; clear H'; obtain ⟨pc, pd⟩ := all_of H.one; obtain ⟨qc, qd⟩ := all_of H.two) | (go_at_call 26; (with_reducible refine (C.out _).mono ?_); rintro e w5 ⟨rfl, b5⟩; have H' := H.below b5; clear pc pd qc qd b5 H; have H := H'; clear H'; obtain ⟨pc, pd⟩ := all_of H.one; obtain ⟨qc, qd⟩ := all_of H.two) | fail))
  all_goals try (rw [rounds_succ]; go_wp2_with (first | (go_at_call 26; (with_reducible refine (C.out _).mono ?_); rintro e w5 ⟨rfl, b5⟩; have H' := (PQ.drewN H _).below b5; clear pc pd qc qd b5 H; have H := H'; clear H'; obtain ⟨pc, pd⟩ := all_of H.one; obtain ⟨qc, qd⟩ := all_of H.two) | (go_at_call 26; (with_reducible refine (C.out _).mono ?_); rintro e w5 ⟨rfl, b5⟩; have H' := H.below b5; clear pc pd qc qd b5 H; have H := H'; clear H'; obtain ⟨pc, pd⟩ := all_of H.one; obtain ⟨qc, qd⟩ := all_of H.two) | fail))
  all_goals go_ret
  all_goals refine ⟨ret_bool ?_, by repeat (first | exact H.old | apply below_drewN)⟩
  all_goals have hl := HL.out
  all_goals cases r
  all_goals simp only [Bool.false_eq_true, false_iff, true_iff] at hl
  all_goals first | rfl | (exfalso; omega)
set_option maxHeartbeats 4000000 in
theorem leR_233 (f p0 p1 p2 p3 l0 l1 l2 q0 q1 q2 q3 m0 m1 m2 : Int) (i : (Pa.mk f 2 p0 p1 p2 p3 1 l0 l1 l2).In) (j : (Pa.mk f 3 q0 q1 q2 q3 0 m0 m1 m2).In) (hp : chkP (Pa.mk f 2 p0 p1 p2 p3 1 l0 l1 l2) = 0) (hq : chkP (Pa.mk f 3 q0 q1 q2 q3 0 m0 m1 m2) = 0) (w : World) : Calls Try.prog 30 #[.agg #[.int .i64 (Pa.mk f 2 p0 p1 p2 p3 1 l0 l1 l2).f, .int .i64 (Pa.mk f 2 p0 p1 p2 p3 1 l0 l1 l2).k, .int .u32 (Pa.mk f 2 p0 p1 p2 p3 1 l0 l1 l2).p0, .int .u32 (Pa.mk f 2 p0 p1 p2 p3 1 l0 l1 l2).p1, .int .u32 (Pa.mk f 2 p0 p1 p2 p3 1 l0 l1 l2).p2, .int .u32 (Pa.mk f 2 p0 p1 p2 p3 1 l0 l1 l2).p3, .int .i64 (Pa.mk f 2 p0 p1 p2 p3 1 l0 l1 l2).u, .int .u32 (Pa.mk f 2 p0 p1 p2 p3 1 l0 l1 l2).l0, .int .u32 (Pa.mk f 2 p0 p1 p2 p3 1 l0 l1 l2).l1, .int .u32 (Pa.mk f 2 p0 p1 p2 p3 1 l0 l1 l2).l2], .agg #[.int .i64 (Pa.mk f 3 q0 q1 q2 q3 0 m0 m1 m2).f, .int .i64 (Pa.mk f 3 q0 q1 q2 q3 0 m0 m1 m2).k, .int .u32 (Pa.mk f 3 q0 q1 q2 q3 0 m0 m1 m2).p0, .int .u32 (Pa.mk f 3 q0 q1 q2 q3 0 m0 m1 m2).p1, .int .u32 (Pa.mk f 3 q0 q1 q2 q3 0 m0 m1 m2).p2, .int .u32 (Pa.mk f 3 q0 q1 q2 q3 0 m0 m1 m2).p3, .int .i64 (Pa.mk f 3 q0 q1 q2 q3 0 m0 m1 m2).u, .int .u32 (Pa.mk f 3 q0 q1 q2 q3 0 m0 m1 m2).l0, .int .u32 (Pa.mk f 3 q0 q1 q2 q3 0 m0 m1 m2).l1, .int .u32 (Pa.mk f 3 q0 q1 q2 q3 0 m0 m1 m2).l2]] w fun e w' => e = .returned (.bool (lePB (Pa.mk f 2 p0 p1 p2 p3 1 l0 l1 l2) (Pa.mk f 3 q0 q1 q2 q3 0 m0 m1 m2))) ∧ Below w.heap.size w w' := by
  have A := Lib.hid (chkPR_any _ i)
  have B := Lib.hid (chkPR_any _ j)
  have C := Lib.hid (toR_any _ i)
  have D := Lib.hid (toR_any _ j)
  rw [hp] at A
  rw [hq] at B
  clear i j
  have hl : lePB (Pa.mk f 2 p0 p1 p2 p3 1 l0 l1 l2) (Pa.mk f 3 q0 q1 q2 q3 0 m0 m1 m2) = true ↔ (p0 ≤ q0 ∧ p1 ≤ q1 ∧ p2 ≤ q2 ∧ l0 ≤ q3) := by
    rw [leP_iff, leB_iff]
    simp [hp, hq, fstT, rawT]
  have HL := Lib.hid hl
  clear hl
  generalize lePB (Pa.mk f 2 p0 p1 p2 p3 1 l0 l1 l2) (Pa.mk f 3 q0 q1 q2 q3 0 m0 m1 m2) = r at HL ⊢
  rw [show toV (Pa.mk f 2 p0 p1 p2 p3 1 l0 l1 l2) = 3 by unfold toV; rw [if_pos hp]; rfl] at C
  rw [show toV (Pa.mk f 3 q0 q1 q2 q3 0 m0 m1 m2) = 3 by unfold toV; rw [if_pos hq]; rfl] at D
  clear hp hq
  have h0 := PQ.fresh w 30 (Pa.mk f 2 p0 p1 p2 p3 1 l0 l1 l2) (Pa.mk f 3 q0 q1 q2 q3 0 m0 m1 m2)
  go_enter Try.func30, Try.ntmps30
  go_wp2_with fail
  generalize (w.alloc (.cells #[.int .i64 (Pa.mk f 2 p0 p1 p2 p3 1 l0 l1 l2).f, .int .i64 (Pa.mk f 2 p0 p1 p2 p3 1 l0 l1 l2).k, .int .u32 (Pa.mk f 2 p0 p1 p2 p3 1 l0 l1 l2).p0, .int .u32 (Pa.mk f 2 p0 p1 p2 p3 1 l0 l1 l2).p1, .int .u32 (Pa.mk f 2 p0 p1 p2 p3 1 l0 l1 l2).p2, .int .u32 (Pa.mk f 2 p0 p1 p2 p3 1 l0 l1 l2).p3, .int .i64 (Pa.mk f 2 p0 p1 p2 p3 1 l0 l1 l2).u, .int .u32 (Pa.mk f 2 p0 p1 p2 p3 1 l0 l1 l2).l0, .int .u32 (Pa.mk f 2 p0 p1 p2 p3 1 l0 l1 l2).l1, .int .u32 (Pa.mk f 2 p0 p1 p2 p3 1 l0 l1 l2).l2] 30)).alloc (.cells #[.int .i64 (Pa.mk f 3 q0 q1 q2 q3 0 m0 m1 m2).f, .int .i64 (Pa.mk f 3 q0 q1 q2 q3 0 m0 m1 m2).k, .int .u32 (Pa.mk f 3 q0 q1 q2 q3 0 m0 m1 m2).p0, .int .u32 (Pa.mk f 3 q0 q1 q2 q3 0 m0 m1 m2).p1, .int .u32 (Pa.mk f 3 q0 q1 q2 q3 0 m0 m1 m2).p2, .int .u32 (Pa.mk f 3 q0 q1 q2 q3 0 m0 m1 m2).p3, .int .i64 (Pa.mk f 3 q0 q1 q2 q3 0 m0 m1 m2).u, .int .u32 (Pa.mk f 3 q0 q1 q2 q3 0 m0 m1 m2).l0, .int .u32 (Pa.mk f 3 q0 q1 q2 q3 0 m0 m1 m2).l1, .int .u32 (Pa.mk f 3 q0 q1 q2 q3 0 m0 m1 m2).l2] 30) = W at h0 ⊢
  generalize w.heap.size = g at h0 ⊢
  obtain ⟨c1, c2⟩ := h0.since
  refine region_since W (by kernel_rfl) (by kernel_rfl) (Below.refl _ _) ?_
  repeat (go_big_quiet_step ((first | (go_at_call 24; with_reducible exact since_call A.out _) | (go_at_call 24; with_reducible exact since_call B.out _) | (go_at_call 26; with_reducible exact since_call C.out _) | (go_at_call 26; with_reducible exact since_call D.out _))))
  refine wpQuiet_nil ?_
  rintro w2 ⟨x, hw⟩
  have H := h0.below (hw ▸ x.2)
  clear hw x c1 c2 h0 W
  obtain ⟨pc, pd⟩ := all_of H.one
  obtain ⟨qc, qd⟩ := all_of H.two
  go_wp2_with fail
  refine wp_loop_rounds 5 ?_
  rw [rounds_succ]
  go_wp2_with fail
  go_quiet (fail)
  go_wp2_with fail
  all_goals try (rw [rounds_succ]; go_wp2_with fail; go_quiet (fail); go_wp2_with fail)
  all_goals try (rw [rounds_succ]; go_wp2_with fail; go_quiet (fail); go_wp2_with fail)
  all_goals try (rw [rounds_succ]; go_wp2_with fail)
  all_goals try (refine wp_loop_rounds 5 ?_)
  all_goals try (rw [rounds_succ]; go_wp2_with (first | (go_at_call 26; (with_reducible refine (C.out _).mono ?_); rintro e w5 ⟨rfl, b5⟩; have H' := (PQ.drewN H _).below b5; clear pc pd qc qd b5 H; have H := H'; clear H'; obtain ⟨pc, pd⟩ := all_of H.one; obtain ⟨qc, qd⟩ := all_of H.two) | (go_at_call 26; (with_reducible refine (C.out _).mono ?_); rintro e w5 ⟨rfl, b5⟩; have H' := H.below b5; clear pc pd qc qd b5 H; have H := H'; clear H'; obtain ⟨pc, pd⟩ := all_of H.one; obtain ⟨qc, qd⟩ := all_of H.two) | fail))
  all_goals try (rw [rounds_succ]; go_wp2_with (first | (go_at_call 26; (with_reducible refine (C.out _).mono ?_); rintro e w5 ⟨rfl, b5⟩; have H' := (PQ.drewN H _).below b5; clear pc pd qc qd b5 H; have H := H'; clear H'; obtain ⟨pc, pd⟩ := all_of H.one; obtain ⟨qc, qd⟩ := all_of H.two) | (go_at_call 26; (with_reducible refine (C.out _).mono ?_); rintro e w5 ⟨rfl, b5⟩; have H' := H.below b5; clear pc pd qc qd b5 H; have H := H'; clear H'; obtain ⟨pc, pd⟩ := all_of H.one; obtain ⟨qc, qd⟩ := all_of H.two) | fail))
  all_goals go_ret
  all_goals refine ⟨ret_bool ?_, by repeat (first | exact H.old | apply below_drewN)⟩
  all_goals have hl := HL.out
  all_goals cases r
  all_goals simp only [Bool.false_eq_true, false_iff, true_iff] at hl
  all_goals first | rfl | (exfalso; omega)
set_option maxHeartbeats 4000000 in
theorem leR_333 (f p0 p1 p2 p3 l0 l1 l2 q0 q1 q2 q3 m0 m1 m2 : Int) (i : (Pa.mk f 3 p0 p1 p2 p3 0 l0 l1 l2).In) (j : (Pa.mk f 3 q0 q1 q2 q3 0 m0 m1 m2).In) (hp : chkP (Pa.mk f 3 p0 p1 p2 p3 0 l0 l1 l2) = 0) (hq : chkP (Pa.mk f 3 q0 q1 q2 q3 0 m0 m1 m2) = 0) (w : World) : Calls Try.prog 30 #[.agg #[.int .i64 (Pa.mk f 3 p0 p1 p2 p3 0 l0 l1 l2).f, .int .i64 (Pa.mk f 3 p0 p1 p2 p3 0 l0 l1 l2).k, .int .u32 (Pa.mk f 3 p0 p1 p2 p3 0 l0 l1 l2).p0, .int .u32 (Pa.mk f 3 p0 p1 p2 p3 0 l0 l1 l2).p1, .int .u32 (Pa.mk f 3 p0 p1 p2 p3 0 l0 l1 l2).p2, .int .u32 (Pa.mk f 3 p0 p1 p2 p3 0 l0 l1 l2).p3, .int .i64 (Pa.mk f 3 p0 p1 p2 p3 0 l0 l1 l2).u, .int .u32 (Pa.mk f 3 p0 p1 p2 p3 0 l0 l1 l2).l0, .int .u32 (Pa.mk f 3 p0 p1 p2 p3 0 l0 l1 l2).l1, .int .u32 (Pa.mk f 3 p0 p1 p2 p3 0 l0 l1 l2).l2], .agg #[.int .i64 (Pa.mk f 3 q0 q1 q2 q3 0 m0 m1 m2).f, .int .i64 (Pa.mk f 3 q0 q1 q2 q3 0 m0 m1 m2).k, .int .u32 (Pa.mk f 3 q0 q1 q2 q3 0 m0 m1 m2).p0, .int .u32 (Pa.mk f 3 q0 q1 q2 q3 0 m0 m1 m2).p1, .int .u32 (Pa.mk f 3 q0 q1 q2 q3 0 m0 m1 m2).p2, .int .u32 (Pa.mk f 3 q0 q1 q2 q3 0 m0 m1 m2).p3, .int .i64 (Pa.mk f 3 q0 q1 q2 q3 0 m0 m1 m2).u, .int .u32 (Pa.mk f 3 q0 q1 q2 q3 0 m0 m1 m2).l0, .int .u32 (Pa.mk f 3 q0 q1 q2 q3 0 m0 m1 m2).l1, .int .u32 (Pa.mk f 3 q0 q1 q2 q3 0 m0 m1 m2).l2]] w fun e w' => e = .returned (.bool (lePB (Pa.mk f 3 p0 p1 p2 p3 0 l0 l1 l2) (Pa.mk f 3 q0 q1 q2 q3 0 m0 m1 m2))) ∧ Below w.heap.size w w' := by
  have A := Lib.hid (chkPR_any _ i)
  have B := Lib.hid (chkPR_any _ j)
  have C := Lib.hid (toR_any _ i)
  have D := Lib.hid (toR_any _ j)
  rw [hp] at A
  rw [hq] at B
  clear i j
  have hl : lePB (Pa.mk f 3 p0 p1 p2 p3 0 l0 l1 l2) (Pa.mk f 3 q0 q1 q2 q3 0 m0 m1 m2) = true ↔ (p0 ≤ q0 ∧ p1 ≤ q1 ∧ p2 ≤ q2 ∧ p3 ≤ q3) := by
    rw [leP_iff, leB_iff]
    simp [hp, hq, fstT, rawT]
  have HL := Lib.hid hl
  clear hl
  generalize lePB (Pa.mk f 3 p0 p1 p2 p3 0 l0 l1 l2) (Pa.mk f 3 q0 q1 q2 q3 0 m0 m1 m2) = r at HL ⊢
  rw [show toV (Pa.mk f 3 p0 p1 p2 p3 0 l0 l1 l2) = 3 by unfold toV; rw [if_pos hp]; rfl] at C
  rw [show toV (Pa.mk f 3 q0 q1 q2 q3 0 m0 m1 m2) = 3 by unfold toV; rw [if_pos hq]; rfl] at D
  clear hp hq
  have h0 := PQ.fresh w 30 (Pa.mk f 3 p0 p1 p2 p3 0 l0 l1 l2) (Pa.mk f 3 q0 q1 q2 q3 0 m0 m1 m2)
  go_enter Try.func30, Try.ntmps30
  go_wp2_with fail
  generalize (w.alloc (.cells #[.int .i64 (Pa.mk f 3 p0 p1 p2 p3 0 l0 l1 l2).f, .int .i64 (Pa.mk f 3 p0 p1 p2 p3 0 l0 l1 l2).k, .int .u32 (Pa.mk f 3 p0 p1 p2 p3 0 l0 l1 l2).p0, .int .u32 (Pa.mk f 3 p0 p1 p2 p3 0 l0 l1 l2).p1, .int .u32 (Pa.mk f 3 p0 p1 p2 p3 0 l0 l1 l2).p2, .int .u32 (Pa.mk f 3 p0 p1 p2 p3 0 l0 l1 l2).p3, .int .i64 (Pa.mk f 3 p0 p1 p2 p3 0 l0 l1 l2).u, .int .u32 (Pa.mk f 3 p0 p1 p2 p3 0 l0 l1 l2).l0, .int .u32 (Pa.mk f 3 p0 p1 p2 p3 0 l0 l1 l2).l1, .int .u32 (Pa.mk f 3 p0 p1 p2 p3 0 l0 l1 l2).l2] 30)).alloc (.cells #[.int .i64 (Pa.mk f 3 q0 q1 q2 q3 0 m0 m1 m2).f, .int .i64 (Pa.mk f 3 q0 q1 q2 q3 0 m0 m1 m2).k, .int .u32 (Pa.mk f 3 q0 q1 q2 q3 0 m0 m1 m2).p0, .int .u32 (Pa.mk f 3 q0 q1 q2 q3 0 m0 m1 m2).p1, .int .u32 (Pa.mk f 3 q0 q1 q2 q3 0 m0 m1 m2).p2, .int .u32 (Pa.mk f 3 q0 q1 q2 q3 0 m0 m1 m2).p3, .int .i64 (Pa.mk f 3 q0 q1 q2 q3 0 m0 m1 m2).u, .int .u32 (Pa.mk f 3 q0 q1 q2 q3 0 m0 m1 m2).l0, .int .u32 (Pa.mk f 3 q0 q1 q2 q3 0 m0 m1 m2).l1, .int .u32 (Pa.mk f 3 q0 q1 q2 q3 0 m0 m1 m2).l2] 30) = W at h0 ⊢
  generalize w.heap.size = g at h0 ⊢
  obtain ⟨c1, c2⟩ := h0.since
  refine region_since W (by kernel_rfl) (by kernel_rfl) (Below.refl _ _) ?_
  repeat (go_big_quiet_step ((first | (go_at_call 24; with_reducible exact since_call A.out _) | (go_at_call 24; with_reducible exact since_call B.out _) | (go_at_call 26; with_reducible exact since_call C.out _) | (go_at_call 26; with_reducible exact since_call D.out _))))
  refine wpQuiet_nil ?_
  rintro w2 ⟨x, hw⟩
  have H := h0.below (hw ▸ x.2)
  clear hw x c1 c2 h0 W
  obtain ⟨pc, pd⟩ := all_of H.one
  obtain ⟨qc, qd⟩ := all_of H.two
  go_wp2_with fail
  refine wp_loop_rounds 5 ?_
  rw [rounds_succ]
  go_wp2_with fail
  go_quiet (fail)
  go_wp2_with fail
  all_goals try (rw [rounds_succ]; go_wp2_with fail; go_quiet (fail); go_wp2_with fail)
  all_goals try (rw [rounds_succ]; go_wp2_with fail; go_quiet (fail); go_wp2_with fail)
  all_goals try (rw [rounds_succ]; go_wp2_with fail; go_quiet (fail); go_wp2_with fail)
  all_goals try (rw [rounds_succ]; go_wp2_with fail)
  all_goals try (refine wp_loop_rounds 5 ?_)
  all_goals try (rw [rounds_succ]; go_wp2_with (first | (go_at_call 26; (with_reducible refine (C.out _).mono ?_); rintro e w5 ⟨rfl, b5⟩; have H' := (PQ.drewN H _).below b5; clear pc pd qc qd b5 H; have H := H'; clear H'; obtain ⟨pc, pd⟩ := all_of H.one; obtain ⟨qc, qd⟩ := all_of H.two) | (go_at_call 26; (with_reducible refine (C.out _).mono ?_); rintro e w5 ⟨rfl, b5⟩; have H' := H.below b5; clear pc pd qc qd b5 H; have H := H'; clear H'; obtain ⟨pc, pd⟩ := all_of H.one; obtain ⟨qc, qd⟩ := all_of H.two) | fail))
  all_goals go_ret
  all_goals refine ⟨ret_bool ?_, by repeat (first | exact H.old | apply below_drewN)⟩
  all_goals have hl := HL.out
  all_goals cases r
  all_goals simp only [Bool.false_eq_true, false_iff, true_iff] at hl
  all_goals first | rfl | (exfalso; omega)
end Go.Proofs.Ytggdcnoonmepcaa.path
