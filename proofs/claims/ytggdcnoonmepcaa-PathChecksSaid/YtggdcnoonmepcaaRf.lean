/-
  The contracts of watershedref05.To and watershedref05.Rises.
-/
import Derived.Test.YtggdcnoonmepcaaChkR
import Derived.Test.YtggdcnoonmepcaaKn
namespace Go.Proofs.Ytggdcnoonmepcaa.path
open Go.ChangeShapes Go.WideShapes Go.ChangeAt Go.RowKit
open Go.Proofs.Ytggdcnoonmepcaa.tm Go.Proofs.Ytggdcnoonmepcaa.opened Go.Proofs.Ytggdcnoonmepcaa.block Go.Proofs.Ytggdcnoonmepcaa.stamp Go.Proofs.Ytggdcnoonmepcaa.pa

theorem chkPR_any (p : Pa) (i : p.In) (w : World) : Calls Try.prog 24 #[.agg #[.int .i64 p.f, .int .i64 p.k, .int .u32 p.p0, .int .u32 p.p1, .int .u32 p.p2, .int .u32 p.p3, .int .i64 p.u, .int .u32 p.l0, .int .u32 p.l1, .int .u32 p.l2]] w fun e w' => e = .returned (.int .i64 (chkP p)) ∧ Below w.heap.size w w' := by
  by_cases d : depP p
  · by_cases h : plusP p ∧ loopP p
    · exact chkR_rest p i d h w
    · rw [chkP_rng d h]
      exact chkR_rng p i d h w
  · rw [chkP_dep d]
    exact chkR_dep p i d w
theorem toR_any (p : Pa) (i : p.In) (w : World) : Calls Try.prog 26 #[.agg #[.int .i64 p.f, .int .i64 p.k, .int .u32 p.p0, .int .u32 p.p1, .int .u32 p.p2, .int .u32 p.p3, .int .i64 p.u, .int .u32 p.l0, .int .u32 p.l1, .int .u32 p.l2]] w fun e w' => e = .returned (.int .i64 (toV p)) ∧ Below w.heap.size w w' := by
  unfold toV
  have C := Lib.hid (chkPR_any p i)
  by_cases h : chkP p = 0
  · have a := chkP_open h
    rw [h] at C
    rw [if_pos h]
    have k0 := a.1.2.2.1
    have u0 := a.1.2.2.2.2.1
    have k1 : p.k ≤ 3 := by omega
    have u1 : p.u ≤ 3 := by omega
    clear a h i
    go_enter Try.func26, Try.ntmps26
    go_wp2_with (go_at_call 24; refine (C.out _).mono ?_; rintro e w1 ⟨rfl, b1⟩; obtain ⟨hR, hB, hx⟩ := res_of b1; clear b1; generalize hg : w.heap.size = g at hR hB hx ⊢; have HG := Lib.hid hg; clear hg; obtain ⟨hc, hf⟩ := all_of hR)
    go_ret
    exact ⟨rfl, by rw [HG.out]; exact hB⟩
  · rw [if_neg h]
    generalize chkP p = E at C h
    have hE : (E != 0) = true := by simpa using h
    clear h i
    go_enter Try.func26, Try.ntmps26
    go_wp2_with (go_at_call 24; refine (C.out _).mono ?_; rintro e w1 ⟨rfl, b1⟩)
    go_ret
    exact ⟨rfl, over1 b1⟩
set_option maxHeartbeats 1000000 in
theorem risesR_any (p : Pa) (i : p.In) (w : World) : Calls Try.prog 28 #[.agg #[.int .i64 p.f, .int .i64 p.k, .int .u32 p.p0, .int .u32 p.p1, .int .u32 p.p2, .int .u32 p.p3, .int .i64 p.u, .int .u32 p.l0, .int .u32 p.l1, .int .u32 p.l2]] w fun e w' => e = .returned (.bool (risesB p)) ∧ Below w.heap.size w w' := by
  have C := Lib.hid (chkPR_any p i)
  generalize hr : risesB p = r
  have HR := Lib.hid hr
  clear hr
  by_cases h : chkP p = 0
  · have Z := Lib.hid h
    rw [h] at C
    have i1 := i.p00
    have i2 := i.p10
    have i3 := i.p20
    have i4 := i.p30
    clear h i
    by_cases e2 : p.k = p.f
    · have q2 : (p.k != p.f) = false := by simp [e2]
      have HK := Lib.hid e2
      clear e2
      by_cases e3 : p.u = 0
      · have q3 : (p.u != 0) = false := by simp [e3]
        have HU := Lib.hid e3
        clear e3
        go_enter Try.func28, Try.ntmps28
        go_wp2_with (go_at_call 24; refine (C.out _).mono ?_; rintro e w1 ⟨rfl, b1⟩; obtain ⟨hR, hB, hx⟩ := res_of b1; clear b1; generalize hg : w.heap.size = g at hR hB hx ⊢; have HG := Lib.hid hg; clear hg; obtain ⟨hc, hf⟩ := all_of hR)
        refine wp_loop_rounds 5 ?_
        rw [rounds_succ]
        go_wp2
        all_goals try (rw [rounds_succ]; go_wp2)
        all_goals try (rw [rounds_succ]; go_wp2)
        all_goals try (rw [rounds_succ]; go_wp2)
        all_goals try (rw [rounds_succ]; go_wp2)
        all_goals go_ret
        all_goals refine ⟨ret_bool ?_, by rw [HG.out]; exact hB⟩
        all_goals rw [← HR.out]
        all_goals unfold risesB
        all_goals have z := Z.out
        all_goals have a := HK.out
        all_goals have b := HU.out
        all_goals first | (rw [decide_eq_true (p := _ ∧ _) ⟨z, a, b, by omega⟩]) | (rw [decide_eq_false (p := _ ∧ _) (fun hh => hh.2.2.2 (by omega))])
      · have q3 : (p.u != 0) = true := by simp [e3]
        have hf : risesB p = false := by unfold risesB; exact decide_eq_false (fun h => e3 h.2.2.1)
        rw [HR.out] at hf
        subst hf
        clear e3
        go_enter Try.func28, Try.ntmps28
        go_wp2_with (go_at_call 24; refine (C.out _).mono ?_; rintro e w1 ⟨rfl, b1⟩; obtain ⟨hR, hB, hx⟩ := res_of b1; clear b1; generalize hg : w.heap.size = g at hR hB hx ⊢; have HG := Lib.hid hg; clear hg; obtain ⟨hc, hf⟩ := all_of hR)
        go_ret
        exact ⟨rfl, by rw [HG.out]; exact hB⟩
    · have q2 : (p.k != p.f) = true := by simp [e2]
      have hf : risesB p = false := by unfold risesB; exact decide_eq_false (fun h => e2 h.2.1)
      rw [HR.out] at hf
      subst hf
      clear e2
      go_enter Try.func28, Try.ntmps28
      go_wp2_with (go_at_call 24; refine (C.out _).mono ?_; rintro e w1 ⟨rfl, b1⟩; obtain ⟨hR, hB, hx⟩ := res_of b1; clear b1; generalize hg : w.heap.size = g at hR hB hx ⊢; have HG := Lib.hid hg; clear hg; obtain ⟨hc, hf⟩ := all_of hR)
      go_ret
      exact ⟨rfl, by rw [HG.out]; exact hB⟩
  · have hf : risesB p = false := by unfold risesB; exact decide_eq_false (fun k => h k.1)
    rw [HR.out] at hf
    subst hf
    generalize chkP p = E at C h
    have hE : (E != 0) = true := by simpa using h
    clear h i
    go_enter Try.func28, Try.ntmps28
    go_wp2_with (go_at_call 24; refine (C.out _).mono ?_; rintro e w1 ⟨rfl, b1⟩)
    go_ret
    exact ⟨rfl, over1 b1⟩
end Go.Proofs.Ytggdcnoonmepcaa.path
