/-
  The contracts of path.Check and watershedref05.Check at paths whose depths and numbers are right.
-/
import Derived.Test.YtilkdpobkcocoaaChkP
import Derived.Test.YtilkdpobkcocoaaPl
import Derived.Deep.QuietTactic
import Derived.BigQuiet
namespace Go.Proofs.Ytilkdpobkcocoaa.path
open Go.ChangeShapes Go.WideShapes Go.ChangeAt Go.RowKit
open Go.Proofs.Ytilkdpobkcocoaa.tm Go.Proofs.Ytilkdpobkcocoaa.opened Go.Proofs.Ytilkdpobkcocoaa.block Go.Proofs.Ytilkdpobkcocoaa.stamp Go.Proofs.Ytilkdpobkcocoaa.pa

set_option maxHeartbeats 2000000 in
theorem chkR_rest (p : Pa) (_i : p.In) (d : depP p) (h : plusP p ∧ loopP p) (w : World) : Calls Try.prog 37 #[.agg #[.int .i64 p.f, .int .i64 p.k, .int .u32 p.p0, .int .u32 p.p1, .int .u32 p.p2, .int .u32 p.p3, .int .i64 p.u, .int .u32 p.l0, .int .u32 p.l1, .int .u32 p.l2]] w fun e w' => e = .returned (.int .i64 (chkP p)) ∧ Below w.heap.size w w' := by
  generalize hC : chkP p = C
  have HC := Lib.hid hC
  clear hC
  have D := Lib.hid d
  have H := Lib.hid h
  obtain ⟨⟨r1, r2, r3, r4⟩, r5, r6, r7⟩ := h
  obtain ⟨d1, d2, d3, d4, d5, d6⟩ := d
  obtain ⟨f, k, p0, p1, p2, p3, u, l0, l1, l2⟩ := p
  dsimp only at r1 r2 r3 r4 r5 r6 r7 d1 d2 d3 d4 d5 d6
  rcases four d3 (by omega) with rfl | rfl | rfl | rfl <;> rcases four d5 (by omega) with rfl | rfl | rfl | rfl <;> first | omega | skip
  all_goals go_enter Try.func37, Try.ntmps37
  all_goals go_wp2
  all_goals refine wp_loop_rounds 5 ?_
  all_goals rw [rounds_succ]
  all_goals go_wp2
  all_goals rw [rounds_succ]
  all_goals go_wp2
  all_goals rw [rounds_succ]
  all_goals go_wp2
  all_goals rw [rounds_succ]
  all_goals go_wp2
  all_goals rw [rounds_succ]
  all_goals go_wp2
  all_goals refine wp_loop_rounds 5 ?_
  all_goals rw [rounds_succ]
  all_goals go_wp2
  all_goals try (rw [rounds_succ]; go_wp2)
  all_goals try (rw [rounds_succ]; go_wp2)
  all_goals try (rw [rounds_succ]; go_wp2)
  all_goals try (refine wp_loop_rounds 5 ?_; rw [rounds_succ]; go_wp2)
  all_goals try (rw [rounds_succ]; go_wp2)
  all_goals try (rw [rounds_succ]; go_wp2)
  all_goals try (rw [rounds_succ]; go_wp2)
  all_goals go_ret
  all_goals refine ⟨ret_i64 ?_, fresh1 _ _⟩
  all_goals rw [← HC.out]
  all_goals simp only [bne_iff_ne, ne_eq, bne_eq_false_iff_eq] at *
  all_goals first | (rw [chkP_fld D.out H.out (by unfold fldK fldU; dsimp only; omega)]) | (rw [chkP_ok D.out H.out (by unfold fldK fldU; dsimp only; omega)])
end Go.Proofs.Ytilkdpobkcocoaa.path
