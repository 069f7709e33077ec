/-
  The contracts of watershedref05.To and watershedref05.Rises.
-/
import Derived.Test.YtilkdpobkcocoaaChkR
import Derived.Test.YtilkdpobkcocoaaKn
namespace Go.Proofs.Ytilkdpobkcocoaa.path
open Go.ChangeShapes Go.WideShapes Go.ChangeAt Go.RowKit
open Go.Proofs.Ytilkdpobkcocoaa.tm Go.Proofs.Ytilkdpobkcocoaa.opened Go.Proofs.Ytilkdpobkcocoaa.block Go.Proofs.Ytilkdpobkcocoaa.stamp Go.Proofs.Ytilkdpobkcocoaa.pa

theorem chkPR_any (p : Pa) (i : p.In) (w : World) : Calls Try.prog 37 #[.agg #[.int .i64 p.f, .int .i64 p.k, .int .u32 p.p0, .int .u32 p.p1, .int .u32 p.p2, .int .u32 p.p3, .int .i64 p.u, .int .u32 p.l0, .int .u32 p.l1, .int .u32 p.l2]] w fun e w' => e = .returned (.int .i64 (chkP p)) ∧ Below w.heap.size w w' := by
  by_cases d : depP p
  · by_cases h : plusP p ∧ loopP p
    · exact chkR_rest p i d h w
    · rw [chkP_rng d h]
      exact chkR_rng p i d h w
  · rw [chkP_dep d]
    exact chkR_dep p i d w
theorem toR_any (p : Pa) (i : p.In) (w : World) : Calls Try.prog 40 #[.agg #[.int .i64 p.f, .int .i64 p.k, .int .u32 p.p0, .int .u32 p.p1, .int .u32 p.p2, .int .u32 p.p3, .int .i64 p.u, .int .u32 p.l0, .int .u32 p.l1, .int .u32 p.l2]] w fun e w' => e = .returned (.int .i64 (toV p)) ∧ Below w.heap.size w w' := by
  unfold toV
  have C := Lib.hid (chkPR_any p i)
  by_cases h : chkP p = 0
  · have a := chkP_open h
    rw [h] at C
    rw [if_pos h]
    have k0 := a.1.2.2.1
    have u0 := a.1.2.2.2.2.1
    have k1 : p.k ≤ 3 := by omega
    have u1 : p.u ≤ 3 := by omega
    clear a h i
    go_enter Try.func40, Try.ntmps40
    go_wp2_with (go_at_call 37; refine (C.out _).mono ?_; rintro e w1 ⟨rfl, b1⟩; obtain ⟨hR, hB, hx⟩ := res_of b1; clear b1; generalize hg : w.heap.size = g at hR hB hx ⊢; have HG := Lib.hid hg; clear hg; obtain ⟨hc, hf⟩ := all_of hR)
    go_ret
    exact ⟨rfl, by rw [HG.out]; exact hB⟩
  · rw [if_neg h]
    generalize chkP p = E at C h
    have hE : (E != 0) = true := by simpa using h
    clear h i
    go_enter Try.func40, Try.ntmps40
    go_wp2_with (go_at_call 37; refine (C.out _).mono ?_; rintro e w1 ⟨rfl, b1⟩)
    go_ret
    exact ⟨rfl, over1 b1⟩
end Go.Proofs.Ytilkdpobkcocoaa.path
