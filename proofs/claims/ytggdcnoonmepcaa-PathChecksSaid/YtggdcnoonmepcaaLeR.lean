/-
  The contract of watershedref05.LE, at any two paths.
-/
import Derived.Test.YtggdcnoonmepcaaLeR1
import Derived.Test.YtggdcnoonmepcaaLeR2
import Derived.Test.YtggdcnoonmepcaaLeR3
import Derived.Deep.QuietTactic
import Derived.BigQuiet
namespace Go.Proofs.Ytggdcnoonmepcaa.path
open Go.ChangeShapes Go.WideShapes Go.ChangeAt Go.RowKit
open Go.Proofs.Ytggdcnoonmepcaa.tm Go.Proofs.Ytggdcnoonmepcaa.opened Go.Proofs.Ytggdcnoonmepcaa.block Go.Proofs.Ytggdcnoonmepcaa.stamp Go.Proofs.Ytggdcnoonmepcaa.pa

theorem leR_rest (p q : Pa) (i : p.In) (j : q.In) (h : chkP p = 0) (h2 : chkP q = 0) (h3 : p.f = q.f) (h4 : toV p = toV q) (h5 : p.k ≤ q.k) (w : World) : Calls Try.prog 30 #[.agg #[.int .i64 p.f, .int .i64 p.k, .int .u32 p.p0, .int .u32 p.p1, .int .u32 p.p2, .int .u32 p.p3, .int .i64 p.u, .int .u32 p.l0, .int .u32 p.l1, .int .u32 p.l2], .agg #[.int .i64 q.f, .int .i64 q.k, .int .u32 q.p0, .int .u32 q.p1, .int .u32 q.p2, .int .u32 q.p3, .int .i64 q.u, .int .u32 q.l0, .int .u32 q.l1, .int .u32 q.l2]] w fun e w' => e = .returned (.bool (lePB p q)) ∧ Below w.heap.size w w' := by
  have a := chkP_open h
  have b := chkP_open h2
  have hd : p.k + p.u = q.k + q.u := by unfold toV at h4; rw [if_pos h, if_pos h2] at h4; exact h4
  obtain ⟨⟨a1, a2, a3, a4, a5, a6⟩, -⟩ := a
  obtain ⟨⟨b1, b2, b3, b4, b5, b6⟩, -⟩ := b
  obtain ⟨f, k, p0, p1, p2, p3, u, l0, l1, l2⟩ := p
  obtain ⟨f', k', q0, q1, q2, q3, u', m0, m1, m2⟩ := q
  dsimp only at h3 h5 hd a1 a2 a3 a4 a5 a6 b1 b2 b3 b4 b5 b6
  subst h3
  rcases four a3 (by omega) with rfl | rfl | rfl | rfl
  · rcases four b3 (by omega) with rfl | rfl | rfl | rfl
    · rcases (show u = 0 ∨ u = 1 ∨ u = 2 ∨ u = 3 by omega) with rfl | rfl | rfl | rfl
      · obtain rfl : u' = 0 := by omega
        exact leR_000 _ _ _ _ _ _ _ _ _ _ _ _ _ _ _ i j h h2 w
      · obtain rfl : u' = 1 := by omega
        exact leR_001 _ _ _ _ _ _ _ _ _ _ _ _ _ _ _ i j h h2 w
      · obtain rfl : u' = 2 := by omega
        exact leR_002 _ _ _ _ _ _ _ _ _ _ _ _ _ _ _ i j h h2 w
      · obtain rfl : u' = 3 := by omega
        exact leR_003 _ _ _ _ _ _ _ _ _ _ _ _ _ _ _ i j h h2 w
    · rcases (show u = 1 ∨ u = 2 ∨ u = 3 by omega) with rfl | rfl | rfl
      · obtain rfl : u' = 0 := by omega
        exact leR_011 _ _ _ _ _ _ _ _ _ _ _ _ _ _ _ i j h h2 w
      · obtain rfl : u' = 1 := by omega
        exact leR_012 _ _ _ _ _ _ _ _ _ _ _ _ _ _ _ i j h h2 w
      · obtain rfl : u' = 2 := by omega
        exact leR_013 _ _ _ _ _ _ _ _ _ _ _ _ _ _ _ i j h h2 w
    · rcases (show u = 2 ∨ u = 3 by omega) with rfl | rfl
      · obtain rfl : u' = 0 := by omega
        exact leR_022 _ _ _ _ _ _ _ _ _ _ _ _ _ _ _ i j h h2 w
      · obtain rfl : u' = 1 := by omega
        exact leR_023 _ _ _ _ _ _ _ _ _ _ _ _ _ _ _ i j h h2 w
    · obtain rfl : u = 3 := by omega
      obtain rfl : u' = 0 := by omega
      exact leR_033 _ _ _ _ _ _ _ _ _ _ _ _ _ _ _ i j h h2 w
  · rcases four b3 (by omega) with rfl | rfl | rfl | rfl
    · omega
    · rcases (show u = 0 ∨ u = 1 ∨ u = 2 by omega) with rfl | rfl | rfl
      · obtain rfl : u' = 0 := by omega
        exact leR_111 _ _ _ _ _ _ _ _ _ _ _ _ _ _ _ i j h h2 w
      · obtain rfl : u' = 1 := by omega
        exact leR_112 _ _ _ _ _ _ _ _ _ _ _ _ _ _ _ i j h h2 w
      · obtain rfl : u' = 2 := by omega
        exact leR_113 _ _ _ _ _ _ _ _ _ _ _ _ _ _ _ i j h h2 w
    · rcases (show u = 1 ∨ u = 2 by omega) with rfl | rfl
      · obtain rfl : u' = 0 := by omega
        exact leR_122 _ _ _ _ _ _ _ _ _ _ _ _ _ _ _ i j h h2 w
      · obtain rfl : u' = 1 := by omega
        exact leR_123 _ _ _ _ _ _ _ _ _ _ _ _ _ _ _ i j h h2 w
    · obtain rfl : u = 2 := by omega
      obtain rfl : u' = 0 := by omega
      exact leR_133 _ _ _ _ _ _ _ _ _ _ _ _ _ _ _ i j h h2 w
  · rcases four b3 (by omega) with rfl | rfl | rfl | rfl
    · omega
    · omega
    · rcases (show u = 0 ∨ u = 1 by omega) with rfl | rfl
      · obtain rfl : u' = 0 := by omega
        exact leR_222 _ _ _ _ _ _ _ _ _ _ _ _ _ _ _ i j h h2 w
      · obtain rfl : u' = 1 := by omega
        exact leR_223 _ _ _ _ _ _ _ _ _ _ _ _ _ _ _ i j h h2 w
    · obtain rfl : u = 1 := by omega
      obtain rfl : u' = 0 := by omega
      exact leR_233 _ _ _ _ _ _ _ _ _ _ _ _ _ _ _ i j h h2 w
  · rcases four b3 (by omega) with rfl | rfl | rfl | rfl
    · omega
    · omega
    · omega
    · obtain rfl : u = 0 := by omega
      obtain rfl : u' = 0 := by omega
      exact leR_333 _ _ _ _ _ _ _ _ _ _ _ _ _ _ _ i j h h2 w
theorem lepR_any (p q : Pa) (i : p.In) (j : q.In) (w : World) : Calls Try.prog 30 #[.agg #[.int .i64 p.f, .int .i64 p.k, .int .u32 p.p0, .int .u32 p.p1, .int .u32 p.p2, .int .u32 p.p3, .int .i64 p.u, .int .u32 p.l0, .int .u32 p.l1, .int .u32 p.l2], .agg #[.int .i64 q.f, .int .i64 q.k, .int .u32 q.p0, .int .u32 q.p1, .int .u32 q.p2, .int .u32 q.p3, .int .i64 q.u, .int .u32 q.l0, .int .u32 q.l1, .int .u32 q.l2]] w fun e w' => e = .returned (.bool (lePB p q)) ∧ Below w.heap.size w w' := by
  by_cases h : chkP p = 0
  · by_cases h2 : chkP q = 0
    · by_cases h3 : p.f = q.f
      · by_cases h4 : toV p = toV q
        · by_cases h5 : p.k ≤ q.k
          · exact leR_rest p q i j h h2 h3 h4 h5 w
          · rw [show lePB p q = false by unfold lePB; exact decide_eq_false (fun k => h5 k.2.2.2.1)]
            exact leR_no5 p q i j h h2 h3 h4 (by omega) w
        · rw [show lePB p q = false by
            unfold lePB
            refine decide_eq_false (fun k => h4 ?_)
            have d := (leB_iff.1 k.2.2.2.2).1
            unfold toV
            rw [if_pos h, if_pos h2]
            exact d]
          exact leR_no4 p q i j h h2 h3 h4 w
      · rw [show lePB p q = false by unfold lePB; exact decide_eq_false (fun k => h3 k.2.2.1)]
        exact leR_no3 p q i j h h2 h3 w
    · rw [show lePB p q = false by unfold lePB; exact decide_eq_false (fun k => h2 k.2.1)]
      exact leR_no2 p q i j h h2 w
  · rw [show lePB p q = false by unfold lePB; exact decide_eq_false (fun k => h k.1)]
    exact leR_no1 p q i j h w
end Go.Proofs.Ytggdcnoonmepcaa.path
