/-
  The contract of watershedref04.Compare, at any two times.
-/
import Derived.Test.YtpjlefdigpejdaaCmp
namespace Go.Proofs.Ytpjlefdigpejdaa.stamp
open Go.ChangeShapes Go.WideShapes Go.ChangeAt Go.RowKit
open Go.Proofs.Ytpjlefdigpejdaa.tm Go.Proofs.Ytpjlefdigpejdaa.opened Go.Proofs.Ytpjlefdigpejdaa.block

theorem order_any (x y : Int) (w : World) : Calls Try.prog 89 #[.int .u32 x, .int .u32 y] w fun e w' => e = .returned (.int .i64 (cmpI x y)) ∧ w = w' := by
  by_cases h : x < y
  · rw [cmpI_lt h]
    go_enter Try.func89, Try.ntmps89
    go_wp2
    go_ret
    exact ⟨rfl, rfl⟩
  · by_cases k : y < x
    · rw [cmpI_gt k]
      go_enter Try.func89, Try.ntmps89
      go_wp2
      go_ret
      exact ⟨rfl, rfl⟩
    · obtain rfl : x = y := by omega
      rw [cmpI_self]
      clear h k
      go_enter Try.func89, Try.ntmps89
      go_wp2
      go_ret
      exact ⟨rfl, rfl⟩
theorem still_at {P : Program} {f : FuncId} {args : Array Value} {w : World} {a n : Nat} {v : Value} (h : ∀ W : World, Calls P f args W fun e w' => e = .returned v ∧ W = w') :
    Calls P f args (w.drewN (a + n)) fun e w' => e = .returned v ∧ ∃ m, w' = w.drewN (a + m) := (h _).mono fun _ _ ⟨he, hm⟩ => ⟨he, n, hm.symm⟩
theorem compareR_lt (s t : Tm) (_i : s.In) (_j : t.In) (h : s.d < t.d) (w : World) : Calls Try.prog 52 #[.agg #[.int .u32 s.e, .int .i64 s.d, .int .u32 s.a, .int .u32 s.b, .int .u32 s.c], .agg #[.int .u32 t.e, .int .i64 t.d, .int .u32 t.a, .int .u32 t.b, .int .u32 t.c]] w fun e w' => e = .returned (.int .i64 (-1)) ∧ Below w.heap.size w w' := by
  go_enter Try.func52, Try.ntmps52
  go_wp2
  go_ret
  exact ⟨rfl, fresh2 _ _ _⟩
theorem compareR_gt (s t : Tm) (_i : s.In) (_j : t.In) (h : t.d < s.d) (w : World) : Calls Try.prog 52 #[.agg #[.int .u32 s.e, .int .i64 s.d, .int .u32 s.a, .int .u32 s.b, .int .u32 s.c], .agg #[.int .u32 t.e, .int .i64 t.d, .int .u32 t.a, .int .u32 t.b, .int .u32 t.c]] w fun e w' => e = .returned (.int .i64 1) ∧ Below w.heap.size w w' := by
  go_enter Try.func52, Try.ntmps52
  go_wp2
  go_ret
  exact ⟨rfl, fresh2 _ _ _⟩
theorem compareR_e (s t : Tm) (_i : s.In) (_j : t.In) (h : s.d = t.d) (he : s.e ≠ t.e) (w : World) : Calls Try.prog 52 #[.agg #[.int .u32 s.e, .int .i64 s.d, .int .u32 s.a, .int .u32 s.b, .int .u32 s.c], .agg #[.int .u32 t.e, .int .i64 t.d, .int .u32 t.a, .int .u32 t.b, .int .u32 t.c]] w fun e w' => e = .returned (.int .i64 (cmpI s.e t.e)) ∧ Below w.heap.size w w' := by
  obtain ⟨se, sd, sa, sb, sc⟩ := s
  obtain ⟨te, td, ta, tb, tc⟩ := t
  dsimp only at *
  subst h
  have he' : (se != te) = true := by simpa using he
  clear he
  go_enter Try.func52, Try.ntmps52
  go_wp2_with (go_at_call 89; refine (order_any _ _ _).mono ?_; rintro e w' ⟨rfl, rfl⟩)
  go_ret
  exact ⟨rfl, fresh2 _ _ _⟩
theorem compareR_a (s t : Tm) (_i : s.In) (_j : t.In) (h : s.d = t.d) (he : s.e = t.e) (ha : s.a ≠ t.a) (w : World) : Calls Try.prog 52 #[.agg #[.int .u32 s.e, .int .i64 s.d, .int .u32 s.a, .int .u32 s.b, .int .u32 s.c], .agg #[.int .u32 t.e, .int .i64 t.d, .int .u32 t.a, .int .u32 t.b, .int .u32 t.c]] w fun e w' => e = .returned (.int .i64 (cmpI s.a t.a)) ∧ Below w.heap.size w w' := by
  obtain ⟨se, sd, sa, sb, sc⟩ := s
  obtain ⟨te, td, ta, tb, tc⟩ := t
  dsimp only at *
  subst h he
  have ha' : (sa != ta) = true := by simpa using ha
  clear ha
  go_enter Try.func52, Try.ntmps52
  go_wp2
  refine wp_loop_rounds 4 ?_
  rw [rounds_succ]
  go_wp2
  go_quiet (fail)
  go_wp2
  go_quiet ((go_at_call 89; exact still_at (order_any _ _)))
  go_wp2
  go_ret
  exact ⟨rfl, by repeat (first | exact fresh2 _ _ _ | apply below_drewN)⟩
theorem compareR_b (s t : Tm) (_i : s.In) (_j : t.In) (h : s.d = t.d) (he : s.e = t.e) (ha : s.a = t.a) (hb : s.b ≠ t.b) (w : World) : Calls Try.prog 52 #[.agg #[.int .u32 s.e, .int .i64 s.d, .int .u32 s.a, .int .u32 s.b, .int .u32 s.c], .agg #[.int .u32 t.e, .int .i64 t.d, .int .u32 t.a, .int .u32 t.b, .int .u32 t.c]] w fun e w' => e = .returned (.int .i64 (cmpI s.b t.b)) ∧ Below w.heap.size w w' := by
  obtain ⟨se, sd, sa, sb, sc⟩ := s
  obtain ⟨te, td, ta, tb, tc⟩ := t
  dsimp only at *
  subst h he
  subst ha
  have hb' : (sb != tb) = true := by simpa using hb
  clear hb
  go_enter Try.func52, Try.ntmps52
  go_wp2
  refine wp_loop_rounds 4 ?_
  rw [rounds_succ]
  go_wp2
  go_quiet (fail)
  go_wp2
  rw [rounds_succ]
  go_wp2
  go_quiet (fail)
  go_wp2
  go_quiet ((go_at_call 89; exact still_at (order_any _ _)))
  go_wp2
  go_ret
  exact ⟨rfl, by repeat (first | exact fresh2 _ _ _ | apply below_drewN)⟩
theorem compareR_c (s t : Tm) (_i : s.In) (_j : t.In) (h : s.d = t.d) (he : s.e = t.e) (ha : s.a = t.a) (hb : s.b = t.b) (hc : s.c ≠ t.c) (w : World) : Calls Try.prog 52 #[.agg #[.int .u32 s.e, .int .i64 s.d, .int .u32 s.a, .int .u32 s.b, .int .u32 s.c], .agg #[.int .u32 t.e, .int .i64 t.d, .int .u32 t.a, .int .u32 t.b, .int .u32 t.c]] w fun e w' => e = .returned (.int .i64 (cmpI s.c t.c)) ∧ Below w.heap.size w w' := by
  obtain ⟨se, sd, sa, sb, sc⟩ := s
  obtain ⟨te, td, ta, tb, tc⟩ := t
  dsimp only at *
  subst h he
  subst ha hb
  have hc' : (sc != tc) = true := by simpa using hc
  clear hc
  go_enter Try.func52, Try.ntmps52
  go_wp2
  refine wp_loop_rounds 4 ?_
  rw [rounds_succ]
  go_wp2
  go_quiet (fail)
  go_wp2
  rw [rounds_succ]
  go_wp2
  go_quiet (fail)
  go_wp2
  rw [rounds_succ]
  go_wp2
  go_quiet (fail)
  go_wp2
  go_quiet ((go_at_call 89; exact still_at (order_any _ _)))
  go_wp2
  go_ret
  exact ⟨rfl, by repeat (first | exact fresh2 _ _ _ | apply below_drewN)⟩
theorem compareR_o (s t : Tm) (_i : s.In) (_j : t.In) (h : s.d = t.d) (he : s.e = t.e) (ha : s.a = t.a) (hb : s.b = t.b) (hc : s.c = t.c) (w : World) : Calls Try.prog 52 #[.agg #[.int .u32 s.e, .int .i64 s.d, .int .u32 s.a, .int .u32 s.b, .int .u32 s.c], .agg #[.int .u32 t.e, .int .i64 t.d, .int .u32 t.a, .int .u32 t.b, .int .u32 t.c]] w fun e w' => e = .returned (.int .i64 (0)) ∧ Below w.heap.size w w' := by
  obtain ⟨se, sd, sa, sb, sc⟩ := s
  obtain ⟨te, td, ta, tb, tc⟩ := t
  dsimp only at *
  subst h he
  subst ha hb hc
  go_enter Try.func52, Try.ntmps52
  go_wp2
  refine wp_loop_rounds 4 ?_
  rw [rounds_succ]
  go_wp2
  go_quiet (fail)
  go_wp2
  rw [rounds_succ]
  go_wp2
  go_quiet (fail)
  go_wp2
  rw [rounds_succ]
  go_wp2
  go_quiet (fail)
  go_wp2
  rw [rounds_succ]
  go_wp2
  go_ret
  exact ⟨rfl, by repeat (first | exact fresh2 _ _ _ | apply below_drewN)⟩
theorem compareR_any (s t : Tm) (i : s.In) (j : t.In) (w : World) : Calls Try.prog 52 #[.agg #[.int .u32 s.e, .int .i64 s.d, .int .u32 s.a, .int .u32 s.b, .int .u32 s.c], .agg #[.int .u32 t.e, .int .i64 t.d, .int .u32 t.a, .int .u32 t.b, .int .u32 t.c]] w fun e w' => e = .returned (.int .i64 (cmpT s t)) ∧ Below w.heap.size w w' := by
  by_cases h1 : s.d < t.d
  · rw [show cmpT s t = -1 by simp [cmpT, cmpI_lt h1, orI]]
    exact compareR_lt s t i j h1 w
  · by_cases h2 : t.d < s.d
    · rw [show cmpT s t = 1 by simp [cmpT, cmpI_gt h2, orI]]
      exact compareR_gt s t i j h2 w
    · have h : s.d = t.d := by omega
      by_cases he : s.e = t.e
      · by_cases ha : s.a = t.a
        · by_cases hb : s.b = t.b
          · by_cases hc : s.c = t.c
            · rw [show cmpT s t = 0 by simp [cmpT, h, he, ha, hb, hc, cmpI_self, orI]]
              exact compareR_o s t i j h he ha hb hc w
            · rw [show cmpT s t = cmpI s.c t.c by simp [cmpT, h, he, ha, hb, cmpI_self, orI]]
              exact compareR_c s t i j h he ha hb hc w
          · rw [show cmpT s t = cmpI s.b t.b by simp [cmpT, h, he, ha, cmpI_self, cmpI_ne hb, orI]]
            exact compareR_b s t i j h he ha hb w
        · rw [show cmpT s t = cmpI s.a t.a by simp [cmpT, h, he, cmpI_self, cmpI_ne ha, orI]]
          exact compareR_a s t i j h he ha w
      · rw [show cmpT s t = cmpI s.e t.e by simp [cmpT, h, cmpI_self, cmpI_ne he, orI]]
        exact compareR_e s t i j h he w
end Go.Proofs.Ytpjlefdigpejdaa.stamp
