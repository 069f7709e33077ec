/-
  The contracts of Join and Meet.
-/
import Derived.Test.YtmepiogoofmbbaaMerge
import Derived.Test.YtmepiogoofmbbaaMergeN
namespace Go.Proofs.Ytmepiogoofmbbaa.stamp
open Go.ChangeShapes Go.WideShapes Go.ChangeAt Go.RowKit
open Go.Proofs.Ytmepiogoofmbbaa.tm Go.Proofs.Ytmepiogoofmbbaa.opened Go.Proofs.Ytmepiogoofmbbaa.block

theorem merge_bad (s t : Tm) (fv : Value) (i : s.In) (j : t.In) (h : both s t ≠ 0) (w : World) : Calls Try.prog 106 #[.agg #[.int .u32 s.e, .int .i64 s.d, .int .u32 s.a, .int .u32 s.b, .int .u32 s.c], .agg #[.int .u32 t.e, .int .i64 t.d, .int .u32 t.a, .int .u32 t.b, .int .u32 t.c], fv] w fun e w' => e = .returned (.tuple #[.agg #[.int .u32 T0.e, .int .i64 T0.d, .int .u32 T0.a, .int .u32 T0.b, .int .u32 T0.c], .int .i64 (both s t)]) ∧ Below w.heap.size w w' := by
  generalize hE : both s t = E at h
  have h' : (E != 0) = true := by simpa using h
  clear h
  have HE := Lib.hid hE
  clear hE
  go_enter Try.func106, Try.ntmps106
  go_wp2_with fail
  refine (both_is _ _ i j HE.out _).mono ?_
  rintro e w1 ⟨rfl, b1⟩
  obtain ⟨h3, b2⟩ := three_of b1
  clear b1
  generalize hg : w.heap.size = g at h3 b2 ⊢
  have HG := Lib.hid hg
  clear hg
  obtain ⟨⟨p0, p1, p2, p3, p4, pf0, pf1, pf2, pf3, pf4⟩, ⟨q0, q1, q2, q3, q4, qf0, qf1, qf2, qf3, qf4⟩, ⟨r0, r1, r2, r3, r4, rf0, rf1, rf2, rf3, rf4⟩⟩ := h3.facts
  clear i j
  go_wp2
  exact bodyPost_ret (v := .tuple #[.agg #[.int .u32 T0.e, .int .i64 T0.d, .int .u32 T0.a, .int .u32 T0.b, .int .u32 T0.c], .int .i64 E]) (by obtain ⟨z0, z1, z2, z3, z4, -⟩ := facts5 (five h3.three (.int .u32 0) (.int .i64 0) (.int .u32 0) (.int .u32 0) (.int .u32 0)); simp [results, Try.results106, go_sem, z0, z1, z2, z3, z4, T0]) rfl ⟨rfl, by
    have := HG.out
    subst this
    repeat (with_reducible refine Below.setCell ?_ (by simp; omega) _)
    exact b2⟩
theorem mz_maxI {s t : Tm} (h : both s t = 0) : mz maxI s t s.d.toNat = joinV s t := by
  obtain ⟨hs, ht, hd⟩ := both_zero h
  obtain ⟨z0, z1, -, -, -, -, p1, p2, p3⟩ := chk_zero hs
  obtain ⟨-, -, -, -, -, -, q1, q2, q3⟩ := chk_zero ht
  obtain ⟨se, sd, sa, sb, sc⟩ := s
  obtain ⟨te, td, ta, tb, tc⟩ := t
  dsimp only at *
  subst hd
  unfold joinV
  rw [if_pos h]
  have hk : sd = 0 ∨ sd = 1 ∨ sd = 2 ∨ sd = 3 := by omega
  rcases hk with rfl | rfl | rfl | rfl
  · have := p1 (by omega); have := p2 (by omega); have := p3 (by omega); have := q1 (by omega); have := q2 (by omega); have := q3 (by omega); subst_vars; simp [mz, maxI]
  · have := p2 (by omega); have := p3 (by omega); have := q2 (by omega); have := q3 (by omega); subst_vars; simp [mz, maxI]
  · have := p3 (by omega); have := q3 (by omega); subst_vars; simp [mz, maxI]
  · simp [mz]
theorem mergeMax_any (s t : Tm) (i : s.In) (j : t.In) (w : World) : Calls Try.prog 106 #[.agg #[.int .u32 s.e, .int .i64 s.d, .int .u32 s.a, .int .u32 s.b, .int .u32 s.c], .agg #[.int .u32 t.e, .int .i64 t.d, .int .u32 t.a, .int .u32 t.b, .int .u32 t.c], .func (.func 107) #[] #[]] w fun e w' => e = .returned (.tuple #[.agg #[.int .u32 (joinV s t).e, .int .i64 (joinV s t).d, .int .u32 (joinV s t).a, .int .u32 (joinV s t).b, .int .u32 (joinV s t).c], .int .i64 (both s t)]) ∧ Below w.heap.size w w' := by
  by_cases h : both s t = 0
  · rw [← mz_maxI h, h]
    exact mergeMax_good s t i j h w
  · rw [show joinV s t = T0 by simp [joinV, h]]
    exact merge_bad s t _ i j h w
theorem join_any (s t : Tm) (i : s.In) (j : t.In) (w : World) : Calls Try.prog 66 #[.agg #[.int .u32 s.e, .int .i64 s.d, .int .u32 s.a, .int .u32 s.b, .int .u32 s.c], .agg #[.int .u32 t.e, .int .i64 t.d, .int .u32 t.a, .int .u32 t.b, .int .u32 t.c]] w fun e w' => e = .returned (.tuple #[.agg #[.int .u32 (joinV s t).e, .int .i64 (joinV s t).d, .int .u32 (joinV s t).a, .int .u32 (joinV s t).b, .int .u32 (joinV s t).c], .int .i64 (both s t)]) ∧ Below w.heap.size w w' := by
  go_enter Try.func66, Try.ntmps66
  go_wp2_with fail
  refine (mergeMax_any s t i j _).mono ?_
  rintro e w1 ⟨rfl, b1⟩
  obtain ⟨h3, b2⟩ := three_of b1
  clear b1
  generalize hg : w.heap.size = g at h3 b2 ⊢
  have HG := Lib.hid hg
  clear hg
  generalize hJ : joinV s t = J
  generalize hE : both s t = E
  have HJ := Lib.hid hJ
  have HE := Lib.hid hE
  clear hJ hE
  obtain ⟨⟨p0, p1, p2, p3, p4, pf0, pf1, pf2, pf3, pf4⟩, ⟨q0, q1, q2, q3, q4, qf0, qf1, qf2, qf3, qf4⟩, ⟨r0, r1, r2, r3, r4, rf0, rf1, rf2, rf3, rf4⟩⟩ := h3.facts
  clear i j
  go_wp2
  exact bodyPost_ret (v := .tuple #[.agg #[.int .u32 J.e, .int .i64 J.d, .int .u32 J.a, .int .u32 J.b, .int .u32 J.c], .int .i64 E]) (by obtain ⟨z0, z1, z2, z3, z4, -⟩ := facts5 (five h3.three (.int .u32 J.e) (.int .i64 J.d) (.int .u32 J.a) (.int .u32 J.b) (.int .u32 J.c)); simp [results, Try.results66, go_sem, z0, z1, z2, z3, z4]) rfl ⟨by rw [HJ.out, HE.out], by
    have := HG.out
    subst this
    repeat (with_reducible refine Below.setCell ?_ (by simp; omega) _)
    exact b2⟩
theorem mz_minI {s t : Tm} (h : both s t = 0) : mz minI s t s.d.toNat = meetV s t := by
  obtain ⟨hs, ht, hd⟩ := both_zero h
  obtain ⟨z0, z1, -, -, -, -, p1, p2, p3⟩ := chk_zero hs
  obtain ⟨-, -, -, -, -, -, q1, q2, q3⟩ := chk_zero ht
  obtain ⟨se, sd, sa, sb, sc⟩ := s
  obtain ⟨te, td, ta, tb, tc⟩ := t
  dsimp only at *
  subst hd
  unfold meetV
  rw [if_pos h]
  have hk : sd = 0 ∨ sd = 1 ∨ sd = 2 ∨ sd = 3 := by omega
  rcases hk with rfl | rfl | rfl | rfl
  · have := p1 (by omega); have := p2 (by omega); have := p3 (by omega); have := q1 (by omega); have := q2 (by omega); have := q3 (by omega); subst_vars; simp [mz, minI]
  · have := p2 (by omega); have := p3 (by omega); have := q2 (by omega); have := q3 (by omega); subst_vars; simp [mz, minI]
  · have := p3 (by omega); have := q3 (by omega); subst_vars; simp [mz, minI]
  · simp [mz]
end Go.Proofs.Ytmepiogoofmbbaa.stamp
