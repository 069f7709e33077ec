/-
  One path, and then the other: what becomes of a time by both is what becomes by the second one of what becomes by the first one; no condition.
-/
import Derived.Test.YtggdcnoonmepcaaBf
import Derived.Test.YtggdcnoonmepcaaEq
namespace Go.Proofs.Ytggdcnoonmepcaa.path
open Go.Proofs.Ytggdcnoonmepcaa.tm Go.Proofs.Ytggdcnoonmepcaa.pa
theorem raw_nn {p : Pa} {t : Tm} (i : p.In) (j : t.In) : 0 ≤ (rawT p t).e ∧ 0 ≤ (rawT p t).a ∧ 0 ≤ (rawT p t).b ∧ 0 ≤ (rawT p t).c := by
  have i1 := i.p00
  have i2 := i.p10
  have i3 := i.p20
  have i4 := i.p30
  have k1 := i.l00
  have k2 := i.l10
  have k3 := i.l20
  have j1 := j.e0
  have j2 := j.a0
  have j3 := j.b0
  have j4 := j.c0
  unfold rawT
  dsimp only
  refine ⟨by omega, ?_, ?_, ?_⟩ <;> repeat' split
  all_goals omega
theorem in_then {p q : Pa} (i : p.In) (j : q.In) : (thenV p q).In := by
  by_cases h : thenE p q = 0
  · obtain ⟨hp, hq, -, -⟩ := then_zero h
    have c := chkP_open (then_chk h)
    have n := raw_nn (t := fstT p) j (in_fst i hp)
    rw [then_val h] at c ⊢
    generalize rawT q (fstT p) = T at c n
    have nn : ∀ x : Int, 0 ≤ nth T x := fun x => by
      unfold nth
      repeat' split
      all_goals omega
    have m1 := nn (minI' p.k q.k)
    have m2 := nn (minI' p.k q.k + 1)
    have m3 := nn (minI' p.k q.k + 2)
    generalize minI' p.k q.k = K at c m1 m2 m3
    unfold cutP at c ⊢
    dsimp only at c
    have z1 : 0 ≤ (if 1 ≤ K then T.a else 0) := by split <;> omega
    have z2 : 0 ≤ (if 2 ≤ K then T.b else 0) := by split <;> omega
    have z3 : 0 ≤ (if 3 ≤ K then T.c else 0) := by split <;> omega
    constructor <;> dsimp only <;> omega
  · unfold thenV
    rw [if_neg h]
    constructor <;> decide
end Go.Proofs.Ytggdcnoonmepcaa.path
namespace Go.Proofs.Ytggdcnoonmepcaa.pathThen
open Go.ChangeShapes Go.WideShapes Go.ChangeAt Go.RowKit
open Go.Proofs.Ytggdcnoonmepcaa.tm Go.Proofs.Ytggdcnoonmepcaa.opened Go.Proofs.Ytggdcnoonmepcaa.block Go.Proofs.Ytggdcnoonmepcaa.stamp Go.Proofs.Ytggdcnoonmepcaa.pa Go.Proofs.Ytggdcnoonmepcaa.path Go.Proofs.Ytggdcnoonmepcaa.region

set_option maxRecDepth 100000 in
set_option maxHeartbeats 4000000 in
theorem walk (p q : Pa) (t : Tm) (i : p.In) (j : q.In) (k : t.In) (w : World) : Calls Try.prog 6 #[.agg #[.int .i64 p.f, .int .i64 p.k, .int .u32 p.p0, .int .u32 p.p1, .int .u32 p.p2, .int .u32 p.p3, .int .i64 p.u, .int .u32 p.l0, .int .u32 p.l1, .int .u32 p.l2], .agg #[.int .i64 q.f, .int .i64 q.k, .int .u32 q.p0, .int .u32 q.p1, .int .u32 q.p2, .int .u32 q.p3, .int .i64 q.u, .int .u32 q.l0, .int .u32 q.l1, .int .u32 q.l2], .agg #[.int .u32 t.e, .int .i64 t.d, .int .u32 t.a, .int .u32 t.b, .int .u32 t.c]] w fun e w' => e = .returned (.bool true) ∧ Below w.heap.size w w' := by
  have h0 := Tri.fresh w 30 30 49 #[.int .i64 p.f, .int .i64 p.k, .int .u32 p.p0, .int .u32 p.p1, .int .u32 p.p2, .int .u32 p.p3, .int .i64 p.u, .int .u32 p.l0, .int .u32 p.l1, .int .u32 p.l2] #[.int .i64 q.f, .int .i64 q.k, .int .u32 q.p0, .int .u32 q.p1, .int .u32 q.p2, .int .u32 q.p3, .int .i64 q.u, .int .u32 q.l0, .int .u32 q.l1, .int .u32 q.l2] #[.int .u32 t.e, .int .i64 t.d, .int .u32 t.a, .int .u32 t.b, .int .u32 t.c]
  have T := Lib.hid (then_any p q i j)
  have K := Lib.hid (checkR_any t k)
  have A := Lib.hid (apply_any p t i k)
  have C := Lib.hid (apply_any (thenV p q) t (in_then i j) k)
  have B := Lib.hid (apply_any q (applyV p t) j (in_apply i k))
  have F := Lib.hid (fun h h' => apply_then (p := p) (q := q) (t := t) h h')
  generalize thenV p q = x at T C F
  generalize thenE p q = ex at T F
  generalize chk t = ct at K F
  generalize applyV q (applyV p t) = V at B F
  generalize applyE q (applyV p t) = ev at B F
  generalize applyV p t = Y at A B F
  generalize applyE p t = ey at A F
  generalize applyV x t = Z at C F
  generalize applyE x t = ez at C F
  have NE := Lib.hid (fun W => (run_eqT Z Z W).trans (by rw [eqT_self]))
  clear i j k
  go_enter Try.func6, Try.ntmps6
  go_wp2_with fail
  refine (works_any _).mono ?_
  rintro e w1 ⟨rfl, b1⟩
  have h1 := h0.below b1
  clear b1 h0
  generalize w.heap.size = g at h1 ⊢
  go_upto_region 3 with fail
  refine region_one2 8 9 72 26 #[.int .i64 0, .int .i64 0, .int .u32 0, .int .u32 0, .int .u32 0, .int .u32 0, .int .i64 0, .int .u32 0, .int .u32 0, .int .u32 0] #[.int .i64 x.f, .int .i64 x.k, .int .u32 x.p0, .int .u32 x.p1, .int .u32 x.p2, .int .u32 x.p3, .int .i64 x.u, .int .u32 x.l0, .int .u32 x.l1, .int .u32 x.l2]
    [.agg #[.int .i64 p.f, .int .i64 p.k, .int .u32 p.p0, .int .u32 p.p1, .int .u32 p.p2, .int .u32 p.p3, .int .i64 p.u, .int .u32 p.l0, .int .u32 p.l1, .int .u32 p.l2], .agg #[.int .i64 p.f, .int .i64 p.k, .int .u32 p.p0, .int .u32 p.p1, .int .u32 p.p2, .int .u32 p.p3, .int .i64 p.u, .int .u32 p.l0, .int .u32 p.l1, .int .u32 p.l2], .agg #[.int .i64 q.f, .int .i64 q.k, .int .u32 q.p0, .int .u32 q.p1, .int .u32 q.p2, .int .u32 q.p3, .int .i64 q.u, .int .u32 q.l0, .int .u32 q.l1, .int .u32 q.l2], .agg #[.int .i64 q.f, .int .i64 q.k, .int .u32 q.p0, .int .u32 q.p1, .int .u32 q.p2, .int .u32 q.p3, .int .i64 q.u, .int .u32 q.l0, .int .u32 q.l1, .int .u32 q.l2], .tuple #[.agg #[.int .i64 x.f, .int .i64 x.k, .int .u32 x.p0, .int .u32 x.p1, .int .u32 x.p2, .int .u32 x.p3, .int .i64 x.u, .int .u32 x.l0, .int .u32 x.l1, .int .u32 x.l2], .int .i64 ex], .tuple #[.agg #[.int .i64 x.f, .int .i64 x.k, .int .u32 x.p0, .int .u32 x.p1, .int .u32 x.p2, .int .u32 x.p3, .int .i64 x.u, .int .u32 x.l0, .int .u32 x.l1, .int .u32 x.l2], .int .i64 ex], .agg #[.int .i64 x.f, .int .i64 x.k, .int .u32 x.p0, .int .u32 x.p1, .int .u32 x.p2, .int .u32 x.p3, .int .i64 x.u, .int .u32 x.l0, .int .u32 x.l1, .int .u32 x.l2], .int .i64 ex, undef, undef, .int .i64 ex] (by kernel_rfl) rfl (by kernel_rfl) rfl rfl rfl rfl rfl rfl (by kernel_rfl) (by kernel_rfl) rfl (by simp [Value.oneCell']) (by kernel_rfl) ?_ ?_
  · intro w ρ
    simp [execOp, go_sem]
  intro fin hfin
  simp [lexPut, val, kind1, Act.put] at hfin
  refine ⟨fun n => by rw [hfin]; rfl, ⟨fun _ n => tells_load rfl (by rw [hfin]; rfl) h1.drew.one Try.underlying30 rfl (by kernel_rfl),
      fun _ n => tells_call rfl (by rw [hfin]; simp [Act.eval]) rfl Try.func23 (by kernel_rfl) (by kernel_rfl) (to_any p),
      fun _ n => tells_load rfl (by rw [hfin]; rfl) h1.drew.two Try.underlying30 rfl (by kernel_rfl),
      fun _ n => tells_call rfl (by rw [hfin]; simp [Act.eval]) rfl Try.func23 (by kernel_rfl) (by kernel_rfl) (to_any q),
      fun _ n => tells_call rfl (by rw [hfin]; simp [Act.eval]) rfl Try.func35 (by kernel_rfl) (by kernel_rfl) T.out,
      fun _ n => tells_move rfl (by rw [hfin]; rfl),
      fun _ n => tells_extract rfl (by rw [hfin]; rfl) rfl,
      fun _ n => tells_extract rfl (by rw [hfin]; rfl) rfl,
      (fun h => by simp [kind1] at h),
      (fun h => by simp [kind1] at h),
      fun _ n => tells_assign rfl (by rw [hfin]; rfl), trivial⟩, ?_⟩
  intro n w2 m hm hb2 OX hlt
  rw [hfin, hm]
  clear hfin hm n fin
  have h2 := h1.below hb2
  have hm : g + 1 + 1 < m := Nat.lt_of_lt_of_le h1.tre.inside hlt
  clear hlt hb2 h1
  by_cases e0 : ex = 0
  · subst e0
    obtain ⟨tc, td⟩ := all_of h2.tre
    go_wp2_with fail
    refine (K.out _).mono ?_
    rintro e w3 ⟨rfl, b3⟩
    have h3 := h2.below b3
    have OX := OX.below b3 OX.inside
    clear tc td b3 h2
    by_cases e1 : ct = 0
    · subst e1
      have F2 := Lib.hid (F.out (by trivial) (by trivial))
      clear F
      go_upto_region 6 with fail
      refine region_one2 7 8 72 49 #[.int .u32 0, .int .i64 0, .int .u32 0, .int .u32 0, .int .u32 0] #[.int .u32 Y.e, .int .i64 Y.d, .int .u32 Y.a, .int .u32 Y.b, .int .u32 Y.c]
        [.agg #[.int .i64 p.f, .int .i64 p.k, .int .u32 p.p0, .int .u32 p.p1, .int .u32 p.p2, .int .u32 p.p3, .int .i64 p.u, .int .u32 p.l0, .int .u32 p.l1, .int .u32 p.l2], .agg #[.int .i64 p.f, .int .i64 p.k, .int .u32 p.p0, .int .u32 p.p1, .int .u32 p.p2, .int .u32 p.p3, .int .i64 p.u, .int .u32 p.l0, .int .u32 p.l1, .int .u32 p.l2], .agg #[.int .u32 t.e, .int .i64 t.d, .int .u32 t.a, .int .u32 t.b, .int .u32 t.c], .tuple #[.agg #[.int .u32 Y.e, .int .i64 Y.d, .int .u32 Y.a, .int .u32 Y.b, .int .u32 Y.c], .int .i64 ey], .tuple #[.agg #[.int .u32 Y.e, .int .i64 Y.d, .int .u32 Y.a, .int .u32 Y.b, .int .u32 Y.c], .int .i64 ey], .agg #[.int .u32 Y.e, .int .i64 Y.d, .int .u32 Y.a, .int .u32 Y.b, .int .u32 Y.c], .int .i64 ey, undef, undef, .int .i64 ey] (by kernel_rfl) rfl (by kernel_rfl) rfl rfl rfl rfl rfl rfl (by kernel_rfl) (by kernel_rfl) rfl (by simp [Value.oneCell']) (by kernel_rfl) ?_ ?_
      · intro w ρ
        simp [execOp, go_sem]
      intro fin hfin
      simp [lexPut, val, kind1, Act.put] at hfin
      refine ⟨fun n => by rw [hfin]; rfl, ⟨fun _ n => tells_load rfl (by rw [hfin]; rfl) h3.drew.one Try.underlying30 rfl (by kernel_rfl),
          fun _ n => tells_call rfl (by rw [hfin]; simp [Act.eval]) rfl Try.func23 (by kernel_rfl) (by kernel_rfl) (to_any p),
          fun _ n => tells_load rfl (by rw [hfin]; rfl) h3.drew.tre Try.underlying49 rfl (by kernel_rfl),
          fun _ n => tells_call rfl (by rw [hfin]; simp [Act.eval]) rfl Try.func33 (by kernel_rfl) (by kernel_rfl) A.out,
          fun _ n => tells_move rfl (by rw [hfin]; rfl),
          fun _ n => tells_extract rfl (by rw [hfin]; rfl) rfl,
          fun _ n => tells_extract rfl (by rw [hfin]; rfl) rfl,
          (fun h => by simp [kind1] at h),
          (fun h => by simp [kind1] at h),
          fun _ n => tells_assign rfl (by rw [hfin]; rfl), trivial⟩, ?_⟩
      intro n w4 m2 hm hb4 OY hlt
      rw [hfin, hm]
      clear hfin hm n fin
      have h4 := h3.below hb4
      have OX := OX.below hb4 OX.inside
      clear hb4 h3 hlt
      obtain ⟨xc, xd⟩ := all_of OX
      obtain ⟨tc, td⟩ := all_of h4.tre
      go_wp2_with fail
      refine (C.out _).mono ?_
      rintro e w5 ⟨rfl, b5⟩
      have h5 := (h4.below b5).alloc (.cells #[.int .u32 Z.e, .int .i64 Z.d, .int .u32 Z.a, .int .u32 Z.b, .int .u32 Z.c] 49)
      have OY := (OY.below b5 OY.inside).alloc (.cells #[.int .u32 Z.e, .int .i64 Z.d, .int .u32 Z.a, .int .u32 Z.b, .int .u32 Z.c] 49)
      have OZ := Whole.fresh w5 49 #[.int .u32 Z.e, .int .i64 Z.d, .int .u32 Z.a, .int .u32 Z.b, .int .u32 Z.c]
      clear xc xd tc td b5 h4 OX
      by_cases e2 : ey = 0
      · go_upto_region 10 with fail
        generalize w5.alloc (.cells #[.int .u32 Z.e, .int .i64 Z.d, .int .u32 Z.a, .int .u32 Z.b, .int .u32 Z.c] 49) = W at h5 OY OZ ⊢
        generalize w5.heap.size = m3 at OZ ⊢
        have hF : ez = ev ∧ Z = V := by
          rcases F2.out with h | h | h
          · exact h.2
          · omega
          · omega
        obtain ⟨rfl, rfl⟩ := hF
        clear F2
        refine region_one2 7 8 72 49 #[.int .u32 0, .int .i64 0, .int .u32 0, .int .u32 0, .int .u32 0] #[.int .u32 Z.e, .int .i64 Z.d, .int .u32 Z.a, .int .u32 Z.b, .int .u32 Z.c]
          [.agg #[.int .i64 q.f, .int .i64 q.k, .int .u32 q.p0, .int .u32 q.p1, .int .u32 q.p2, .int .u32 q.p3, .int .i64 q.u, .int .u32 q.l0, .int .u32 q.l1, .int .u32 q.l2], .agg #[.int .i64 q.f, .int .i64 q.k, .int .u32 q.p0, .int .u32 q.p1, .int .u32 q.p2, .int .u32 q.p3, .int .i64 q.u, .int .u32 q.l0, .int .u32 q.l1, .int .u32 q.l2], .agg #[.int .u32 Y.e, .int .i64 Y.d, .int .u32 Y.a, .int .u32 Y.b, .int .u32 Y.c], .tuple #[.agg #[.int .u32 Z.e, .int .i64 Z.d, .int .u32 Z.a, .int .u32 Z.b, .int .u32 Z.c], .int .i64 ez], .tuple #[.agg #[.int .u32 Z.e, .int .i64 Z.d, .int .u32 Z.a, .int .u32 Z.b, .int .u32 Z.c], .int .i64 ez], .agg #[.int .u32 Z.e, .int .i64 Z.d, .int .u32 Z.a, .int .u32 Z.b, .int .u32 Z.c], .int .i64 ez, undef, undef, .int .i64 ez] (by kernel_rfl) rfl (by kernel_rfl) rfl rfl rfl rfl rfl rfl (by kernel_rfl) (by kernel_rfl) rfl (by simp [Value.oneCell']) (by kernel_rfl) ?_ ?_
        · intro w ρ
          simp [execOp, go_sem]
        intro fin hfin
        simp [lexPut, val, kind1, Act.put] at hfin
        refine ⟨fun n => by rw [hfin]; rfl, ⟨fun _ n => tells_load rfl (by rw [hfin]; rfl) h5.drew.two Try.underlying30 rfl (by kernel_rfl),
            fun _ n => tells_call rfl (by rw [hfin]; simp [Act.eval]) rfl Try.func23 (by kernel_rfl) (by kernel_rfl) (to_any q),
            fun _ n => tells_load rfl (by rw [hfin]; rfl) (show Whole W.drew m2 _ _ from OY) Try.underlying49 rfl (by kernel_rfl),
            fun _ n => tells_call rfl (by rw [hfin]; simp [Act.eval]) rfl Try.func33 (by kernel_rfl) (by kernel_rfl) B.out,
            fun _ n => tells_move rfl (by rw [hfin]; rfl),
            fun _ n => tells_extract rfl (by rw [hfin]; rfl) rfl,
            fun _ n => tells_extract rfl (by rw [hfin]; rfl) rfl,
            (fun h => by simp [kind1] at h),
            (fun h => by simp [kind1] at h),
            fun _ n => tells_assign rfl (by rw [hfin]; rfl), trivial⟩, ?_⟩
        intro n w6 m4 hm hb6 OV hlt
        rw [hfin, hm]
        clear hfin hm n fin
        have h6 := h5.below hb6
        have OZ := OZ.below hb6 OZ.inside
        obtain ⟨zc, zd⟩ := all_of OZ
        obtain ⟨vc, vd⟩ := all_of OV
        have ne := NE.out
        go_wp2_with fail
        go_ret
        exact ⟨by first | rfl | simp, h6.old⟩
      · have e3 : (ey != 0) = true := by simpa using e2
        have hF : ey = 9 ∨ (ey = 10 ∧ ez = 10) := by
          rcases F2.out with h | h | h
          · exact absurd h.1 e2
          · exact .inl h
          · exact .inr h
        clear e2 F2
        rcases hF with rfl | ⟨rfl, rfl⟩
        · go_wp2_with fail
          go_ret
          exact ⟨rfl, h5.old⟩
        · go_wp2_with fail
          go_ret
          exact ⟨rfl, h5.old⟩
    · have e2 : (ct != 0) = true := by simpa using e1
      clear e1 F
      go_wp2_with fail
      go_ret
      exact ⟨rfl, h3.old⟩
  · have e1 : (ex != 0) = true := by simpa using e0
    clear e0 F
    go_wp2_with fail
    go_ret
    exact ⟨rfl, h2.old⟩
theorem told (W : World) (args : Array Value) (h : Fed Try.prog W [30, 30, 49] args) : Calls Try.prog 6 args W fun e W' => e = .returned (.bool true) ∧ Below W.heap.size W W' := by
  obtain ⟨v0, v1, v2, rfl⟩ := args3 h.count
  obtain ⟨⟨_, o0⟩, r0⟩ := h.each 0 30 v0 rfl rfl
  obtain ⟨⟨_, o1⟩, r1⟩ := h.each 1 30 v1 rfl rfl
  obtain ⟨⟨_, o2⟩, r2⟩ := h.each 2 49 v2 rfl rfl
  obtain ⟨a0, q0⟩ := r0 opens_path
  obtain ⟨t0, i0, rfl⟩ := top_path o0 q0
  obtain ⟨a1, q1⟩ := r1 opens_path
  obtain ⟨t1, i1, rfl⟩ := top_path o1 q1
  obtain ⟨a2, q2⟩ := r2 opens_time
  obtain ⟨t2, i2, rfl⟩ := top_time o2 q2
  exact walk t0 t1 t2 i0 i1 i2 W

/-! ### The row -/
theorem own : ownKnob Try.prog.godebug = none := by kernel_rfl
theorem laidOut : laidOutB Try.prog = true := by kernel_rfl
set_option maxRecDepth 100000 in
theorem lifted (os : Os) (started : os.Started) (H : Type) (enc : TypeId × Value → H) :
    ReturnsInHanded {} Try.checked os 6 .any (Rows.pathThenSpec.pre6 enc Try.prog Try.f6 Rows.pathThenRow.domain false) (Rows.pathThenSpec.post enc Try.prog Try.f6 false true false false) :=
  lift (C := Try.checked) (fn := Try.f6) (tb := 4) (ts := [30, 30, 49]) own started (by kernel_rfl) Try.func6 laidOut (by kernel_rfl) (by kernel_rfl) (by kernel_rfl) Try.underlying4 rfl
    (fun ds h => by
      match ds, h with
      | [_, _, _], _ => rfl)
    (ChangeSpec.witness6 (enc := enc) (C := Try.checked) false ⟨#[], #[.agg #[.int .i64 0, .int .i64 0, .int .u32 0, .int .u32 0, .int .u32 0, .int .u32 0, .int .i64 0, .int .u32 0, .int .u32 0, .int .u32 0], .agg #[.int .i64 0, .int .i64 0, .int .u32 0, .int .u32 0, .int .u32 0, .int .u32 0, .int .i64 0, .int .u32 0, .int .u32 0, .int .u32 0], .agg #[.int .u32 0, .int .i64 0, .int .u32 0, .int .u32 0, .int .u32 0]], []⟩ 8 (by kernel_rfl) (by kernel_rfl) (by kernel_rfl) (by kernel_rfl)) told

theorem over : Rows.pathThenRow.holds Try.pinned (OpenSpec.ofChange Rows.pathThenSpec) :=
  OpenClaim.holds_of_wide 6 Try.f6 rfl rfl rfl rfl rfl rfl rfl ⟨rfl, rfl, rfl, rfl, rfl⟩ rfl rfl rfl rfl rfl (by kernel_rfl) Try.func6 (by kernel_rfl)
    (of_decide_eq_true (by kernel_rfl)) (by unfold Func.isWrapper; first | (rw [if_pos (by decide +kernel)]; kernel_rfl) | (rw [if_neg (by decide +kernel)]; exact ⟨rfl, rfl⟩))
    (fun os started H enc _ => lifted os started H enc)

theorem proved : Rows.PathThenSaid := over
#print axioms proved
end Go.Proofs.Ytggdcnoonmepcaa.pathThen
