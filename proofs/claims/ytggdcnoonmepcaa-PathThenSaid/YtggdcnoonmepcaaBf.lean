/-
  Never behind: where the program finds a path not behind another one, no time becomes by it one that is behind what it becomes by the other; no condition.
-/
import Derived.Test.YtggdcnoonmepcaaLw
import Derived.Test.YtggdcnoonmepcaaRg2
namespace Go.Proofs.Ytggdcnoonmepcaa.path
open Go.Proofs.Ytggdcnoonmepcaa.tm Go.Proofs.Ytggdcnoonmepcaa.pa
theorem in_apply {p : Pa} {t : Tm} (i : p.In) (j : t.In) : (applyV p t).In := by
  unfold applyV
  split
  · rename_i h
    obtain ⟨a, b, c, d⟩ := apply_zero h
    have z := chk_zero (raw_chk a b c d)
    have i1 := i.p00
    have i2 := i.p10
    have i3 := i.p20
    have i4 := i.p30
    have k1 := i.l00
    have k2 := i.l10
    have k3 := i.l20
    have j1 := j.e0
    have j2 := j.a0
    have j3 := j.b0
    have j4 := j.c0
    have n : 0 ≤ (rawT p t).e ∧ 0 ≤ (rawT p t).a ∧ 0 ≤ (rawT p t).b ∧ 0 ≤ (rawT p t).c := by
      unfold rawT
      dsimp only
      refine ⟨by omega, ?_, ?_, ?_⟩ <;> repeat' split
      all_goals omega
    constructor <;> omega
  · constructor <;> decide
end Go.Proofs.Ytggdcnoonmepcaa.path
namespace Go.Proofs.Ytggdcnoonmepcaa.pathBefore
open Go.ChangeShapes Go.WideShapes Go.ChangeAt Go.RowKit
open Go.Proofs.Ytggdcnoonmepcaa.tm Go.Proofs.Ytggdcnoonmepcaa.opened Go.Proofs.Ytggdcnoonmepcaa.block Go.Proofs.Ytggdcnoonmepcaa.stamp Go.Proofs.Ytggdcnoonmepcaa.pa Go.Proofs.Ytggdcnoonmepcaa.path Go.Proofs.Ytggdcnoonmepcaa.region

set_option maxRecDepth 100000 in
set_option maxHeartbeats 2000000 in
theorem walk (p q : Pa) (t : Tm) (i : p.In) (j : q.In) (k : t.In) (w : World) : Calls Try.prog 8 #[.agg #[.int .i64 p.f, .int .i64 p.k, .int .u32 p.p0, .int .u32 p.p1, .int .u32 p.p2, .int .u32 p.p3, .int .i64 p.u, .int .u32 p.l0, .int .u32 p.l1, .int .u32 p.l2], .agg #[.int .i64 q.f, .int .i64 q.k, .int .u32 q.p0, .int .u32 q.p1, .int .u32 q.p2, .int .u32 q.p3, .int .i64 q.u, .int .u32 q.l0, .int .u32 q.l1, .int .u32 q.l2], .agg #[.int .u32 t.e, .int .i64 t.d, .int .u32 t.a, .int .u32 t.b, .int .u32 t.c]] w fun e w' => e = .returned (.bool true) ∧ Below w.heap.size w w' := by
  have h0 := Tri.fresh w 30 30 49 #[.int .i64 p.f, .int .i64 p.k, .int .u32 p.p0, .int .u32 p.p1, .int .u32 p.p2, .int .u32 p.p3, .int .i64 p.u, .int .u32 p.l0, .int .u32 p.l1, .int .u32 p.l2] #[.int .i64 q.f, .int .i64 q.k, .int .u32 q.p0, .int .u32 q.p1, .int .u32 q.p2, .int .u32 q.p3, .int .i64 q.u, .int .u32 q.l0, .int .u32 q.l1, .int .u32 q.l2] #[.int .u32 t.e, .int .i64 t.d, .int .u32 t.a, .int .u32 t.b, .int .u32 t.c]
  have L := Lib.hid (lep_any p q i j)
  have A := Lib.hid (apply_any p t i k)
  have B := Lib.hid (apply_any q t j k)
  have C := Lib.hid (le_any _ _ (in_apply i k) (in_apply j k))
  have F := Lib.hid (fun h => before (p := p) (q := q) k h)
  generalize lePB p q = v at L F
  generalize applyV p t = U at A C F
  generalize applyE p t = D at A F
  generalize applyV q t = V at B C F
  generalize applyE q t = E at B F
  clear i j k
  go_enter Try.func8, Try.ntmps8
  go_wp2_with fail
  refine (works_any _).mono ?_
  rintro e w1 ⟨rfl, b1⟩
  have h1 := h0.below b1
  clear b1 h0
  generalize w.heap.size = g at h1 ⊢
  go_wp2_with fail
  obtain ⟨c1, c2, c3⟩ := h1.since
  refine region_since w1 (by kernel_rfl) (by kernel_rfl) (Below.refl _ _) ?_
  repeat (go_big_quiet_step ((first | (go_at_call 23; with_reducible exact since_call (to_any p) _) | (go_at_call 23; with_reducible exact since_call (to_any q) _) | (go_at_call 29; with_reducible exact since_call L.out _))))
  refine wpQuiet_nil ?_
  rintro w2 ⟨x, hw⟩
  have h2 := h1.below (hw ▸ x.2)
  clear hw x c1 c2 c3 h1 w1
  cases v
  · go_wp2_with fail
    go_ret
    exact ⟨rfl, h2.old⟩
  · go_upto_region 5 with fail
    refine region_one2 7 8 42 49 #[.int .u32 0, .int .i64 0, .int .u32 0, .int .u32 0, .int .u32 0] #[.int .u32 V.e, .int .i64 V.d, .int .u32 V.a, .int .u32 V.b, .int .u32 V.c]
      [.agg #[.int .i64 q.f, .int .i64 q.k, .int .u32 q.p0, .int .u32 q.p1, .int .u32 q.p2, .int .u32 q.p3, .int .i64 q.u, .int .u32 q.l0, .int .u32 q.l1, .int .u32 q.l2], .agg #[.int .i64 q.f, .int .i64 q.k, .int .u32 q.p0, .int .u32 q.p1, .int .u32 q.p2, .int .u32 q.p3, .int .i64 q.u, .int .u32 q.l0, .int .u32 q.l1, .int .u32 q.l2], .agg #[.int .u32 t.e, .int .i64 t.d, .int .u32 t.a, .int .u32 t.b, .int .u32 t.c], .tuple #[.agg #[.int .u32 V.e, .int .i64 V.d, .int .u32 V.a, .int .u32 V.b, .int .u32 V.c], .int .i64 E], .tuple #[.agg #[.int .u32 V.e, .int .i64 V.d, .int .u32 V.a, .int .u32 V.b, .int .u32 V.c], .int .i64 E], .agg #[.int .u32 V.e, .int .i64 V.d, .int .u32 V.a, .int .u32 V.b, .int .u32 V.c], .int .i64 E, undef, undef, .int .i64 E] (by kernel_rfl) rfl (by kernel_rfl) rfl rfl rfl rfl rfl rfl (by kernel_rfl) (by kernel_rfl) rfl (by simp [Value.oneCell']) (by kernel_rfl) ?_ ?_
    · intro w ρ
      simp [execOp, go_sem]
    intro fin hfin
    simp [lexPut, val, kind1, Act.put] at hfin
    refine ⟨fun n => by rw [hfin]; rfl, ⟨fun _ n => tells_load rfl (by rw [hfin]; rfl) h2.drew.two Try.underlying30 rfl (by kernel_rfl),
        fun _ n => tells_call rfl (by rw [hfin]; simp [Act.eval]) rfl Try.func23 (by kernel_rfl) (by kernel_rfl) (to_any q),
        fun _ n => tells_load rfl (by rw [hfin]; rfl) h2.drew.tre Try.underlying49 rfl (by kernel_rfl),
        fun _ n => tells_call rfl (by rw [hfin]; simp [Act.eval]) rfl Try.func33 (by kernel_rfl) (by kernel_rfl) B.out,
        fun _ n => tells_move rfl (by rw [hfin]; rfl),
        fun _ n => tells_extract rfl (by rw [hfin]; rfl) rfl,
        fun _ n => tells_extract rfl (by rw [hfin]; rfl) rfl,
        (fun h => by simp [kind1] at h),
        (fun h => by simp [kind1] at h),
        fun _ n => tells_assign rfl (by rw [hfin]; rfl), trivial⟩, ?_⟩
    intro n w5 m hm hb5 O5 hlt
    rw [hfin, hm]
    clear hfin hm n fin
    have h5 := h2.below hb5
    have hm : g + 1 + 1 < m := Nat.lt_of_lt_of_le h2.tre.inside hlt
    clear hlt hb5 h2
    by_cases e0 : E = 0
    · subst e0
      obtain ⟨hd, hl⟩ := F.out rfl rfl
      subst hd
      generalize leB U V = s at C hl
      subst hl
      go_upto_region 8 with fail
      refine region_one2 7 8 42 49 #[.int .u32 0, .int .i64 0, .int .u32 0, .int .u32 0, .int .u32 0] #[.int .u32 U.e, .int .i64 U.d, .int .u32 U.a, .int .u32 U.b, .int .u32 U.c]
        [.agg #[.int .i64 p.f, .int .i64 p.k, .int .u32 p.p0, .int .u32 p.p1, .int .u32 p.p2, .int .u32 p.p3, .int .i64 p.u, .int .u32 p.l0, .int .u32 p.l1, .int .u32 p.l2], .agg #[.int .i64 p.f, .int .i64 p.k, .int .u32 p.p0, .int .u32 p.p1, .int .u32 p.p2, .int .u32 p.p3, .int .i64 p.u, .int .u32 p.l0, .int .u32 p.l1, .int .u32 p.l2], .agg #[.int .u32 t.e, .int .i64 t.d, .int .u32 t.a, .int .u32 t.b, .int .u32 t.c], .tuple #[.agg #[.int .u32 U.e, .int .i64 U.d, .int .u32 U.a, .int .u32 U.b, .int .u32 U.c], .int .i64 0], .tuple #[.agg #[.int .u32 U.e, .int .i64 U.d, .int .u32 U.a, .int .u32 U.b, .int .u32 U.c], .int .i64 0], .agg #[.int .u32 U.e, .int .i64 U.d, .int .u32 U.a, .int .u32 U.b, .int .u32 U.c], .int .i64 0, undef, undef, .int .i64 0] (by kernel_rfl) rfl (by kernel_rfl) rfl rfl rfl rfl rfl rfl (by kernel_rfl) (by kernel_rfl) rfl (by simp [Value.oneCell']) (by kernel_rfl) ?_ ?_
      · intro w ρ
        simp [execOp, go_sem]
      intro fin hfin
      simp [lexPut, val, kind1, Act.put] at hfin
      refine ⟨fun n => by rw [hfin]; rfl, ⟨fun _ n => tells_load rfl (by rw [hfin]; rfl) h5.drew.one Try.underlying30 rfl (by kernel_rfl),
          fun _ n => tells_call rfl (by rw [hfin]; simp [Act.eval]) rfl Try.func23 (by kernel_rfl) (by kernel_rfl) (to_any p),
          fun _ n => tells_load rfl (by rw [hfin]; rfl) h5.drew.tre Try.underlying49 rfl (by kernel_rfl),
          fun _ n => tells_call rfl (by rw [hfin]; simp [Act.eval]) rfl Try.func33 (by kernel_rfl) (by kernel_rfl) A.out,
          fun _ n => tells_move rfl (by rw [hfin]; rfl),
          fun _ n => tells_extract rfl (by rw [hfin]; rfl) rfl,
          fun _ n => tells_extract rfl (by rw [hfin]; rfl) rfl,
          (fun h => by simp [kind1] at h),
          (fun h => by simp [kind1] at h),
          fun _ n => tells_assign rfl (by rw [hfin]; rfl), trivial⟩, ?_⟩
      intro n w6 m2 hm hb6 X6 hlt
      rw [hfin, hm]
      clear hfin hm n fin
      have h6 := h5.below hb6
      have O6 := O5.below hb6 O5.inside
      obtain ⟨oc, od⟩ := all_of O6
      obtain ⟨xc, xd⟩ := all_of X6
      go_wp2_with fail
      refine (C.out _).mono ?_
      rintro e w7 ⟨rfl, b7⟩
      have h7 := h6.below b7
      clear oc od xc xd
      go_wp2_with fail
      go_ret
      exact ⟨rfl, h7.old⟩
    · have e1 : (E != 0) = true := by simpa using e0
      clear e0
      go_wp2_with fail
      go_ret
      exact ⟨rfl, h5.old⟩
theorem told (W : World) (args : Array Value) (h : Fed Try.prog W [30, 30, 49] args) : Calls Try.prog 8 args W fun e W' => e = .returned (.bool true) ∧ Below W.heap.size W W' := by
  obtain ⟨v0, v1, v2, rfl⟩ := args3 h.count
  obtain ⟨⟨_, o0⟩, r0⟩ := h.each 0 30 v0 rfl rfl
  obtain ⟨⟨_, o1⟩, r1⟩ := h.each 1 30 v1 rfl rfl
  obtain ⟨⟨_, o2⟩, r2⟩ := h.each 2 49 v2 rfl rfl
  obtain ⟨a0, q0⟩ := r0 opens_path
  obtain ⟨t0, i0, rfl⟩ := top_path o0 q0
  obtain ⟨a1, q1⟩ := r1 opens_path
  obtain ⟨t1, i1, rfl⟩ := top_path o1 q1
  obtain ⟨a2, q2⟩ := r2 opens_time
  obtain ⟨t2, i2, rfl⟩ := top_time o2 q2
  exact walk t0 t1 t2 i0 i1 i2 W

/-! ### The row -/
theorem own : ownKnob Try.prog.godebug = none := by kernel_rfl
theorem laidOut : laidOutB Try.prog = true := by kernel_rfl
set_option maxRecDepth 100000 in
theorem lifted (os : Os) (started : os.Started) (H : Type) (enc : TypeId × Value → H) :
    ReturnsInHanded {} Try.checked os 8 .any (Rows.pathBeforeSpec.pre6 enc Try.prog Try.f8 Rows.pathBeforeRow.domain false) (Rows.pathBeforeSpec.post enc Try.prog Try.f8 false true false false) :=
  lift (C := Try.checked) (fn := Try.f8) (tb := 4) (ts := [30, 30, 49]) own started (by kernel_rfl) Try.func8 laidOut (by kernel_rfl) (by kernel_rfl) (by kernel_rfl) Try.underlying4 rfl
    (fun ds h => by
      match ds, h with
      | [_, _, _], _ => rfl)
    (ChangeSpec.witness6 (enc := enc) (C := Try.checked) false ⟨#[], #[.agg #[.int .i64 0, .int .i64 0, .int .u32 0, .int .u32 0, .int .u32 0, .int .u32 0, .int .i64 0, .int .u32 0, .int .u32 0, .int .u32 0], .agg #[.int .i64 0, .int .i64 0, .int .u32 0, .int .u32 0, .int .u32 0, .int .u32 0, .int .i64 0, .int .u32 0, .int .u32 0, .int .u32 0], .agg #[.int .u32 0, .int .i64 0, .int .u32 0, .int .u32 0, .int .u32 0]], []⟩ 8 (by kernel_rfl) (by kernel_rfl) (by kernel_rfl) (by kernel_rfl)) told

theorem over : Rows.pathBeforeRow.holds Try.pinned (OpenSpec.ofChange Rows.pathBeforeSpec) :=
  OpenClaim.holds_of_wide 8 Try.f8 rfl rfl rfl rfl rfl rfl rfl ⟨rfl, rfl, rfl, rfl, rfl⟩ rfl rfl rfl rfl rfl (by kernel_rfl) Try.func8 (by kernel_rfl)
    (of_decide_eq_true (by kernel_rfl)) (by unfold Func.isWrapper; first | (rw [if_pos (by decide +kernel)]; kernel_rfl) | (rw [if_neg (by decide +kernel)]; exact ⟨rfl, rfl⟩))
    (fun os started H enc _ => lifted os started H enc)

theorem proved : Rows.PathBeforeSaid := over
#print axioms proved
end Go.Proofs.Ytggdcnoonmepcaa.pathBefore
