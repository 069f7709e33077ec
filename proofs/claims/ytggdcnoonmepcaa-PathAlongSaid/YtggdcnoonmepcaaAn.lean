/-
  Along a path times keep how they stand; along one that rises each goes strictly behind; no condition.
-/
import Derived.Test.YtggdcnoonmepcaaBf
namespace Go.Proofs.Ytggdcnoonmepcaa.pathAlong
open Go.ChangeShapes Go.WideShapes Go.ChangeAt Go.RowKit
open Go.Proofs.Ytggdcnoonmepcaa.tm Go.Proofs.Ytggdcnoonmepcaa.opened Go.Proofs.Ytggdcnoonmepcaa.block Go.Proofs.Ytggdcnoonmepcaa.stamp Go.Proofs.Ytggdcnoonmepcaa.pa Go.Proofs.Ytggdcnoonmepcaa.path Go.Proofs.Ytggdcnoonmepcaa.region

set_option maxRecDepth 100000 in
set_option maxHeartbeats 4000000 in
theorem walk (p : Pa) (t u : Tm) (i : p.In) (j : t.In) (k : u.In) (w : World) : Calls Try.prog 10 #[.agg #[.int .i64 p.f, .int .i64 p.k, .int .u32 p.p0, .int .u32 p.p1, .int .u32 p.p2, .int .u32 p.p3, .int .i64 p.u, .int .u32 p.l0, .int .u32 p.l1, .int .u32 p.l2], .agg #[.int .u32 t.e, .int .i64 t.d, .int .u32 t.a, .int .u32 t.b, .int .u32 t.c], .agg #[.int .u32 u.e, .int .i64 u.d, .int .u32 u.a, .int .u32 u.b, .int .u32 u.c]] w fun e w' => e = .returned (.bool true) ∧ Below w.heap.size w w' := by
  have h0 := Tri.fresh w 30 49 49 #[.int .i64 p.f, .int .i64 p.k, .int .u32 p.p0, .int .u32 p.p1, .int .u32 p.p2, .int .u32 p.p3, .int .i64 p.u, .int .u32 p.l0, .int .u32 p.l1, .int .u32 p.l2] #[.int .u32 t.e, .int .i64 t.d, .int .u32 t.a, .int .u32 t.b, .int .u32 t.c] #[.int .u32 u.e, .int .i64 u.d, .int .u32 u.a, .int .u32 u.b, .int .u32 u.c]
  have A := Lib.hid (apply_any p t i j)
  have B := Lib.hid (apply_any p u i k)
  have C1 := Lib.hid (le_any _ _ j k)
  have C2 := Lib.hid (le_any _ _ (in_apply i j) (in_apply i k))
  have C3 := Lib.hid (le_any _ _ j (in_apply i j))
  have C4 := Lib.hid (le_any _ _ (in_apply i j) j)
  have R := Lib.hid (rises_any p i)
  have F := Lib.hid (fun h => along (p := p) (t := t) (u := u) h)
  have G := Lib.hid (fun h => rises (p := p) (t := t) i h)
  generalize risesB p = r at R G
  generalize leB t u = s at C1 F
  generalize applyV p t = X at A C2 C3 C4 F G
  generalize applyE p t = D at A F G
  generalize applyV p u = Y at B C2 F
  generalize applyE p u = E at B F
  clear i j k
  go_enter Try.func10, Try.ntmps10
  go_wp2_with fail
  refine (works_any _).mono ?_
  rintro e w1 ⟨rfl, b1⟩
  have h1 := h0.below b1
  clear b1 h0
  generalize w.heap.size = g at h1 ⊢
  go_upto_region 3 with fail
  refine region_one2 7 8 57 49 #[.int .u32 0, .int .i64 0, .int .u32 0, .int .u32 0, .int .u32 0] #[.int .u32 X.e, .int .i64 X.d, .int .u32 X.a, .int .u32 X.b, .int .u32 X.c]
    [.agg #[.int .i64 p.f, .int .i64 p.k, .int .u32 p.p0, .int .u32 p.p1, .int .u32 p.p2, .int .u32 p.p3, .int .i64 p.u, .int .u32 p.l0, .int .u32 p.l1, .int .u32 p.l2], .agg #[.int .i64 p.f, .int .i64 p.k, .int .u32 p.p0, .int .u32 p.p1, .int .u32 p.p2, .int .u32 p.p3, .int .i64 p.u, .int .u32 p.l0, .int .u32 p.l1, .int .u32 p.l2], .agg #[.int .u32 t.e, .int .i64 t.d, .int .u32 t.a, .int .u32 t.b, .int .u32 t.c], .tuple #[.agg #[.int .u32 X.e, .int .i64 X.d, .int .u32 X.a, .int .u32 X.b, .int .u32 X.c], .int .i64 D], .tuple #[.agg #[.int .u32 X.e, .int .i64 X.d, .int .u32 X.a, .int .u32 X.b, .int .u32 X.c], .int .i64 D], .agg #[.int .u32 X.e, .int .i64 X.d, .int .u32 X.a, .int .u32 X.b, .int .u32 X.c], .int .i64 D, undef, undef, .int .i64 D] (by kernel_rfl) rfl (by kernel_rfl) rfl rfl rfl rfl rfl rfl (by kernel_rfl) (by kernel_rfl) rfl (by simp [Value.oneCell']) (by kernel_rfl) ?_ ?_
  · intro w ρ
    simp [execOp, go_sem]
  intro fin hfin
  simp [lexPut, val, kind1, Act.put] at hfin
  refine ⟨fun n => by rw [hfin]; rfl, ⟨fun _ n => tells_load rfl (by rw [hfin]; rfl) h1.drew.one Try.underlying30 rfl (by kernel_rfl),
      fun _ n => tells_call rfl (by rw [hfin]; simp [Act.eval]) rfl Try.func23 (by kernel_rfl) (by kernel_rfl) (to_any p),
      fun _ n => tells_load rfl (by rw [hfin]; rfl) h1.drew.two Try.underlying49 rfl (by kernel_rfl),
      fun _ n => tells_call rfl (by rw [hfin]; simp [Act.eval]) rfl Try.func33 (by kernel_rfl) (by kernel_rfl) A.out,
      fun _ n => tells_move rfl (by rw [hfin]; rfl),
      fun _ n => tells_extract rfl (by rw [hfin]; rfl) rfl,
      fun _ n => tells_extract rfl (by rw [hfin]; rfl) rfl,
      (fun h => by simp [kind1] at h),
      (fun h => by simp [kind1] at h),
      fun _ n => tells_assign rfl (by rw [hfin]; rfl), trivial⟩, ?_⟩
  intro n w2 m hm hb2 OX hlt
  rw [hfin, hm]
  clear hfin hm n fin
  have h2 := h1.below hb2
  have hm : g + 1 + 1 < m := Nat.lt_of_lt_of_le h1.tre.inside hlt
  clear hlt hb2 h1
  go_upto_region 4 with fail
  refine region_one2 7 8 57 49 #[.int .u32 0, .int .i64 0, .int .u32 0, .int .u32 0, .int .u32 0] #[.int .u32 Y.e, .int .i64 Y.d, .int .u32 Y.a, .int .u32 Y.b, .int .u32 Y.c]
    [.agg #[.int .i64 p.f, .int .i64 p.k, .int .u32 p.p0, .int .u32 p.p1, .int .u32 p.p2, .int .u32 p.p3, .int .i64 p.u, .int .u32 p.l0, .int .u32 p.l1, .int .u32 p.l2], .agg #[.int .i64 p.f, .int .i64 p.k, .int .u32 p.p0, .int .u32 p.p1, .int .u32 p.p2, .int .u32 p.p3, .int .i64 p.u, .int .u32 p.l0, .int .u32 p.l1, .int .u32 p.l2], .agg #[.int .u32 u.e, .int .i64 u.d, .int .u32 u.a, .int .u32 u.b, .int .u32 u.c], .tuple #[.agg #[.int .u32 Y.e, .int .i64 Y.d, .int .u32 Y.a, .int .u32 Y.b, .int .u32 Y.c], .int .i64 E], .tuple #[.agg #[.int .u32 Y.e, .int .i64 Y.d, .int .u32 Y.a, .int .u32 Y.b, .int .u32 Y.c], .int .i64 E], .agg #[.int .u32 Y.e, .int .i64 Y.d, .int .u32 Y.a, .int .u32 Y.b, .int .u32 Y.c], .int .i64 E, undef, undef, .int .i64 E] (by kernel_rfl) rfl (by kernel_rfl) rfl rfl rfl rfl rfl rfl (by kernel_rfl) (by kernel_rfl) rfl (by simp [Value.oneCell']) (by kernel_rfl) ?_ ?_
  · intro w ρ
    simp [execOp, go_sem]
  intro fin hfin
  simp [lexPut, val, kind1, Act.put] at hfin
  refine ⟨fun n => by rw [hfin]; rfl, ⟨fun _ n => tells_load rfl (by rw [hfin]; rfl) h2.drew.one Try.underlying30 rfl (by kernel_rfl),
      fun _ n => tells_call rfl (by rw [hfin]; simp [Act.eval]) rfl Try.func23 (by kernel_rfl) (by kernel_rfl) (to_any p),
      fun _ n => tells_load rfl (by rw [hfin]; rfl) h2.drew.tre Try.underlying49 rfl (by kernel_rfl),
      fun _ n => tells_call rfl (by rw [hfin]; simp [Act.eval]) rfl Try.func33 (by kernel_rfl) (by kernel_rfl) B.out,
      fun _ n => tells_move rfl (by rw [hfin]; rfl),
      fun _ n => tells_extract rfl (by rw [hfin]; rfl) rfl,
      fun _ n => tells_extract rfl (by rw [hfin]; rfl) rfl,
      (fun h => by simp [kind1] at h),
      (fun h => by simp [kind1] at h),
      fun _ n => tells_assign rfl (by rw [hfin]; rfl), trivial⟩, ?_⟩
  intro n w3 m2 hm hb3 OY hlt
  rw [hfin, hm]
  clear hfin hm n fin
  have h3 := h2.below hb3
  have OX := OX.below hb3 OX.inside
  clear hb3 h2 hlt
  by_cases e0 : D = 0
  · by_cases e1 : E = 0
    · subst e0 e1
      obtain ⟨tc, td⟩ := all_of h3.two
      obtain ⟨uc, ud⟩ := all_of h3.tre
      go_wp2_with fail
      cases s
      · refine (C1.out _).mono ?_
        rintro e v11 ⟨rfl, b11⟩
        have h11 := h3.below b11
        have OX := OX.below b11 OX.inside
        have OY := OY.below b11 OY.inside
        clear tc td uc ud
        clear b11
        obtain ⟨pc, pd⟩ := all_of h11.one
        go_wp2_with fail
        refine (to_any p _).mono ?_
        rintro e v12 ⟨rfl, b12⟩
        have h12 := h11.below b12
        have OX := OX.below b12 OX.inside
        have OY := OY.below b12 OY.inside
        clear pc pd
        clear b12
        go_wp2_with fail
        cases r
        · refine (R.out _).mono ?_
          rintro e v13 ⟨rfl, b13⟩
          have h13 := h12.below b13
          have OX := OX.below b13 OX.inside
          have OY := OY.below b13 OY.inside
          clear b13
          go_wp2_with fail
          go_ret
          exact ⟨rfl, h13.old⟩
        · obtain ⟨hs, hz⟩ := G.out (by trivial) (by trivial)
          generalize leB t X = a at C3 hs
          generalize leB X t = b at C4 hz
          subst hs hz
          refine (R.out _).mono ?_
          rintro e v14 ⟨rfl, b14⟩
          have h14 := h12.below b14
          have OX := OX.below b14 OX.inside
          have OY := OY.below b14 OY.inside
          clear b14
          obtain ⟨tc, td⟩ := all_of h14.two
          obtain ⟨xc, xd⟩ := all_of OX
          go_wp2_with fail
          refine (C3.out _).mono ?_
          rintro e v15 ⟨rfl, b15⟩
          have h15 := h14.below b15
          have OX := OX.below b15 OX.inside
          have OY := OY.below b15 OY.inside
          clear tc td xc xd
          clear b15
          obtain ⟨tc, td⟩ := all_of h15.two
          obtain ⟨xc, xd⟩ := all_of OX
          go_wp2_with fail
          refine (C4.out _).mono ?_
          rintro e v16 ⟨rfl, b16⟩
          have h16 := h15.below b16
          have OX := OX.below b16 OX.inside
          have OY := OY.below b16 OY.inside
          clear tc td xc xd
          clear b16
          go_wp2_with fail
          go_ret
          exact ⟨rfl, h16.old⟩
      · have hs := F.out (by trivial) (by trivial) (by trivial)
        generalize leB X Y = a at C2 hs
        subst hs
        refine (C1.out _).mono ?_
        rintro e v17 ⟨rfl, b17⟩
        have h17 := h3.below b17
        have OX := OX.below b17 OX.inside
        have OY := OY.below b17 OY.inside
        clear tc td uc ud
        clear b17
        obtain ⟨xc, xd⟩ := all_of OX
        obtain ⟨yc, yd⟩ := all_of OY
        go_wp2_with fail
        refine (C2.out _).mono ?_
        rintro e v18 ⟨rfl, b18⟩
        have h18 := h17.below b18
        have OX := OX.below b18 OX.inside
        have OY := OY.below b18 OY.inside
        clear xc xd yc yd
        clear b18
        obtain ⟨pc, pd⟩ := all_of h18.one
        go_wp2_with fail
        refine (to_any p _).mono ?_
        rintro e v19 ⟨rfl, b19⟩
        have h19 := h18.below b19
        have OX := OX.below b19 OX.inside
        have OY := OY.below b19 OY.inside
        clear pc pd
        clear b19
        go_wp2_with fail
        cases r
        · refine (R.out _).mono ?_
          rintro e v20 ⟨rfl, b20⟩
          have h20 := h19.below b20
          have OX := OX.below b20 OX.inside
          have OY := OY.below b20 OY.inside
          clear b20
          go_wp2_with fail
          go_ret
          exact ⟨rfl, h20.old⟩
        · obtain ⟨hs, hz⟩ := G.out (by trivial) (by trivial)
          generalize leB t X = a at C3 hs
          generalize leB X t = b at C4 hz
          subst hs hz
          refine (R.out _).mono ?_
          rintro e v21 ⟨rfl, b21⟩
          have h21 := h19.below b21
          have OX := OX.below b21 OX.inside
          have OY := OY.below b21 OY.inside
          clear b21
          obtain ⟨tc, td⟩ := all_of h21.two
          obtain ⟨xc, xd⟩ := all_of OX
          go_wp2_with fail
          refine (C3.out _).mono ?_
          rintro e v22 ⟨rfl, b22⟩
          have h22 := h21.below b22
          have OX := OX.below b22 OX.inside
          have OY := OY.below b22 OY.inside
          clear tc td xc xd
          clear b22
          obtain ⟨tc, td⟩ := all_of h22.two
          obtain ⟨xc, xd⟩ := all_of OX
          go_wp2_with fail
          refine (C4.out _).mono ?_
          rintro e v23 ⟨rfl, b23⟩
          have h23 := h22.below b23
          have OX := OX.below b23 OX.inside
          have OY := OY.below b23 OY.inside
          clear tc td xc xd
          clear b23
          go_wp2_with fail
          go_ret
          exact ⟨rfl, h23.old⟩
    · have e2 : (E != 0) = true := by simpa using e1
      subst e0
      clear e1
      go_wp2_with fail
      go_ret
      exact ⟨rfl, h3.old⟩
  · have e2 : (D != 0) = true := by simpa using e0
    clear e0
    go_wp2_with fail
    go_ret
    exact ⟨rfl, h3.old⟩
theorem told (W : World) (args : Array Value) (h : Fed Try.prog W [30, 49, 49] args) : Calls Try.prog 10 args W fun e W' => e = .returned (.bool true) ∧ Below W.heap.size W W' := by
  obtain ⟨v0, v1, v2, rfl⟩ := args3 h.count
  obtain ⟨⟨_, o0⟩, r0⟩ := h.each 0 30 v0 rfl rfl
  obtain ⟨⟨_, o1⟩, r1⟩ := h.each 1 49 v1 rfl rfl
  obtain ⟨⟨_, o2⟩, r2⟩ := h.each 2 49 v2 rfl rfl
  obtain ⟨a0, q0⟩ := r0 opens_path
  obtain ⟨t0, i0, rfl⟩ := top_path o0 q0
  obtain ⟨a1, q1⟩ := r1 opens_time
  obtain ⟨t1, i1, rfl⟩ := top_time o1 q1
  obtain ⟨a2, q2⟩ := r2 opens_time
  obtain ⟨t2, i2, rfl⟩ := top_time o2 q2
  exact walk t0 t1 t2 i0 i1 i2 W

/-! ### The row -/
theorem own : ownKnob Try.prog.godebug = none := by kernel_rfl
theorem laidOut : laidOutB Try.prog = true := by kernel_rfl
set_option maxRecDepth 100000 in
theorem lifted (os : Os) (started : os.Started) (H : Type) (enc : TypeId × Value → H) :
    ReturnsInHanded {} Try.checked os 10 .any (Rows.pathAlongSpec.pre6 enc Try.prog Try.f10 Rows.pathAlongRow.domain false) (Rows.pathAlongSpec.post enc Try.prog Try.f10 false true false false) :=
  lift (C := Try.checked) (fn := Try.f10) (tb := 4) (ts := [30, 49, 49]) own started (by kernel_rfl) Try.func10 laidOut (by kernel_rfl) (by kernel_rfl) (by kernel_rfl) Try.underlying4 rfl
    (fun ds h => by
      match ds, h with
      | [_, _, _], _ => rfl)
    (ChangeSpec.witness6 (enc := enc) (C := Try.checked) false ⟨#[], #[.agg #[.int .i64 0, .int .i64 0, .int .u32 0, .int .u32 0, .int .u32 0, .int .u32 0, .int .i64 0, .int .u32 0, .int .u32 0, .int .u32 0], .agg #[.int .u32 0, .int .i64 0, .int .u32 0, .int .u32 0, .int .u32 0], .agg #[.int .u32 0, .int .i64 0, .int .u32 0, .int .u32 0, .int .u32 0]], []⟩ 8 (by kernel_rfl) (by kernel_rfl) (by kernel_rfl) (by kernel_rfl)) told

theorem over : Rows.pathAlongRow.holds Try.pinned (OpenSpec.ofChange Rows.pathAlongSpec) :=
  OpenClaim.holds_of_wide 10 Try.f10 rfl rfl rfl rfl rfl rfl rfl ⟨rfl, rfl, rfl, rfl, rfl⟩ rfl rfl rfl rfl rfl (by kernel_rfl) Try.func10 (by kernel_rfl)
    (of_decide_eq_true (by kernel_rfl)) (by unfold Func.isWrapper; first | (rw [if_pos (by decide +kernel)]; kernel_rfl) | (rw [if_neg (by decide +kernel)]; exact ⟨rfl, rfl⟩))
    (fun os started H enc _ => lifted os started H enc)

theorem proved : Rows.PathAlongSaid := over
#print axioms proved
end Go.Proofs.Ytggdcnoonmepcaa.pathAlong
