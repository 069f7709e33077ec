/-
  What becomes of any time by any path, and any path behind any other one: the program's answers are the document's; no condition.
-/
import Derived.Test.YtilkdpobkcocoaaThR
import Derived.Test.YtilkdpobkcocoaaNe
namespace Go.Proofs.Ytilkdpobkcocoaa.pathGoes
open Go.ChangeShapes Go.WideShapes Go.ChangeAt Go.RowKit
open Go.Proofs.Ytilkdpobkcocoaa.tm Go.Proofs.Ytilkdpobkcocoaa.opened Go.Proofs.Ytilkdpobkcocoaa.block Go.Proofs.Ytilkdpobkcocoaa.stamp Go.Proofs.Ytilkdpobkcocoaa.pa Go.Proofs.Ytilkdpobkcocoaa.path Go.Proofs.Ytilkdpobkcocoaa.region

set_option maxRecDepth 100000 in
set_option maxHeartbeats 8000000 in
theorem walk (p q : Pa) (t : Tm) (i : p.In) (j : q.In) (k : t.In) (w : World) : Calls Try.prog 3 #[.agg #[.int .i64 p.f, .int .i64 p.k, .int .u32 p.p0, .int .u32 p.p1, .int .u32 p.p2, .int .u32 p.p3, .int .i64 p.u, .int .u32 p.l0, .int .u32 p.l1, .int .u32 p.l2], .agg #[.int .i64 q.f, .int .i64 q.k, .int .u32 q.p0, .int .u32 q.p1, .int .u32 q.p2, .int .u32 q.p3, .int .i64 q.u, .int .u32 q.l0, .int .u32 q.l1, .int .u32 q.l2], .agg #[.int .u32 t.e, .int .i64 t.d, .int .u32 t.a, .int .u32 t.b, .int .u32 t.c]] w fun e w' => e = .returned (.bool true) ∧ Below w.heap.size w w' := by
  have h0 := Tri.fresh w 26 26 28 #[.int .i64 p.f, .int .i64 p.k, .int .u32 p.p0, .int .u32 p.p1, .int .u32 p.p2, .int .u32 p.p3, .int .i64 p.u, .int .u32 p.l0, .int .u32 p.l1, .int .u32 p.l2] #[.int .i64 q.f, .int .i64 q.k, .int .u32 q.p0, .int .u32 q.p1, .int .u32 q.p2, .int .u32 q.p3, .int .i64 q.u, .int .u32 q.l0, .int .u32 q.l1, .int .u32 q.l2] #[.int .u32 t.e, .int .i64 t.d, .int .u32 t.a, .int .u32 t.b, .int .u32 t.c]
  have A := Lib.hid (apply_any p t i k)
  have AR := Lib.hid (applyR_any p t i k)
  have T := Lib.hid (then_any p q i j)
  have TR := Lib.hid (thenR_any p q i j)
  generalize applyV p t = X at A AR
  generalize applyE p t = ex at A AR
  generalize thenV p q = V at T TR
  generalize thenE p q = ev at T TR
  clear i j k
  go_enter Try.func3, Try.ntmps3
  go_upto_region 1 with fail
  change Code.wp _ _ _ _ (((w.alloc (.cells #[.int .i64 p.f, .int .i64 p.k, .int .u32 p.p0, .int .u32 p.p1, .int .u32 p.p2, .int .u32 p.p3, .int .i64 p.u, .int .u32 p.l0, .int .u32 p.l1, .int .u32 p.l2] 26)).alloc (.cells #[.int .i64 q.f, .int .i64 q.k, .int .u32 q.p0, .int .u32 q.p1, .int .u32 q.p2, .int .u32 q.p3, .int .i64 q.u, .int .u32 q.l0, .int .u32 q.l1, .int .u32 q.l2] 26)).alloc (.cells #[.int .u32 t.e, .int .i64 t.d, .int .u32 t.a, .int .u32 t.b, .int .u32 t.c] 28))
  generalize ((w.alloc (.cells #[.int .i64 p.f, .int .i64 p.k, .int .u32 p.p0, .int .u32 p.p1, .int .u32 p.p2, .int .u32 p.p3, .int .i64 p.u, .int .u32 p.l0, .int .u32 p.l1, .int .u32 p.l2] 26)).alloc (.cells #[.int .i64 q.f, .int .i64 q.k, .int .u32 q.p0, .int .u32 q.p1, .int .u32 q.p2, .int .u32 q.p3, .int .i64 q.u, .int .u32 q.l0, .int .u32 q.l1, .int .u32 q.l2] 26)).alloc (.cells #[.int .u32 t.e, .int .i64 t.d, .int .u32 t.a, .int .u32 t.b, .int .u32 t.c] 28) = w1 at h0 ⊢
  generalize w.heap.size = g at h0 ⊢
  have h1 := h0
  clear h0
  refine region_one2 7 8 61 28 #[.int .u32 0, .int .i64 0, .int .u32 0, .int .u32 0, .int .u32 0] #[.int .u32 X.e, .int .i64 X.d, .int .u32 X.a, .int .u32 X.b, .int .u32 X.c]
    [.agg #[.int .i64 p.f, .int .i64 p.k, .int .u32 p.p0, .int .u32 p.p1, .int .u32 p.p2, .int .u32 p.p3, .int .i64 p.u, .int .u32 p.l0, .int .u32 p.l1, .int .u32 p.l2], .agg #[.int .i64 p.f, .int .i64 p.k, .int .u32 p.p0, .int .u32 p.p1, .int .u32 p.p2, .int .u32 p.p3, .int .i64 p.u, .int .u32 p.l0, .int .u32 p.l1, .int .u32 p.l2], .agg #[.int .u32 t.e, .int .i64 t.d, .int .u32 t.a, .int .u32 t.b, .int .u32 t.c], .tuple #[.agg #[.int .u32 X.e, .int .i64 X.d, .int .u32 X.a, .int .u32 X.b, .int .u32 X.c], .int .i64 ex], .tuple #[.agg #[.int .u32 X.e, .int .i64 X.d, .int .u32 X.a, .int .u32 X.b, .int .u32 X.c], .int .i64 ex], .agg #[.int .u32 X.e, .int .i64 X.d, .int .u32 X.a, .int .u32 X.b, .int .u32 X.c], .int .i64 ex, undef, undef, .int .i64 ex] (by kernel_rfl) rfl (by kernel_rfl) rfl rfl rfl rfl rfl rfl (by kernel_rfl) (by kernel_rfl) rfl (by simp [Value.oneCell']) (by kernel_rfl) ?_ ?_
  · intro w ρ
    simp [execOp, go_sem]
  intro fin hfin
  simp [lexPut, val, kind1, Act.put] at hfin
  refine ⟨fun n => by rw [hfin]; rfl, ⟨fun _ n => tells_load rfl (by rw [hfin]; rfl) h1.drew.one Try.underlying26 rfl (by kernel_rfl),
      fun _ n => tells_call rfl (by rw [hfin]; simp [Act.eval]) rfl Try.func9 (by kernel_rfl) (by kernel_rfl) (to_any p),
      fun _ n => tells_load rfl (by rw [hfin]; rfl) h1.drew.tre Try.underlying28 rfl (by kernel_rfl),
      fun _ n => tells_call rfl (by rw [hfin]; simp [Act.eval]) rfl Try.func8 (by kernel_rfl) (by kernel_rfl) A.out,
      fun _ n => tells_move rfl (by rw [hfin]; rfl),
      fun _ n => tells_extract rfl (by rw [hfin]; rfl) rfl,
      fun _ n => tells_extract rfl (by rw [hfin]; rfl) rfl,
      (fun h => by simp [kind1] at h),
      (fun h => by simp [kind1] at h),
      fun _ n => tells_assign rfl (by rw [hfin]; rfl), trivial⟩, ?_⟩
  intro n w2 m1 hm hb2 OX hlt
  rw [hfin, hm]
  clear hfin hm n fin
  have h2 := h1.below hb2
  have hm1 : g + 1 + 1 < m1 := Nat.lt_of_lt_of_le h1.tre.inside hlt
  clear hlt hb2 h1
  obtain ⟨pc, pd⟩ := all_of h2.one
  obtain ⟨tc, td⟩ := all_of h2.tre
  go_wp2_with fail
  refine (AR.out _).mono ?_
  rintro e w3 ⟨rfl, b3⟩
  have h3 := h2.below b3
  have OX := OX.below b3 OX.inside
  clear b3 h2 pc pd tc td
  go_upto_region 3 with fail
  have OY := Whole.fresh w3 28 #[.int .u32 X.e, .int .i64 X.d, .int .u32 X.a, .int .u32 X.b, .int .u32 X.c]
  have h3 := h3.alloc (.cells #[.int .u32 X.e, .int .i64 X.d, .int .u32 X.a, .int .u32 X.b, .int .u32 X.c] 28)
  have OX := OX.alloc (.cells #[.int .u32 X.e, .int .i64 X.d, .int .u32 X.a, .int .u32 X.b, .int .u32 X.c] 28)
  change Code.wp _ _ _ _ (w3.alloc (.cells #[.int .u32 X.e, .int .i64 X.d, .int .u32 X.a, .int .u32 X.b, .int .u32 X.c] 28))
  generalize w3.alloc (.cells #[.int .u32 X.e, .int .i64 X.d, .int .u32 X.a, .int .u32 X.b, .int .u32 X.c] 28) = W at h3 OX OY ⊢
  generalize w3.heap.size = m2 at OY ⊢
  refine region_one2 8 9 61 32 #[.int .i64 0, .int .i64 0, .int .u32 0, .int .u32 0, .int .u32 0, .int .u32 0, .int .i64 0, .int .u32 0, .int .u32 0, .int .u32 0] #[.int .i64 V.f, .int .i64 V.k, .int .u32 V.p0, .int .u32 V.p1, .int .u32 V.p2, .int .u32 V.p3, .int .i64 V.u, .int .u32 V.l0, .int .u32 V.l1, .int .u32 V.l2]
    [.agg #[.int .i64 p.f, .int .i64 p.k, .int .u32 p.p0, .int .u32 p.p1, .int .u32 p.p2, .int .u32 p.p3, .int .i64 p.u, .int .u32 p.l0, .int .u32 p.l1, .int .u32 p.l2], .agg #[.int .i64 p.f, .int .i64 p.k, .int .u32 p.p0, .int .u32 p.p1, .int .u32 p.p2, .int .u32 p.p3, .int .i64 p.u, .int .u32 p.l0, .int .u32 p.l1, .int .u32 p.l2], .agg #[.int .i64 q.f, .int .i64 q.k, .int .u32 q.p0, .int .u32 q.p1, .int .u32 q.p2, .int .u32 q.p3, .int .i64 q.u, .int .u32 q.l0, .int .u32 q.l1, .int .u32 q.l2], .agg #[.int .i64 q.f, .int .i64 q.k, .int .u32 q.p0, .int .u32 q.p1, .int .u32 q.p2, .int .u32 q.p3, .int .i64 q.u, .int .u32 q.l0, .int .u32 q.l1, .int .u32 q.l2], .tuple #[.agg #[.int .i64 V.f, .int .i64 V.k, .int .u32 V.p0, .int .u32 V.p1, .int .u32 V.p2, .int .u32 V.p3, .int .i64 V.u, .int .u32 V.l0, .int .u32 V.l1, .int .u32 V.l2], .int .i64 ev], .tuple #[.agg #[.int .i64 V.f, .int .i64 V.k, .int .u32 V.p0, .int .u32 V.p1, .int .u32 V.p2, .int .u32 V.p3, .int .i64 V.u, .int .u32 V.l0, .int .u32 V.l1, .int .u32 V.l2], .int .i64 ev], .agg #[.int .i64 V.f, .int .i64 V.k, .int .u32 V.p0, .int .u32 V.p1, .int .u32 V.p2, .int .u32 V.p3, .int .i64 V.u, .int .u32 V.l0, .int .u32 V.l1, .int .u32 V.l2], .int .i64 ev, undef, undef, .int .i64 ev] (by kernel_rfl) rfl (by kernel_rfl) rfl rfl rfl rfl rfl rfl (by kernel_rfl) (by kernel_rfl) rfl (by simp [Value.oneCell']) (by kernel_rfl) ?_ ?_
  · intro w ρ
    simp [execOp, go_sem]
  intro fin hfin
  simp [lexPut, val, kind1, Act.put] at hfin
  refine ⟨fun n => by rw [hfin]; rfl, ⟨fun _ n => tells_load rfl (by rw [hfin]; rfl) h3.drew.one Try.underlying26 rfl (by kernel_rfl),
      fun _ n => tells_call rfl (by rw [hfin]; simp [Act.eval]) rfl Try.func9 (by kernel_rfl) (by kernel_rfl) (to_any p),
      fun _ n => tells_load rfl (by rw [hfin]; rfl) h3.drew.two Try.underlying26 rfl (by kernel_rfl),
      fun _ n => tells_call rfl (by rw [hfin]; simp [Act.eval]) rfl Try.func9 (by kernel_rfl) (by kernel_rfl) (to_any q),
      fun _ n => tells_call rfl (by rw [hfin]; simp [Act.eval]) rfl Try.func11 (by kernel_rfl) (by kernel_rfl) T.out,
      fun _ n => tells_move rfl (by rw [hfin]; rfl),
      fun _ n => tells_extract rfl (by rw [hfin]; rfl) rfl,
      fun _ n => tells_extract rfl (by rw [hfin]; rfl) rfl,
      (fun h => by simp [kind1] at h),
      (fun h => by simp [kind1] at h),
      fun _ n => tells_assign rfl (by rw [hfin]; rfl), trivial⟩, ?_⟩
  intro n w4 m3 hm hb4 OV hlt
  rw [hfin, hm]
  clear hfin hm n fin
  have h4 := h3.below hb4
  have OX := OX.below hb4 OX.inside
  have OY := OY.below hb4 OY.inside
  clear hb4 h3 hlt
  obtain ⟨pc, pd⟩ := all_of h4.one
  obtain ⟨qc, qd⟩ := all_of h4.two
  go_wp2_with fail
  refine (TR.out _).mono ?_
  rintro e w5 ⟨rfl, b5⟩
  have h5 := h4.below b5
  have OX := OX.below b5 OX.inside
  have OY := OY.below b5 OY.inside
  have OV := OV.below b5 OV.inside
  clear b5 h4 pc pd qc qd
  go_upto_region 5 with fail
  have OU := Whole.fresh w5 26 #[.int .i64 V.f, .int .i64 V.k, .int .u32 V.p0, .int .u32 V.p1, .int .u32 V.p2, .int .u32 V.p3, .int .i64 V.u, .int .u32 V.l0, .int .u32 V.l1, .int .u32 V.l2]
  have h5 := h5.alloc (.cells #[.int .i64 V.f, .int .i64 V.k, .int .u32 V.p0, .int .u32 V.p1, .int .u32 V.p2, .int .u32 V.p3, .int .i64 V.u, .int .u32 V.l0, .int .u32 V.l1, .int .u32 V.l2] 26)
  have OX := OX.alloc (.cells #[.int .i64 V.f, .int .i64 V.k, .int .u32 V.p0, .int .u32 V.p1, .int .u32 V.p2, .int .u32 V.p3, .int .i64 V.u, .int .u32 V.l0, .int .u32 V.l1, .int .u32 V.l2] 26)
  have OY := OY.alloc (.cells #[.int .i64 V.f, .int .i64 V.k, .int .u32 V.p0, .int .u32 V.p1, .int .u32 V.p2, .int .u32 V.p3, .int .i64 V.u, .int .u32 V.l0, .int .u32 V.l1, .int .u32 V.l2] 26)
  have OV := OV.alloc (.cells #[.int .i64 V.f, .int .i64 V.k, .int .u32 V.p0, .int .u32 V.p1, .int .u32 V.p2, .int .u32 V.p3, .int .i64 V.u, .int .u32 V.l0, .int .u32 V.l1, .int .u32 V.l2] 26)
  change Code.wp _ _ _ _ (w5.alloc (.cells #[.int .i64 V.f, .int .i64 V.k, .int .u32 V.p0, .int .u32 V.p1, .int .u32 V.p2, .int .u32 V.p3, .int .i64 V.u, .int .u32 V.l0, .int .u32 V.l1, .int .u32 V.l2] 26))
  generalize w5.alloc (.cells #[.int .i64 V.f, .int .i64 V.k, .int .u32 V.p0, .int .u32 V.p1, .int .u32 V.p2, .int .u32 V.p3, .int .i64 V.u, .int .u32 V.l0, .int .u32 V.l1, .int .u32 V.l2] 26) = W at h5 OX OY OV OU ⊢
  generalize w5.heap.size = m4 at OU ⊢
  have eq1 := fun W => (run_eqPR V V W).trans (by rw [eqP_self])
  have eq2 := fun W => (run_eqT X X W).trans (by rw [eqT_self])
  have c1 : ∀ (x : Since W) (i : Nat), x.1.cell? ⟨m1, i, none⟩ = _ := fun x i => (OX.below x.2 OX.inside).read i
  have c2 : ∀ (x : Since W) (i : Nat), x.1.cell? ⟨m2, i, none⟩ = _ := fun x i => (OY.below x.2 OY.inside).read i
  have c3 : ∀ (x : Since W) (i : Nat), x.1.cell? ⟨m3, i, none⟩ = _ := fun x i => (OV.below x.2 OV.inside).read i
  have c4 : ∀ (x : Since W) (i : Nat), x.1.cell? ⟨m4, i, none⟩ = _ := fun x i => (OU.below x.2 OU.inside).read i
  refine region_since W (by kernel_rfl) (by kernel_rfl) (Below.refl _ _) ?_
  repeat (go_big_quiet_step ((go_at_call 13; with_reducible exact since_call (from_any V) _)))
  refine wpQuiet_nil ?_
  rintro w6 ⟨x, hw⟩
  have h6 := h5.below (hw ▸ x.2)
  clear hw x c1 c2 c3 c4 h5
  go_wp2_with fail
  go_ret
  exact ⟨by first | rfl | simp, h6.old⟩
set_option maxRecDepth 100000 in
theorem told (W : World) (args : Array Value) (h : Fed Try.prog W [26, 26, 28] args) : Calls Try.prog 3 args W fun e W' => e = .returned (.bool true) ∧ Below W.heap.size W W' := by
  obtain ⟨v0, v1, v2, rfl⟩ := args3 h.count
  obtain ⟨⟨_, o0⟩, r0⟩ := h.each 0 26 v0 rfl rfl
  obtain ⟨⟨_, o1⟩, r1⟩ := h.each 1 26 v1 rfl rfl
  obtain ⟨⟨_, o2⟩, r2⟩ := h.each 2 28 v2 rfl rfl
  obtain ⟨a0, q0⟩ := r0 opens_path
  obtain ⟨t0, i0, rfl⟩ := top_path o0 q0
  obtain ⟨a1, q1⟩ := r1 opens_path
  obtain ⟨t1, i1, rfl⟩ := top_path o1 q1
  obtain ⟨a2, q2⟩ := r2 opens_time
  obtain ⟨t2, i2, rfl⟩ := top_time o2 q2
  exact walk t0 t1 t2 i0 i1 i2 W

/-! ### The row -/
theorem own : ownKnob Try.prog.godebug = none := by kernel_rfl
theorem laidOut : laidOutB Try.prog = true := by kernel_rfl
set_option maxRecDepth 100000 in
theorem lifted (os : Os) (started : os.Started) (H : Type) (enc : TypeId × Value → H) :
    ReturnsInHanded {} Try.checked os 3 .any (Rows.pathGoesSpec.pre6 enc Try.prog Try.f3 Rows.pathGoesRow.domain false) (Rows.pathGoesSpec.post enc Try.prog Try.f3 false true false false) :=
  lift (C := Try.checked) (fn := Try.f3) (tb := 4) (ts := [26, 26, 28]) own started (by kernel_rfl) Try.func3 laidOut (by kernel_rfl) (by kernel_rfl) (by kernel_rfl) Try.underlying4 rfl
    (fun ds h => by
      match ds, h with
      | [_, _, _], _ => rfl)
    (ChangeSpec.witness6 (enc := enc) (C := Try.checked) false ⟨#[], #[.agg #[.int .i64 0, .int .i64 0, .int .u32 0, .int .u32 0, .int .u32 0, .int .u32 0, .int .i64 0, .int .u32 0, .int .u32 0, .int .u32 0], .agg #[.int .i64 0, .int .i64 0, .int .u32 0, .int .u32 0, .int .u32 0, .int .u32 0, .int .i64 0, .int .u32 0, .int .u32 0, .int .u32 0], .agg #[.int .u32 0, .int .i64 0, .int .u32 0, .int .u32 0, .int .u32 0]], []⟩ 8 (by kernel_rfl) (by kernel_rfl) (by kernel_rfl) (by kernel_rfl)) told

theorem over : Rows.pathGoesRow.holds Try.pinned (OpenSpec.ofChange Rows.pathGoesSpec) :=
  OpenClaim.holds_of_wide 3 Try.f3 rfl rfl rfl rfl rfl rfl rfl ⟨rfl, rfl, rfl, rfl, rfl⟩ rfl rfl rfl rfl rfl (by kernel_rfl) Try.func3 (by kernel_rfl)
    (of_decide_eq_true (by kernel_rfl)) (by unfold Func.isWrapper; first | (rw [if_pos (by decide +kernel)]; kernel_rfl) | (rw [if_neg (by decide +kernel)]; exact ⟨rfl, rfl⟩))
    (fun os started H enc _ => lifted os started H enc)

theorem proved : Rows.PathGoesSaid := over
#print axioms proved
end Go.Proofs.Ytilkdpobkcocoaa.pathGoes
