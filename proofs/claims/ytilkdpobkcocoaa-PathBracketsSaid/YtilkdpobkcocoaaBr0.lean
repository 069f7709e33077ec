/-
  Three paths, one behind the other, do not hang on brackets: where the first of them is none, and where one of the two first compositions is wrong.
-/
import Derived.Test.YtilkdpobkcocoaaIn
import Derived.Test.YtilkdpobkcocoaaNe
namespace Go.Proofs.Ytilkdpobkcocoaa.pathBrackets
open Go.ChangeShapes Go.WideShapes Go.ChangeAt Go.RowKit
open Go.Proofs.Ytilkdpobkcocoaa.tm Go.Proofs.Ytilkdpobkcocoaa.opened Go.Proofs.Ytilkdpobkcocoaa.block Go.Proofs.Ytilkdpobkcocoaa.stamp Go.Proofs.Ytilkdpobkcocoaa.pa Go.Proofs.Ytilkdpobkcocoaa.path Go.Proofs.Ytilkdpobkcocoaa.region

theorem in_stay (d : Int) (h : 0 ≤ d) (h' : d ≤ 3) : (stayV d).In := by
  unfold stayV
  rw [if_pos ⟨h, h'⟩]
  constructor <;> dsimp only <;> omega
set_option maxRecDepth 100000 in
set_option maxHeartbeats 4000000 in
theorem walk0 (p q s : Pa) (i : p.In) (j : q.In) (k : s.In) (z : chkP p ≠ 0) (w : World) : Calls Try.prog 4 #[.agg #[.int .i64 p.f, .int .i64 p.k, .int .u32 p.p0, .int .u32 p.p1, .int .u32 p.p2, .int .u32 p.p3, .int .i64 p.u, .int .u32 p.l0, .int .u32 p.l1, .int .u32 p.l2], .agg #[.int .i64 q.f, .int .i64 q.k, .int .u32 q.p0, .int .u32 q.p1, .int .u32 q.p2, .int .u32 q.p3, .int .i64 q.u, .int .u32 q.l0, .int .u32 q.l1, .int .u32 q.l2], .agg #[.int .i64 s.f, .int .i64 s.k, .int .u32 s.p0, .int .u32 s.p1, .int .u32 s.p2, .int .u32 s.p3, .int .i64 s.u, .int .u32 s.l0, .int .u32 s.l1, .int .u32 s.l2]] w fun e w' => e = .returned (.bool true) ∧ Below w.heap.size w w' := by
  have h0 := Tri.fresh w 26 26 26 #[.int .i64 p.f, .int .i64 p.k, .int .u32 p.p0, .int .u32 p.p1, .int .u32 p.p2, .int .u32 p.p3, .int .i64 p.u, .int .u32 p.l0, .int .u32 p.l1, .int .u32 p.l2] #[.int .i64 q.f, .int .i64 q.k, .int .u32 q.p0, .int .u32 q.p1, .int .u32 q.p2, .int .u32 q.p3, .int .i64 q.u, .int .u32 q.l0, .int .u32 q.l1, .int .u32 q.l2] #[.int .i64 s.f, .int .i64 s.k, .int .u32 s.p0, .int .u32 s.p1, .int .u32 s.p2, .int .u32 s.p3, .int .i64 s.u, .int .u32 s.l0, .int .u32 s.l1, .int .u32 s.l2]
  have T1 := Lib.hid (then_any p q i j)
  have T2 := Lib.hid (then_any q s j k)
  have K := Lib.hid (chkP_any p i)
  have e1 : (thenE p q == 0) = false := by simp; unfold thenE; rw [if_neg z]; exact z
  have e2 : (chkP p != 0) = true := by simpa using z
  generalize thenV p q = a at T1
  generalize thenE p q = ea at T1 e1
  generalize thenV q s = b at T2
  generalize thenE q s = eb at T2
  generalize chkP p = cp at K e2
  clear i j k z
  go_enter Try.func4, Try.ntmps4
  go_wp2_with fail
  refine (works_any _).mono ?_
  rintro e w1 ⟨rfl, b1⟩
  have h1 := h0.below b1
  clear b1 h0
  generalize w.heap.size = g at h1 ⊢
  go_upto_region 3 with fail
  refine region_one2 8 9 129 32 #[.int .i64 0, .int .i64 0, .int .u32 0, .int .u32 0, .int .u32 0, .int .u32 0, .int .i64 0, .int .u32 0, .int .u32 0, .int .u32 0] #[.int .i64 a.f, .int .i64 a.k, .int .u32 a.p0, .int .u32 a.p1, .int .u32 a.p2, .int .u32 a.p3, .int .i64 a.u, .int .u32 a.l0, .int .u32 a.l1, .int .u32 a.l2]
    [.agg #[.int .i64 p.f, .int .i64 p.k, .int .u32 p.p0, .int .u32 p.p1, .int .u32 p.p2, .int .u32 p.p3, .int .i64 p.u, .int .u32 p.l0, .int .u32 p.l1, .int .u32 p.l2], .agg #[.int .i64 p.f, .int .i64 p.k, .int .u32 p.p0, .int .u32 p.p1, .int .u32 p.p2, .int .u32 p.p3, .int .i64 p.u, .int .u32 p.l0, .int .u32 p.l1, .int .u32 p.l2], .agg #[.int .i64 q.f, .int .i64 q.k, .int .u32 q.p0, .int .u32 q.p1, .int .u32 q.p2, .int .u32 q.p3, .int .i64 q.u, .int .u32 q.l0, .int .u32 q.l1, .int .u32 q.l2], .agg #[.int .i64 q.f, .int .i64 q.k, .int .u32 q.p0, .int .u32 q.p1, .int .u32 q.p2, .int .u32 q.p3, .int .i64 q.u, .int .u32 q.l0, .int .u32 q.l1, .int .u32 q.l2], .tuple #[.agg #[.int .i64 a.f, .int .i64 a.k, .int .u32 a.p0, .int .u32 a.p1, .int .u32 a.p2, .int .u32 a.p3, .int .i64 a.u, .int .u32 a.l0, .int .u32 a.l1, .int .u32 a.l2], .int .i64 ea], .tuple #[.agg #[.int .i64 a.f, .int .i64 a.k, .int .u32 a.p0, .int .u32 a.p1, .int .u32 a.p2, .int .u32 a.p3, .int .i64 a.u, .int .u32 a.l0, .int .u32 a.l1, .int .u32 a.l2], .int .i64 ea], .agg #[.int .i64 a.f, .int .i64 a.k, .int .u32 a.p0, .int .u32 a.p1, .int .u32 a.p2, .int .u32 a.p3, .int .i64 a.u, .int .u32 a.l0, .int .u32 a.l1, .int .u32 a.l2], .int .i64 ea, undef, undef, .int .i64 ea] (by kernel_rfl) rfl (by kernel_rfl) rfl rfl rfl rfl rfl rfl (by kernel_rfl) (by kernel_rfl) rfl (by simp [Value.oneCell']) (by kernel_rfl) ?_ ?_
  · intro w ρ
    simp [execOp, go_sem]
  intro fin hfin
  simp [lexPut, val, kind1, Act.put] at hfin
  refine ⟨fun n => by rw [hfin]; rfl, ⟨fun _ n => tells_load rfl (by rw [hfin]; rfl) h1.drew.one Try.underlying26 rfl (by kernel_rfl),
      fun _ n => tells_call rfl (by rw [hfin]; simp [Act.eval]) rfl Try.func9 (by kernel_rfl) (by kernel_rfl) (to_any p),
      fun _ n => tells_load rfl (by rw [hfin]; rfl) h1.drew.two Try.underlying26 rfl (by kernel_rfl),
      fun _ n => tells_call rfl (by rw [hfin]; simp [Act.eval]) rfl Try.func9 (by kernel_rfl) (by kernel_rfl) (to_any q),
      fun _ n => tells_call rfl (by rw [hfin]; simp [Act.eval]) rfl Try.func11 (by kernel_rfl) (by kernel_rfl) T1.out,
      fun _ n => tells_move rfl (by rw [hfin]; rfl),
      fun _ n => tells_extract rfl (by rw [hfin]; rfl) rfl,
      fun _ n => tells_extract rfl (by rw [hfin]; rfl) rfl,
      (fun h => by simp [kind1] at h),
      (fun h => by simp [kind1] at h),
      fun _ n => tells_assign rfl (by rw [hfin]; rfl), trivial⟩, ?_⟩
  intro n w2 m1 hm hb2 OA hlt
  rw [hfin, hm]
  clear hfin hm n fin
  have h2 := h1.below hb2
  have hm1 : g + 1 + 1 < m1 := Nat.lt_of_lt_of_le h1.tre.inside hlt
  clear hlt hb2 h1
  go_upto_region 4 with fail
  refine region_one2 8 9 129 32 #[.int .i64 0, .int .i64 0, .int .u32 0, .int .u32 0, .int .u32 0, .int .u32 0, .int .i64 0, .int .u32 0, .int .u32 0, .int .u32 0] #[.int .i64 b.f, .int .i64 b.k, .int .u32 b.p0, .int .u32 b.p1, .int .u32 b.p2, .int .u32 b.p3, .int .i64 b.u, .int .u32 b.l0, .int .u32 b.l1, .int .u32 b.l2]
    [.agg #[.int .i64 q.f, .int .i64 q.k, .int .u32 q.p0, .int .u32 q.p1, .int .u32 q.p2, .int .u32 q.p3, .int .i64 q.u, .int .u32 q.l0, .int .u32 q.l1, .int .u32 q.l2], .agg #[.int .i64 q.f, .int .i64 q.k, .int .u32 q.p0, .int .u32 q.p1, .int .u32 q.p2, .int .u32 q.p3, .int .i64 q.u, .int .u32 q.l0, .int .u32 q.l1, .int .u32 q.l2], .agg #[.int .i64 s.f, .int .i64 s.k, .int .u32 s.p0, .int .u32 s.p1, .int .u32 s.p2, .int .u32 s.p3, .int .i64 s.u, .int .u32 s.l0, .int .u32 s.l1, .int .u32 s.l2], .agg #[.int .i64 s.f, .int .i64 s.k, .int .u32 s.p0, .int .u32 s.p1, .int .u32 s.p2, .int .u32 s.p3, .int .i64 s.u, .int .u32 s.l0, .int .u32 s.l1, .int .u32 s.l2], .tuple #[.agg #[.int .i64 b.f, .int .i64 b.k, .int .u32 b.p0, .int .u32 b.p1, .int .u32 b.p2, .int .u32 b.p3, .int .i64 b.u, .int .u32 b.l0, .int .u32 b.l1, .int .u32 b.l2], .int .i64 eb], .tuple #[.agg #[.int .i64 b.f, .int .i64 b.k, .int .u32 b.p0, .int .u32 b.p1, .int .u32 b.p2, .int .u32 b.p3, .int .i64 b.u, .int .u32 b.l0, .int .u32 b.l1, .int .u32 b.l2], .int .i64 eb], .agg #[.int .i64 b.f, .int .i64 b.k, .int .u32 b.p0, .int .u32 b.p1, .int .u32 b.p2, .int .u32 b.p3, .int .i64 b.u, .int .u32 b.l0, .int .u32 b.l1, .int .u32 b.l2], .int .i64 eb, undef, undef, .int .i64 eb] (by kernel_rfl) rfl (by kernel_rfl) rfl rfl rfl rfl rfl rfl (by kernel_rfl) (by kernel_rfl) rfl (by simp [Value.oneCell']) (by kernel_rfl) ?_ ?_
  · intro w ρ
    simp [execOp, go_sem]
  intro fin hfin
  simp [lexPut, val, kind1, Act.put] at hfin
  refine ⟨fun n => by rw [hfin]; rfl, ⟨fun _ n => tells_load rfl (by rw [hfin]; rfl) h2.drew.two Try.underlying26 rfl (by kernel_rfl),
      fun _ n => tells_call rfl (by rw [hfin]; simp [Act.eval]) rfl Try.func9 (by kernel_rfl) (by kernel_rfl) (to_any q),
      fun _ n => tells_load rfl (by rw [hfin]; rfl) h2.drew.tre Try.underlying26 rfl (by kernel_rfl),
      fun _ n => tells_call rfl (by rw [hfin]; simp [Act.eval]) rfl Try.func9 (by kernel_rfl) (by kernel_rfl) (to_any s),
      fun _ n => tells_call rfl (by rw [hfin]; simp [Act.eval]) rfl Try.func11 (by kernel_rfl) (by kernel_rfl) T2.out,
      fun _ n => tells_move rfl (by rw [hfin]; rfl),
      fun _ n => tells_extract rfl (by rw [hfin]; rfl) rfl,
      fun _ n => tells_extract rfl (by rw [hfin]; rfl) rfl,
      (fun h => by simp [kind1] at h),
      (fun h => by simp [kind1] at h),
      fun _ n => tells_assign rfl (by rw [hfin]; rfl), trivial⟩, ?_⟩
  intro n w3 m2 hm hb3 OB hlt
  rw [hfin, hm]
  clear hfin hm n fin
  have h3 := h2.below hb3
  have OA := OA.below hb3 OA.inside
  clear hb3 h2 hlt
  obtain ⟨pc, pd⟩ := all_of h3.one
  go_wp2_with fail
  refine (to_any p _).mono ?_
  rintro e u1 ⟨rfl, c1⟩
  have h6a := h3.below c1
  clear c1 pc pd h3
  go_wp2_with fail
  refine (K.out _).mono ?_
  rintro e u2 ⟨rfl, c2⟩
  have h6 := h6a.below c2
  clear c2 h6a
  go_wp2_with fail
  go_ret
  exact ⟨rfl, h6.old⟩
set_option maxRecDepth 100000 in
set_option maxHeartbeats 8000000 in
theorem walk1 (p q s : Pa) (i : p.In) (j : q.In) (k : s.In) (z : chkP p = 0) (n : thenE p q ≠ 0) (w : World) : Calls Try.prog 4 #[.agg #[.int .i64 p.f, .int .i64 p.k, .int .u32 p.p0, .int .u32 p.p1, .int .u32 p.p2, .int .u32 p.p3, .int .i64 p.u, .int .u32 p.l0, .int .u32 p.l1, .int .u32 p.l2], .agg #[.int .i64 q.f, .int .i64 q.k, .int .u32 q.p0, .int .u32 q.p1, .int .u32 q.p2, .int .u32 q.p3, .int .i64 q.u, .int .u32 q.l0, .int .u32 q.l1, .int .u32 q.l2], .agg #[.int .i64 s.f, .int .i64 s.k, .int .u32 s.p0, .int .u32 s.p1, .int .u32 s.p2, .int .u32 s.p3, .int .i64 s.u, .int .u32 s.l0, .int .u32 s.l1, .int .u32 s.l2]] w fun e w' => e = .returned (.bool true) ∧ Below w.heap.size w w' := by
  have h0 := Tri.fresh w 26 26 26 #[.int .i64 p.f, .int .i64 p.k, .int .u32 p.p0, .int .u32 p.p1, .int .u32 p.p2, .int .u32 p.p3, .int .i64 p.u, .int .u32 p.l0, .int .u32 p.l1, .int .u32 p.l2] #[.int .i64 q.f, .int .i64 q.k, .int .u32 q.p0, .int .u32 q.p1, .int .u32 q.p2, .int .u32 q.p3, .int .i64 q.u, .int .u32 q.l0, .int .u32 q.l1, .int .u32 q.l2] #[.int .i64 s.f, .int .i64 s.k, .int .u32 s.p0, .int .u32 s.p1, .int .u32 s.p2, .int .u32 s.p3, .int .i64 s.u, .int .u32 s.l0, .int .u32 s.l1, .int .u32 s.l2]
  have T1 := Lib.hid (then_any p q i j)
  have T2 := Lib.hid (then_any q s j k)
  have K := Lib.hid (chkP_any p i)
  have P1 := then_stay z
  have P2 := stay_then z
  have S1 := Lib.hid (stay_any p.f)
  have S2 := Lib.hid (stay_any (p.k + p.u))
  have L := Lib.hid (to_any' p i)
  rw [show toV p = p.k + p.u by unfold toV; rw [if_pos z]] at L
  have T3 := Lib.hid (then_any (stayV p.f) p (in_stay p.f (chkP_open z).1.1 (by have := chkP_open z; omega)) i)
  have T4 := Lib.hid (then_any p (stayV (p.k + p.u)) i (in_stay _ (by have := chkP_open z; omega) (by have := chkP_open z; omega)))
  rw [P1.1, P1.2] at T3
  rw [P2.1, P2.2] at T4
  rw [show stayE p.f = 0 by unfold stayE; rw [if_pos (by have := chkP_open z; omega)]] at S1
  rw [show stayE (p.k + p.u) = 0 by unfold stayE; rw [if_pos (by have := chkP_open z; omega)]] at S2
  clear P1 P2
  generalize stayV p.f = u at S1 T3
  generalize stayV (p.k + p.u) = v at S2 T4
  generalize p.k + p.u = du at L S2
  rw [z] at K
  generalize thenV p q = a at T1
  generalize thenV q s = b at T2
  have e1 : (thenE p q == 0) = false := by simpa using n
  generalize thenE p q = ea at T1 e1
  generalize thenE q s = eb at T2
  clear i j k z n
  go_enter Try.func4, Try.ntmps4
  go_wp2_with fail
  refine (works_any _).mono ?_
  rintro e w1 ⟨rfl, b1⟩
  have h1 := h0.below b1
  clear b1 h0
  generalize w.heap.size = g at h1 ⊢
  go_upto_region 3 with fail
  refine region_one2 8 9 129 32 #[.int .i64 0, .int .i64 0, .int .u32 0, .int .u32 0, .int .u32 0, .int .u32 0, .int .i64 0, .int .u32 0, .int .u32 0, .int .u32 0] #[.int .i64 a.f, .int .i64 a.k, .int .u32 a.p0, .int .u32 a.p1, .int .u32 a.p2, .int .u32 a.p3, .int .i64 a.u, .int .u32 a.l0, .int .u32 a.l1, .int .u32 a.l2]
    [.agg #[.int .i64 p.f, .int .i64 p.k, .int .u32 p.p0, .int .u32 p.p1, .int .u32 p.p2, .int .u32 p.p3, .int .i64 p.u, .int .u32 p.l0, .int .u32 p.l1, .int .u32 p.l2], .agg #[.int .i64 p.f, .int .i64 p.k, .int .u32 p.p0, .int .u32 p.p1, .int .u32 p.p2, .int .u32 p.p3, .int .i64 p.u, .int .u32 p.l0, .int .u32 p.l1, .int .u32 p.l2], .agg #[.int .i64 q.f, .int .i64 q.k, .int .u32 q.p0, .int .u32 q.p1, .int .u32 q.p2, .int .u32 q.p3, .int .i64 q.u, .int .u32 q.l0, .int .u32 q.l1, .int .u32 q.l2], .agg #[.int .i64 q.f, .int .i64 q.k, .int .u32 q.p0, .int .u32 q.p1, .int .u32 q.p2, .int .u32 q.p3, .int .i64 q.u, .int .u32 q.l0, .int .u32 q.l1, .int .u32 q.l2], .tuple #[.agg #[.int .i64 a.f, .int .i64 a.k, .int .u32 a.p0, .int .u32 a.p1, .int .u32 a.p2, .int .u32 a.p3, .int .i64 a.u, .int .u32 a.l0, .int .u32 a.l1, .int .u32 a.l2], .int .i64 ea], .tuple #[.agg #[.int .i64 a.f, .int .i64 a.k, .int .u32 a.p0, .int .u32 a.p1, .int .u32 a.p2, .int .u32 a.p3, .int .i64 a.u, .int .u32 a.l0, .int .u32 a.l1, .int .u32 a.l2], .int .i64 ea], .agg #[.int .i64 a.f, .int .i64 a.k, .int .u32 a.p0, .int .u32 a.p1, .int .u32 a.p2, .int .u32 a.p3, .int .i64 a.u, .int .u32 a.l0, .int .u32 a.l1, .int .u32 a.l2], .int .i64 ea, undef, undef, .int .i64 ea] (by kernel_rfl) rfl (by kernel_rfl) rfl rfl rfl rfl rfl rfl (by kernel_rfl) (by kernel_rfl) rfl (by simp [Value.oneCell']) (by kernel_rfl) ?_ ?_
  · intro w ρ
    simp [execOp, go_sem]
  intro fin hfin
  simp [lexPut, val, kind1, Act.put] at hfin
  refine ⟨fun n => by rw [hfin]; rfl, ⟨fun _ n => tells_load rfl (by rw [hfin]; rfl) h1.drew.one Try.underlying26 rfl (by kernel_rfl),
      fun _ n => tells_call rfl (by rw [hfin]; simp [Act.eval]) rfl Try.func9 (by kernel_rfl) (by kernel_rfl) (to_any p),
      fun _ n => tells_load rfl (by rw [hfin]; rfl) h1.drew.two Try.underlying26 rfl (by kernel_rfl),
      fun _ n => tells_call rfl (by rw [hfin]; simp [Act.eval]) rfl Try.func9 (by kernel_rfl) (by kernel_rfl) (to_any q),
      fun _ n => tells_call rfl (by rw [hfin]; simp [Act.eval]) rfl Try.func11 (by kernel_rfl) (by kernel_rfl) T1.out,
      fun _ n => tells_move rfl (by rw [hfin]; rfl),
      fun _ n => tells_extract rfl (by rw [hfin]; rfl) rfl,
      fun _ n => tells_extract rfl (by rw [hfin]; rfl) rfl,
      (fun h => by simp [kind1] at h),
      (fun h => by simp [kind1] at h),
      fun _ n => tells_assign rfl (by rw [hfin]; rfl), trivial⟩, ?_⟩
  intro n w2 m1 hm hb2 OA hlt
  rw [hfin, hm]
  clear hfin hm n fin
  have h2 := h1.below hb2
  have hm1 : g + 1 + 1 < m1 := Nat.lt_of_lt_of_le h1.tre.inside hlt
  clear hlt hb2 h1
  go_upto_region 4 with fail
  refine region_one2 8 9 129 32 #[.int .i64 0, .int .i64 0, .int .u32 0, .int .u32 0, .int .u32 0, .int .u32 0, .int .i64 0, .int .u32 0, .int .u32 0, .int .u32 0] #[.int .i64 b.f, .int .i64 b.k, .int .u32 b.p0, .int .u32 b.p1, .int .u32 b.p2, .int .u32 b.p3, .int .i64 b.u, .int .u32 b.l0, .int .u32 b.l1, .int .u32 b.l2]
    [.agg #[.int .i64 q.f, .int .i64 q.k, .int .u32 q.p0, .int .u32 q.p1, .int .u32 q.p2, .int .u32 q.p3, .int .i64 q.u, .int .u32 q.l0, .int .u32 q.l1, .int .u32 q.l2], .agg #[.int .i64 q.f, .int .i64 q.k, .int .u32 q.p0, .int .u32 q.p1, .int .u32 q.p2, .int .u32 q.p3, .int .i64 q.u, .int .u32 q.l0, .int .u32 q.l1, .int .u32 q.l2], .agg #[.int .i64 s.f, .int .i64 s.k, .int .u32 s.p0, .int .u32 s.p1, .int .u32 s.p2, .int .u32 s.p3, .int .i64 s.u, .int .u32 s.l0, .int .u32 s.l1, .int .u32 s.l2], .agg #[.int .i64 s.f, .int .i64 s.k, .int .u32 s.p0, .int .u32 s.p1, .int .u32 s.p2, .int .u32 s.p3, .int .i64 s.u, .int .u32 s.l0, .int .u32 s.l1, .int .u32 s.l2], .tuple #[.agg #[.int .i64 b.f, .int .i64 b.k, .int .u32 b.p0, .int .u32 b.p1, .int .u32 b.p2, .int .u32 b.p3, .int .i64 b.u, .int .u32 b.l0, .int .u32 b.l1, .int .u32 b.l2], .int .i64 eb], .tuple #[.agg #[.int .i64 b.f, .int .i64 b.k, .int .u32 b.p0, .int .u32 b.p1, .int .u32 b.p2, .int .u32 b.p3, .int .i64 b.u, .int .u32 b.l0, .int .u32 b.l1, .int .u32 b.l2], .int .i64 eb], .agg #[.int .i64 b.f, .int .i64 b.k, .int .u32 b.p0, .int .u32 b.p1, .int .u32 b.p2, .int .u32 b.p3, .int .i64 b.u, .int .u32 b.l0, .int .u32 b.l1, .int .u32 b.l2], .int .i64 eb, undef, undef, .int .i64 eb] (by kernel_rfl) rfl (by kernel_rfl) rfl rfl rfl rfl rfl rfl (by kernel_rfl) (by kernel_rfl) rfl (by simp [Value.oneCell']) (by kernel_rfl) ?_ ?_
  · intro w ρ
    simp [execOp, go_sem]
  intro fin hfin
  simp [lexPut, val, kind1, Act.put] at hfin
  refine ⟨fun n => by rw [hfin]; rfl, ⟨fun _ n => tells_load rfl (by rw [hfin]; rfl) h2.drew.two Try.underlying26 rfl (by kernel_rfl),
      fun _ n => tells_call rfl (by rw [hfin]; simp [Act.eval]) rfl Try.func9 (by kernel_rfl) (by kernel_rfl) (to_any q),
      fun _ n => tells_load rfl (by rw [hfin]; rfl) h2.drew.tre Try.underlying26 rfl (by kernel_rfl),
      fun _ n => tells_call rfl (by rw [hfin]; simp [Act.eval]) rfl Try.func9 (by kernel_rfl) (by kernel_rfl) (to_any s),
      fun _ n => tells_call rfl (by rw [hfin]; simp [Act.eval]) rfl Try.func11 (by kernel_rfl) (by kernel_rfl) T2.out,
      fun _ n => tells_move rfl (by rw [hfin]; rfl),
      fun _ n => tells_extract rfl (by rw [hfin]; rfl) rfl,
      fun _ n => tells_extract rfl (by rw [hfin]; rfl) rfl,
      (fun h => by simp [kind1] at h),
      (fun h => by simp [kind1] at h),
      fun _ n => tells_assign rfl (by rw [hfin]; rfl), trivial⟩, ?_⟩
  intro n w3 m2 hm hb3 OB hlt
  rw [hfin, hm]
  clear hfin hm n fin
  have h3 := h2.below hb3
  have OA := OA.below hb3 OA.inside
  clear hb3 h2 hlt
  obtain ⟨pc, pd⟩ := all_of h3.one
  go_wp2_with fail
  refine (to_any p _).mono ?_
  rintro e u1 ⟨rfl, c1⟩
  have h6a := h3.below c1
  clear c1 pc pd h3
  go_wp2_with fail
  refine (K.out _).mono ?_
  rintro e u2 ⟨rfl, c2⟩
  have h6 := h6a.below c2
  clear c2 h6a
  obtain ⟨pc, pd⟩ := all_of h6.one
  go_wp2_with fail
  refine (S1.out _).mono ?_
  rintro e u3 ⟨rfl, c3⟩
  have h7 := h6.below c3
  clear c3 pc pd h6
  go_upto_region 13 with fail
  have OU := Whole.fresh u3 32 #[.int .i64 u.f, .int .i64 u.k, .int .u32 u.p0, .int .u32 u.p1, .int .u32 u.p2, .int .u32 u.p3, .int .i64 u.u, .int .u32 u.l0, .int .u32 u.l1, .int .u32 u.l2]
  have h7 := h7.alloc (.cells #[.int .i64 u.f, .int .i64 u.k, .int .u32 u.p0, .int .u32 u.p1, .int .u32 u.p2, .int .u32 u.p3, .int .i64 u.u, .int .u32 u.l0, .int .u32 u.l1, .int .u32 u.l2] 32)
  generalize u3.alloc (.cells #[.int .i64 u.f, .int .i64 u.k, .int .u32 u.p0, .int .u32 u.p1, .int .u32 u.p2, .int .u32 u.p3, .int .i64 u.u, .int .u32 u.l0, .int .u32 u.l1, .int .u32 u.l2] 32) = W at h7 OU ⊢
  generalize u3.heap.size = m5 at OU ⊢
  obtain ⟨pc, pd⟩ := all_of h7.one
  go_wp2_with fail
  refine (to_any p _).mono ?_
  rintro e u4 ⟨rfl, c4⟩
  have OU := OU.below c4 OU.inside
  have h8 := h7.below c4
  clear c4 pc pd h7
  go_wp2_with fail
  refine (L.out _).mono ?_
  rintro e u5 ⟨rfl, c5⟩
  have OU := OU.below c5 OU.inside
  have h9 := h8.below c5
  clear c5 h8
  go_wp2_with fail
  refine (S2.out _).mono ?_
  rintro e u6 ⟨rfl, c6⟩
  have OU := OU.below c6 OU.inside
  have h10 := h9.below c6
  clear c6 h9
  go_upto_region 14 with fail
  have OU := OU.alloc (.cells #[.int .i64 v.f, .int .i64 v.k, .int .u32 v.p0, .int .u32 v.p1, .int .u32 v.p2, .int .u32 v.p3, .int .i64 v.u, .int .u32 v.l0, .int .u32 v.l1, .int .u32 v.l2] 32)
  have OV := Whole.fresh u6 32 #[.int .i64 v.f, .int .i64 v.k, .int .u32 v.p0, .int .u32 v.p1, .int .u32 v.p2, .int .u32 v.p3, .int .i64 v.u, .int .u32 v.l0, .int .u32 v.l1, .int .u32 v.l2]
  have h10 := h10.alloc (.cells #[.int .i64 v.f, .int .i64 v.k, .int .u32 v.p0, .int .u32 v.p1, .int .u32 v.p2, .int .u32 v.p3, .int .i64 v.u, .int .u32 v.l0, .int .u32 v.l1, .int .u32 v.l2] 32)
  generalize u6.alloc (.cells #[.int .i64 v.f, .int .i64 v.k, .int .u32 v.p0, .int .u32 v.p1, .int .u32 v.p2, .int .u32 v.p3, .int .i64 v.u, .int .u32 v.l0, .int .u32 v.l1, .int .u32 v.l2] 32) = W at h10 OU OV ⊢
  generalize u6.heap.size = m6 at OV ⊢
  refine region_one2 7 8 129 32 #[.int .i64 0, .int .i64 0, .int .u32 0, .int .u32 0, .int .u32 0, .int .u32 0, .int .i64 0, .int .u32 0, .int .u32 0, .int .u32 0] #[.int .i64 p.f, .int .i64 p.k, .int .u32 p.p0, .int .u32 p.p1, .int .u32 p.p2, .int .u32 p.p3, .int .i64 p.u, .int .u32 p.l0, .int .u32 p.l1, .int .u32 p.l2]
    [.agg #[.int .i64 u.f, .int .i64 u.k, .int .u32 u.p0, .int .u32 u.p1, .int .u32 u.p2, .int .u32 u.p3, .int .i64 u.u, .int .u32 u.l0, .int .u32 u.l1, .int .u32 u.l2], .agg #[.int .i64 p.f, .int .i64 p.k, .int .u32 p.p0, .int .u32 p.p1, .int .u32 p.p2, .int .u32 p.p3, .int .i64 p.u, .int .u32 p.l0, .int .u32 p.l1, .int .u32 p.l2], .agg #[.int .i64 p.f, .int .i64 p.k, .int .u32 p.p0, .int .u32 p.p1, .int .u32 p.p2, .int .u32 p.p3, .int .i64 p.u, .int .u32 p.l0, .int .u32 p.l1, .int .u32 p.l2], .tuple #[.agg #[.int .i64 p.f, .int .i64 p.k, .int .u32 p.p0, .int .u32 p.p1, .int .u32 p.p2, .int .u32 p.p3, .int .i64 p.u, .int .u32 p.l0, .int .u32 p.l1, .int .u32 p.l2], .int .i64 0], .tuple #[.agg #[.int .i64 p.f, .int .i64 p.k, .int .u32 p.p0, .int .u32 p.p1, .int .u32 p.p2, .int .u32 p.p3, .int .i64 p.u, .int .u32 p.l0, .int .u32 p.l1, .int .u32 p.l2], .int .i64 0], .agg #[.int .i64 p.f, .int .i64 p.k, .int .u32 p.p0, .int .u32 p.p1, .int .u32 p.p2, .int .u32 p.p3, .int .i64 p.u, .int .u32 p.l0, .int .u32 p.l1, .int .u32 p.l2], .int .i64 0, undef, undef, .int .i64 0] (by kernel_rfl) rfl (by kernel_rfl) rfl rfl rfl rfl rfl rfl (by kernel_rfl) (by kernel_rfl) rfl (by simp [Value.oneCell']) (by kernel_rfl) ?_ ?_
  · intro w ρ
    simp [execOp, go_sem]
  intro fin hfin
  simp [lexPut, val, kind1, Act.put] at hfin
  refine ⟨fun n => by rw [hfin]; rfl, ⟨fun _ n => tells_load rfl (by rw [hfin]; rfl) (show Whole W.drew m5 _ _ from OU) Try.underlying32 rfl (by kernel_rfl),
      fun _ n => tells_load rfl (by rw [hfin]; rfl) h10.drew.one Try.underlying26 rfl (by kernel_rfl),
      fun _ n => tells_call rfl (by rw [hfin]; simp [Act.eval]) rfl Try.func9 (by kernel_rfl) (by kernel_rfl) (to_any p),
      fun _ n => tells_call rfl (by rw [hfin]; simp [Act.eval]) rfl Try.func11 (by kernel_rfl) (by kernel_rfl) T3.out,
      fun _ n => tells_move rfl (by rw [hfin]; rfl),
      fun _ n => tells_extract rfl (by rw [hfin]; rfl) rfl,
      fun _ n => tells_extract rfl (by rw [hfin]; rfl) rfl,
      (fun h => by simp [kind1] at h),
      (fun h => by simp [kind1] at h),
      fun _ n => tells_assign rfl (by rw [hfin]; rfl), trivial⟩, ?_⟩
  intro n u7 m7 hm hb7 OC hlt
  rw [hfin, hm]
  clear hfin hm n fin
  have OV := OV.below hb7 OV.inside
  have h11 := h10.below hb7
  clear hb7 h10 OU hlt
  go_upto_region 15 with fail
  refine region_one2 7 8 129 32 #[.int .i64 0, .int .i64 0, .int .u32 0, .int .u32 0, .int .u32 0, .int .u32 0, .int .i64 0, .int .u32 0, .int .u32 0, .int .u32 0] #[.int .i64 p.f, .int .i64 p.k, .int .u32 p.p0, .int .u32 p.p1, .int .u32 p.p2, .int .u32 p.p3, .int .i64 p.u, .int .u32 p.l0, .int .u32 p.l1, .int .u32 p.l2]
    [.agg #[.int .i64 p.f, .int .i64 p.k, .int .u32 p.p0, .int .u32 p.p1, .int .u32 p.p2, .int .u32 p.p3, .int .i64 p.u, .int .u32 p.l0, .int .u32 p.l1, .int .u32 p.l2], .agg #[.int .i64 p.f, .int .i64 p.k, .int .u32 p.p0, .int .u32 p.p1, .int .u32 p.p2, .int .u32 p.p3, .int .i64 p.u, .int .u32 p.l0, .int .u32 p.l1, .int .u32 p.l2], .agg #[.int .i64 v.f, .int .i64 v.k, .int .u32 v.p0, .int .u32 v.p1, .int .u32 v.p2, .int .u32 v.p3, .int .i64 v.u, .int .u32 v.l0, .int .u32 v.l1, .int .u32 v.l2], .tuple #[.agg #[.int .i64 p.f, .int .i64 p.k, .int .u32 p.p0, .int .u32 p.p1, .int .u32 p.p2, .int .u32 p.p3, .int .i64 p.u, .int .u32 p.l0, .int .u32 p.l1, .int .u32 p.l2], .int .i64 0], .tuple #[.agg #[.int .i64 p.f, .int .i64 p.k, .int .u32 p.p0, .int .u32 p.p1, .int .u32 p.p2, .int .u32 p.p3, .int .i64 p.u, .int .u32 p.l0, .int .u32 p.l1, .int .u32 p.l2], .int .i64 0], .agg #[.int .i64 p.f, .int .i64 p.k, .int .u32 p.p0, .int .u32 p.p1, .int .u32 p.p2, .int .u32 p.p3, .int .i64 p.u, .int .u32 p.l0, .int .u32 p.l1, .int .u32 p.l2], .int .i64 0, undef, undef, .int .i64 0] (by kernel_rfl) rfl (by kernel_rfl) rfl rfl rfl rfl rfl rfl (by kernel_rfl) (by kernel_rfl) rfl (by simp [Value.oneCell']) (by kernel_rfl) ?_ ?_
  · intro w ρ
    simp [execOp, go_sem]
  intro fin hfin
  simp [lexPut, val, kind1, Act.put] at hfin
  refine ⟨fun n => by rw [hfin]; rfl, ⟨fun _ n => tells_load rfl (by rw [hfin]; rfl) h11.drew.one Try.underlying26 rfl (by kernel_rfl),
      fun _ n => tells_call rfl (by rw [hfin]; simp [Act.eval]) rfl Try.func9 (by kernel_rfl) (by kernel_rfl) (to_any p),
      fun _ n => tells_load rfl (by rw [hfin]; rfl) (show Whole u7.drew m6 _ _ from OV) Try.underlying32 rfl (by kernel_rfl),
      fun _ n => tells_call rfl (by rw [hfin]; simp [Act.eval]) rfl Try.func11 (by kernel_rfl) (by kernel_rfl) T4.out,
      fun _ n => tells_move rfl (by rw [hfin]; rfl),
      fun _ n => tells_extract rfl (by rw [hfin]; rfl) rfl,
      fun _ n => tells_extract rfl (by rw [hfin]; rfl) rfl,
      (fun h => by simp [kind1] at h),
      (fun h => by simp [kind1] at h),
      fun _ n => tells_assign rfl (by rw [hfin]; rfl), trivial⟩, ?_⟩
  intro n u8 m8 hm hb8 OD hlt
  rw [hfin, hm]
  clear hfin hm n fin
  have OC := OC.below hb8 OC.inside
  have h12 := h11.below hb8
  clear hb8 h11 OV hlt
  have eq := fun W => (run_eqPR p p W).trans (by rw [eqP_self])
  go_wp2_with fail
  obtain ⟨p1, p2, p3⟩ := h12.since
  have c1 : ∀ (x : Since u8) (i : Nat), x.1.cell? ⟨m7, i, none⟩ = _ := fun x i => (OC.below x.2 OC.inside).read i
  have d1 : ∀ (x : Since u8) (i : Nat), x.1.cell? ⟨m8, i, none⟩ = _ := fun x i => (OD.below x.2 OD.inside).read i
  refine region_since u8 (by kernel_rfl) (by kernel_rfl) (Below.refl _ _) ?_
  repeat (go_big_quiet_step ((go_at_call 13; with_reducible exact since_call (from_any p) _)))
  refine wpQuiet_nil ?_
  rintro w4 ⟨x, hw⟩
  have H' := h12.below (hw ▸ x.2)
  clear hw x p1 p2 p3 c1 d1 h12
  go_wp2_with fail
  go_ret
  exact ⟨by first | rfl | simp, H'.old⟩
set_option maxRecDepth 100000 in
set_option maxHeartbeats 8000000 in
theorem walk2 (p q s : Pa) (i : p.In) (j : q.In) (k : s.In) (z : chkP p = 0) (n : thenE p q = 0 ∧ thenE q s ≠ 0) (w : World) : Calls Try.prog 4 #[.agg #[.int .i64 p.f, .int .i64 p.k, .int .u32 p.p0, .int .u32 p.p1, .int .u32 p.p2, .int .u32 p.p3, .int .i64 p.u, .int .u32 p.l0, .int .u32 p.l1, .int .u32 p.l2], .agg #[.int .i64 q.f, .int .i64 q.k, .int .u32 q.p0, .int .u32 q.p1, .int .u32 q.p2, .int .u32 q.p3, .int .i64 q.u, .int .u32 q.l0, .int .u32 q.l1, .int .u32 q.l2], .agg #[.int .i64 s.f, .int .i64 s.k, .int .u32 s.p0, .int .u32 s.p1, .int .u32 s.p2, .int .u32 s.p3, .int .i64 s.u, .int .u32 s.l0, .int .u32 s.l1, .int .u32 s.l2]] w fun e w' => e = .returned (.bool true) ∧ Below w.heap.size w w' := by
  have h0 := Tri.fresh w 26 26 26 #[.int .i64 p.f, .int .i64 p.k, .int .u32 p.p0, .int .u32 p.p1, .int .u32 p.p2, .int .u32 p.p3, .int .i64 p.u, .int .u32 p.l0, .int .u32 p.l1, .int .u32 p.l2] #[.int .i64 q.f, .int .i64 q.k, .int .u32 q.p0, .int .u32 q.p1, .int .u32 q.p2, .int .u32 q.p3, .int .i64 q.u, .int .u32 q.l0, .int .u32 q.l1, .int .u32 q.l2] #[.int .i64 s.f, .int .i64 s.k, .int .u32 s.p0, .int .u32 s.p1, .int .u32 s.p2, .int .u32 s.p3, .int .i64 s.u, .int .u32 s.l0, .int .u32 s.l1, .int .u32 s.l2]
  have T1 := Lib.hid (then_any p q i j)
  have T2 := Lib.hid (then_any q s j k)
  have K := Lib.hid (chkP_any p i)
  have P1 := then_stay z
  have P2 := stay_then z
  have S1 := Lib.hid (stay_any p.f)
  have S2 := Lib.hid (stay_any (p.k + p.u))
  have L := Lib.hid (to_any' p i)
  rw [show toV p = p.k + p.u by unfold toV; rw [if_pos z]] at L
  have T3 := Lib.hid (then_any (stayV p.f) p (in_stay p.f (chkP_open z).1.1 (by have := chkP_open z; omega)) i)
  have T4 := Lib.hid (then_any p (stayV (p.k + p.u)) i (in_stay _ (by have := chkP_open z; omega) (by have := chkP_open z; omega)))
  rw [P1.1, P1.2] at T3
  rw [P2.1, P2.2] at T4
  rw [show stayE p.f = 0 by unfold stayE; rw [if_pos (by have := chkP_open z; omega)]] at S1
  rw [show stayE (p.k + p.u) = 0 by unfold stayE; rw [if_pos (by have := chkP_open z; omega)]] at S2
  clear P1 P2
  generalize stayV p.f = u at S1 T3
  generalize stayV (p.k + p.u) = v at S2 T4
  generalize p.k + p.u = du at L S2
  rw [z] at K
  generalize thenV p q = a at T1
  generalize thenV q s = b at T2
  rw [n.1] at T1
  have e1 : (thenE q s == 0) = false := by simpa using n.2
  generalize thenE q s = eb at T2 e1
  clear i j k z n
  go_enter Try.func4, Try.ntmps4
  go_wp2_with fail
  refine (works_any _).mono ?_
  rintro e w1 ⟨rfl, b1⟩
  have h1 := h0.below b1
  clear b1 h0
  generalize w.heap.size = g at h1 ⊢
  go_upto_region 3 with fail
  refine region_one2 8 9 129 32 #[.int .i64 0, .int .i64 0, .int .u32 0, .int .u32 0, .int .u32 0, .int .u32 0, .int .i64 0, .int .u32 0, .int .u32 0, .int .u32 0] #[.int .i64 a.f, .int .i64 a.k, .int .u32 a.p0, .int .u32 a.p1, .int .u32 a.p2, .int .u32 a.p3, .int .i64 a.u, .int .u32 a.l0, .int .u32 a.l1, .int .u32 a.l2]
    [.agg #[.int .i64 p.f, .int .i64 p.k, .int .u32 p.p0, .int .u32 p.p1, .int .u32 p.p2, .int .u32 p.p3, .int .i64 p.u, .int .u32 p.l0, .int .u32 p.l1, .int .u32 p.l2], .agg #[.int .i64 p.f, .int .i64 p.k, .int .u32 p.p0, .int .u32 p.p1, .int .u32 p.p2, .int .u32 p.p3, .int .i64 p.u, .int .u32 p.l0, .int .u32 p.l1, .int .u32 p.l2], .agg #[.int .i64 q.f, .int .i64 q.k, .int .u32 q.p0, .int .u32 q.p1, .int .u32 q.p2, .int .u32 q.p3, .int .i64 q.u, .int .u32 q.l0, .int .u32 q.l1, .int .u32 q.l2], .agg #[.int .i64 q.f, .int .i64 q.k, .int .u32 q.p0, .int .u32 q.p1, .int .u32 q.p2, .int .u32 q.p3, .int .i64 q.u, .int .u32 q.l0, .int .u32 q.l1, .int .u32 q.l2], .tuple #[.agg #[.int .i64 a.f, .int .i64 a.k, .int .u32 a.p0, .int .u32 a.p1, .int .u32 a.p2, .int .u32 a.p3, .int .i64 a.u, .int .u32 a.l0, .int .u32 a.l1, .int .u32 a.l2], .int .i64 0], .tuple #[.agg #[.int .i64 a.f, .int .i64 a.k, .int .u32 a.p0, .int .u32 a.p1, .int .u32 a.p2, .int .u32 a.p3, .int .i64 a.u, .int .u32 a.l0, .int .u32 a.l1, .int .u32 a.l2], .int .i64 0], .agg #[.int .i64 a.f, .int .i64 a.k, .int .u32 a.p0, .int .u32 a.p1, .int .u32 a.p2, .int .u32 a.p3, .int .i64 a.u, .int .u32 a.l0, .int .u32 a.l1, .int .u32 a.l2], .int .i64 0, undef, undef, .int .i64 0] (by kernel_rfl) rfl (by kernel_rfl) rfl rfl rfl rfl rfl rfl (by kernel_rfl) (by kernel_rfl) rfl (by simp [Value.oneCell']) (by kernel_rfl) ?_ ?_
  · intro w ρ
    simp [execOp, go_sem]
  intro fin hfin
  simp [lexPut, val, kind1, Act.put] at hfin
  refine ⟨fun n => by rw [hfin]; rfl, ⟨fun _ n => tells_load rfl (by rw [hfin]; rfl) h1.drew.one Try.underlying26 rfl (by kernel_rfl),
      fun _ n => tells_call rfl (by rw [hfin]; simp [Act.eval]) rfl Try.func9 (by kernel_rfl) (by kernel_rfl) (to_any p),
      fun _ n => tells_load rfl (by rw [hfin]; rfl) h1.drew.two Try.underlying26 rfl (by kernel_rfl),
      fun _ n => tells_call rfl (by rw [hfin]; simp [Act.eval]) rfl Try.func9 (by kernel_rfl) (by kernel_rfl) (to_any q),
      fun _ n => tells_call rfl (by rw [hfin]; simp [Act.eval]) rfl Try.func11 (by kernel_rfl) (by kernel_rfl) T1.out,
      fun _ n => tells_move rfl (by rw [hfin]; rfl),
      fun _ n => tells_extract rfl (by rw [hfin]; rfl) rfl,
      fun _ n => tells_extract rfl (by rw [hfin]; rfl) rfl,
      (fun h => by simp [kind1] at h),
      (fun h => by simp [kind1] at h),
      fun _ n => tells_assign rfl (by rw [hfin]; rfl), trivial⟩, ?_⟩
  intro n w2 m1 hm hb2 OA hlt
  rw [hfin, hm]
  clear hfin hm n fin
  have h2 := h1.below hb2
  have hm1 : g + 1 + 1 < m1 := Nat.lt_of_lt_of_le h1.tre.inside hlt
  clear hlt hb2 h1
  go_upto_region 4 with fail
  refine region_one2 8 9 129 32 #[.int .i64 0, .int .i64 0, .int .u32 0, .int .u32 0, .int .u32 0, .int .u32 0, .int .i64 0, .int .u32 0, .int .u32 0, .int .u32 0] #[.int .i64 b.f, .int .i64 b.k, .int .u32 b.p0, .int .u32 b.p1, .int .u32 b.p2, .int .u32 b.p3, .int .i64 b.u, .int .u32 b.l0, .int .u32 b.l1, .int .u32 b.l2]
    [.agg #[.int .i64 q.f, .int .i64 q.k, .int .u32 q.p0, .int .u32 q.p1, .int .u32 q.p2, .int .u32 q.p3, .int .i64 q.u, .int .u32 q.l0, .int .u32 q.l1, .int .u32 q.l2], .agg #[.int .i64 q.f, .int .i64 q.k, .int .u32 q.p0, .int .u32 q.p1, .int .u32 q.p2, .int .u32 q.p3, .int .i64 q.u, .int .u32 q.l0, .int .u32 q.l1, .int .u32 q.l2], .agg #[.int .i64 s.f, .int .i64 s.k, .int .u32 s.p0, .int .u32 s.p1, .int .u32 s.p2, .int .u32 s.p3, .int .i64 s.u, .int .u32 s.l0, .int .u32 s.l1, .int .u32 s.l2], .agg #[.int .i64 s.f, .int .i64 s.k, .int .u32 s.p0, .int .u32 s.p1, .int .u32 s.p2, .int .u32 s.p3, .int .i64 s.u, .int .u32 s.l0, .int .u32 s.l1, .int .u32 s.l2], .tuple #[.agg #[.int .i64 b.f, .int .i64 b.k, .int .u32 b.p0, .int .u32 b.p1, .int .u32 b.p2, .int .u32 b.p3, .int .i64 b.u, .int .u32 b.l0, .int .u32 b.l1, .int .u32 b.l2], .int .i64 eb], .tuple #[.agg #[.int .i64 b.f, .int .i64 b.k, .int .u32 b.p0, .int .u32 b.p1, .int .u32 b.p2, .int .u32 b.p3, .int .i64 b.u, .int .u32 b.l0, .int .u32 b.l1, .int .u32 b.l2], .int .i64 eb], .agg #[.int .i64 b.f, .int .i64 b.k, .int .u32 b.p0, .int .u32 b.p1, .int .u32 b.p2, .int .u32 b.p3, .int .i64 b.u, .int .u32 b.l0, .int .u32 b.l1, .int .u32 b.l2], .int .i64 eb, undef, undef, .int .i64 eb] (by kernel_rfl) rfl (by kernel_rfl) rfl rfl rfl rfl rfl rfl (by kernel_rfl) (by kernel_rfl) rfl (by simp [Value.oneCell']) (by kernel_rfl) ?_ ?_
  · intro w ρ
    simp [execOp, go_sem]
  intro fin hfin
  simp [lexPut, val, kind1, Act.put] at hfin
  refine ⟨fun n => by rw [hfin]; rfl, ⟨fun _ n => tells_load rfl (by rw [hfin]; rfl) h2.drew.two Try.underlying26 rfl (by kernel_rfl),
      fun _ n => tells_call rfl (by rw [hfin]; simp [Act.eval]) rfl Try.func9 (by kernel_rfl) (by kernel_rfl) (to_any q),
      fun _ n => tells_load rfl (by rw [hfin]; rfl) h2.drew.tre Try.underlying26 rfl (by kernel_rfl),
      fun _ n => tells_call rfl (by rw [hfin]; simp [Act.eval]) rfl Try.func9 (by kernel_rfl) (by kernel_rfl) (to_any s),
      fun _ n => tells_call rfl (by rw [hfin]; simp [Act.eval]) rfl Try.func11 (by kernel_rfl) (by kernel_rfl) T2.out,
      fun _ n => tells_move rfl (by rw [hfin]; rfl),
      fun _ n => tells_extract rfl (by rw [hfin]; rfl) rfl,
      fun _ n => tells_extract rfl (by rw [hfin]; rfl) rfl,
      (fun h => by simp [kind1] at h),
      (fun h => by simp [kind1] at h),
      fun _ n => tells_assign rfl (by rw [hfin]; rfl), trivial⟩, ?_⟩
  intro n w3 m2 hm hb3 OB hlt
  rw [hfin, hm]
  clear hfin hm n fin
  have h3 := h2.below hb3
  have OA := OA.below hb3 OA.inside
  clear hb3 h2 hlt
  obtain ⟨pc, pd⟩ := all_of h3.one
  go_wp2_with fail
  refine (to_any p _).mono ?_
  rintro e u1 ⟨rfl, c1⟩
  have h6a := h3.below c1
  clear c1 pc pd h3
  go_wp2_with fail
  refine (K.out _).mono ?_
  rintro e u2 ⟨rfl, c2⟩
  have h6 := h6a.below c2
  clear c2 h6a
  obtain ⟨pc, pd⟩ := all_of h6.one
  go_wp2_with fail
  refine (S1.out _).mono ?_
  rintro e u3 ⟨rfl, c3⟩
  have h7 := h6.below c3
  clear c3 pc pd h6
  go_upto_region 13 with fail
  have OU := Whole.fresh u3 32 #[.int .i64 u.f, .int .i64 u.k, .int .u32 u.p0, .int .u32 u.p1, .int .u32 u.p2, .int .u32 u.p3, .int .i64 u.u, .int .u32 u.l0, .int .u32 u.l1, .int .u32 u.l2]
  have h7 := h7.alloc (.cells #[.int .i64 u.f, .int .i64 u.k, .int .u32 u.p0, .int .u32 u.p1, .int .u32 u.p2, .int .u32 u.p3, .int .i64 u.u, .int .u32 u.l0, .int .u32 u.l1, .int .u32 u.l2] 32)
  generalize u3.alloc (.cells #[.int .i64 u.f, .int .i64 u.k, .int .u32 u.p0, .int .u32 u.p1, .int .u32 u.p2, .int .u32 u.p3, .int .i64 u.u, .int .u32 u.l0, .int .u32 u.l1, .int .u32 u.l2] 32) = W at h7 OU ⊢
  generalize u3.heap.size = m5 at OU ⊢
  obtain ⟨pc, pd⟩ := all_of h7.one
  go_wp2_with fail
  refine (to_any p _).mono ?_
  rintro e u4 ⟨rfl, c4⟩
  have OU := OU.below c4 OU.inside
  have h8 := h7.below c4
  clear c4 pc pd h7
  go_wp2_with fail
  refine (L.out _).mono ?_
  rintro e u5 ⟨rfl, c5⟩
  have OU := OU.below c5 OU.inside
  have h9 := h8.below c5
  clear c5 h8
  go_wp2_with fail
  refine (S2.out _).mono ?_
  rintro e u6 ⟨rfl, c6⟩
  have OU := OU.below c6 OU.inside
  have h10 := h9.below c6
  clear c6 h9
  go_upto_region 14 with fail
  have OU := OU.alloc (.cells #[.int .i64 v.f, .int .i64 v.k, .int .u32 v.p0, .int .u32 v.p1, .int .u32 v.p2, .int .u32 v.p3, .int .i64 v.u, .int .u32 v.l0, .int .u32 v.l1, .int .u32 v.l2] 32)
  have OV := Whole.fresh u6 32 #[.int .i64 v.f, .int .i64 v.k, .int .u32 v.p0, .int .u32 v.p1, .int .u32 v.p2, .int .u32 v.p3, .int .i64 v.u, .int .u32 v.l0, .int .u32 v.l1, .int .u32 v.l2]
  have h10 := h10.alloc (.cells #[.int .i64 v.f, .int .i64 v.k, .int .u32 v.p0, .int .u32 v.p1, .int .u32 v.p2, .int .u32 v.p3, .int .i64 v.u, .int .u32 v.l0, .int .u32 v.l1, .int .u32 v.l2] 32)
  generalize u6.alloc (.cells #[.int .i64 v.f, .int .i64 v.k, .int .u32 v.p0, .int .u32 v.p1, .int .u32 v.p2, .int .u32 v.p3, .int .i64 v.u, .int .u32 v.l0, .int .u32 v.l1, .int .u32 v.l2] 32) = W at h10 OU OV ⊢
  generalize u6.heap.size = m6 at OV ⊢
  refine region_one2 7 8 129 32 #[.int .i64 0, .int .i64 0, .int .u32 0, .int .u32 0, .int .u32 0, .int .u32 0, .int .i64 0, .int .u32 0, .int .u32 0, .int .u32 0] #[.int .i64 p.f, .int .i64 p.k, .int .u32 p.p0, .int .u32 p.p1, .int .u32 p.p2, .int .u32 p.p3, .int .i64 p.u, .int .u32 p.l0, .int .u32 p.l1, .int .u32 p.l2]
    [.agg #[.int .i64 u.f, .int .i64 u.k, .int .u32 u.p0, .int .u32 u.p1, .int .u32 u.p2, .int .u32 u.p3, .int .i64 u.u, .int .u32 u.l0, .int .u32 u.l1, .int .u32 u.l2], .agg #[.int .i64 p.f, .int .i64 p.k, .int .u32 p.p0, .int .u32 p.p1, .int .u32 p.p2, .int .u32 p.p3, .int .i64 p.u, .int .u32 p.l0, .int .u32 p.l1, .int .u32 p.l2], .agg #[.int .i64 p.f, .int .i64 p.k, .int .u32 p.p0, .int .u32 p.p1, .int .u32 p.p2, .int .u32 p.p3, .int .i64 p.u, .int .u32 p.l0, .int .u32 p.l1, .int .u32 p.l2], .tuple #[.agg #[.int .i64 p.f, .int .i64 p.k, .int .u32 p.p0, .int .u32 p.p1, .int .u32 p.p2, .int .u32 p.p3, .int .i64 p.u, .int .u32 p.l0, .int .u32 p.l1, .int .u32 p.l2], .int .i64 0], .tuple #[.agg #[.int .i64 p.f, .int .i64 p.k, .int .u32 p.p0, .int .u32 p.p1, .int .u32 p.p2, .int .u32 p.p3, .int .i64 p.u, .int .u32 p.l0, .int .u32 p.l1, .int .u32 p.l2], .int .i64 0], .agg #[.int .i64 p.f, .int .i64 p.k, .int .u32 p.p0, .int .u32 p.p1, .int .u32 p.p2, .int .u32 p.p3, .int .i64 p.u, .int .u32 p.l0, .int .u32 p.l1, .int .u32 p.l2], .int .i64 0, undef, undef, .int .i64 0] (by kernel_rfl) rfl (by kernel_rfl) rfl rfl rfl rfl rfl rfl (by kernel_rfl) (by kernel_rfl) rfl (by simp [Value.oneCell']) (by kernel_rfl) ?_ ?_
  · intro w ρ
    simp [execOp, go_sem]
  intro fin hfin
  simp [lexPut, val, kind1, Act.put] at hfin
  refine ⟨fun n => by rw [hfin]; rfl, ⟨fun _ n => tells_load rfl (by rw [hfin]; rfl) (show Whole W.drew m5 _ _ from OU) Try.underlying32 rfl (by kernel_rfl),
      fun _ n => tells_load rfl (by rw [hfin]; rfl) h10.drew.one Try.underlying26 rfl (by kernel_rfl),
      fun _ n => tells_call rfl (by rw [hfin]; simp [Act.eval]) rfl Try.func9 (by kernel_rfl) (by kernel_rfl) (to_any p),
      fun _ n => tells_call rfl (by rw [hfin]; simp [Act.eval]) rfl Try.func11 (by kernel_rfl) (by kernel_rfl) T3.out,
      fun _ n => tells_move rfl (by rw [hfin]; rfl),
      fun _ n => tells_extract rfl (by rw [hfin]; rfl) rfl,
      fun _ n => tells_extract rfl (by rw [hfin]; rfl) rfl,
      (fun h => by simp [kind1] at h),
      (fun h => by simp [kind1] at h),
      fun _ n => tells_assign rfl (by rw [hfin]; rfl), trivial⟩, ?_⟩
  intro n u7 m7 hm hb7 OC hlt
  rw [hfin, hm]
  clear hfin hm n fin
  have OV := OV.below hb7 OV.inside
  have h11 := h10.below hb7
  clear hb7 h10 OU hlt
  go_upto_region 15 with fail
  refine region_one2 7 8 129 32 #[.int .i64 0, .int .i64 0, .int .u32 0, .int .u32 0, .int .u32 0, .int .u32 0, .int .i64 0, .int .u32 0, .int .u32 0, .int .u32 0] #[.int .i64 p.f, .int .i64 p.k, .int .u32 p.p0, .int .u32 p.p1, .int .u32 p.p2, .int .u32 p.p3, .int .i64 p.u, .int .u32 p.l0, .int .u32 p.l1, .int .u32 p.l2]
    [.agg #[.int .i64 p.f, .int .i64 p.k, .int .u32 p.p0, .int .u32 p.p1, .int .u32 p.p2, .int .u32 p.p3, .int .i64 p.u, .int .u32 p.l0, .int .u32 p.l1, .int .u32 p.l2], .agg #[.int .i64 p.f, .int .i64 p.k, .int .u32 p.p0, .int .u32 p.p1, .int .u32 p.p2, .int .u32 p.p3, .int .i64 p.u, .int .u32 p.l0, .int .u32 p.l1, .int .u32 p.l2], .agg #[.int .i64 v.f, .int .i64 v.k, .int .u32 v.p0, .int .u32 v.p1, .int .u32 v.p2, .int .u32 v.p3, .int .i64 v.u, .int .u32 v.l0, .int .u32 v.l1, .int .u32 v.l2], .tuple #[.agg #[.int .i64 p.f, .int .i64 p.k, .int .u32 p.p0, .int .u32 p.p1, .int .u32 p.p2, .int .u32 p.p3, .int .i64 p.u, .int .u32 p.l0, .int .u32 p.l1, .int .u32 p.l2], .int .i64 0], .tuple #[.agg #[.int .i64 p.f, .int .i64 p.k, .int .u32 p.p0, .int .u32 p.p1, .int .u32 p.p2, .int .u32 p.p3, .int .i64 p.u, .int .u32 p.l0, .int .u32 p.l1, .int .u32 p.l2], .int .i64 0], .agg #[.int .i64 p.f, .int .i64 p.k, .int .u32 p.p0, .int .u32 p.p1, .int .u32 p.p2, .int .u32 p.p3, .int .i64 p.u, .int .u32 p.l0, .int .u32 p.l1, .int .u32 p.l2], .int .i64 0, undef, undef, .int .i64 0] (by kernel_rfl) rfl (by kernel_rfl) rfl rfl rfl rfl rfl rfl (by kernel_rfl) (by kernel_rfl) rfl (by simp [Value.oneCell']) (by kernel_rfl) ?_ ?_
  · intro w ρ
    simp [execOp, go_sem]
  intro fin hfin
  simp [lexPut, val, kind1, Act.put] at hfin
  refine ⟨fun n => by rw [hfin]; rfl, ⟨fun _ n => tells_load rfl (by rw [hfin]; rfl) h11.drew.one Try.underlying26 rfl (by kernel_rfl),
      fun _ n => tells_call rfl (by rw [hfin]; simp [Act.eval]) rfl Try.func9 (by kernel_rfl) (by kernel_rfl) (to_any p),
      fun _ n => tells_load rfl (by rw [hfin]; rfl) (show Whole u7.drew m6 _ _ from OV) Try.underlying32 rfl (by kernel_rfl),
      fun _ n => tells_call rfl (by rw [hfin]; simp [Act.eval]) rfl Try.func11 (by kernel_rfl) (by kernel_rfl) T4.out,
      fun _ n => tells_move rfl (by rw [hfin]; rfl),
      fun _ n => tells_extract rfl (by rw [hfin]; rfl) rfl,
      fun _ n => tells_extract rfl (by rw [hfin]; rfl) rfl,
      (fun h => by simp [kind1] at h),
      (fun h => by simp [kind1] at h),
      fun _ n => tells_assign rfl (by rw [hfin]; rfl), trivial⟩, ?_⟩
  intro n u8 m8 hm hb8 OD hlt
  rw [hfin, hm]
  clear hfin hm n fin
  have OC := OC.below hb8 OC.inside
  have h12 := h11.below hb8
  clear hb8 h11 OV hlt
  have eq := fun W => (run_eqPR p p W).trans (by rw [eqP_self])
  go_wp2_with fail
  obtain ⟨p1, p2, p3⟩ := h12.since
  have c1 : ∀ (x : Since u8) (i : Nat), x.1.cell? ⟨m7, i, none⟩ = _ := fun x i => (OC.below x.2 OC.inside).read i
  have d1 : ∀ (x : Since u8) (i : Nat), x.1.cell? ⟨m8, i, none⟩ = _ := fun x i => (OD.below x.2 OD.inside).read i
  refine region_since u8 (by kernel_rfl) (by kernel_rfl) (Below.refl _ _) ?_
  repeat (go_big_quiet_step ((go_at_call 13; with_reducible exact since_call (from_any p) _)))
  refine wpQuiet_nil ?_
  rintro w4 ⟨x, hw⟩
  have H' := h12.below (hw ▸ x.2)
  clear hw x p1 p2 p3 c1 d1 h12
  go_wp2_with fail
  go_ret
  exact ⟨by first | rfl | simp, H'.old⟩
end Go.Proofs.Ytilkdpobkcocoaa.pathBrackets
