/-
  LE is an order of paths; Compare is one of all, and tells them apart; no condition.
-/
import Derived.Test.YtilkdpobkcocoaaIn
import Derived.Test.YtilkdpobkcocoaaNe
import Derived.Test.YtilkdpobkcocoaaRg3
import Derived.Test.YtilkdpobkcocoaaCm
namespace Go.Proofs.Ytilkdpobkcocoaa.pathOrder
open Go.ChangeShapes Go.WideShapes Go.ChangeAt Go.RowKit
open Go.Proofs.Ytilkdpobkcocoaa.tm Go.Proofs.Ytilkdpobkcocoaa.opened Go.Proofs.Ytilkdpobkcocoaa.block Go.Proofs.Ytilkdpobkcocoaa.stamp Go.Proofs.Ytilkdpobkcocoaa.pa Go.Proofs.Ytilkdpobkcocoaa.path Go.Proofs.Ytilkdpobkcocoaa.region

/-- Three paths as they came in, and the program's own ones. -/
structure Sx (w wx : World) (g m1 m2 m3 : Nat) (p q s : Pa) : Prop where
  tri : Tri w wx g 26 26 26 #[.int .i64 p.f, .int .i64 p.k, .int .u32 p.p0, .int .u32 p.p1, .int .u32 p.p2, .int .u32 p.p3, .int .i64 p.u, .int .u32 p.l0, .int .u32 p.l1, .int .u32 p.l2] #[.int .i64 q.f, .int .i64 q.k, .int .u32 q.p0, .int .u32 q.p1, .int .u32 q.p2, .int .u32 q.p3, .int .i64 q.u, .int .u32 q.l0, .int .u32 q.l1, .int .u32 q.l2] #[.int .i64 s.f, .int .i64 s.k, .int .u32 s.p0, .int .u32 s.p1, .int .u32 s.p2, .int .u32 s.p3, .int .i64 s.u, .int .u32 s.l0, .int .u32 s.l1, .int .u32 s.l2]
  a : Whole wx m1 32 #[.int .i64 p.f, .int .i64 p.k, .int .u32 p.p0, .int .u32 p.p1, .int .u32 p.p2, .int .u32 p.p3, .int .i64 p.u, .int .u32 p.l0, .int .u32 p.l1, .int .u32 p.l2]
  b : Whole wx m2 32 #[.int .i64 q.f, .int .i64 q.k, .int .u32 q.p0, .int .u32 q.p1, .int .u32 q.p2, .int .u32 q.p3, .int .i64 q.u, .int .u32 q.l0, .int .u32 q.l1, .int .u32 q.l2]
  c : Whole wx m3 32 #[.int .i64 s.f, .int .i64 s.k, .int .u32 s.p0, .int .u32 s.p1, .int .u32 s.p2, .int .u32 s.p3, .int .i64 s.u, .int .u32 s.l0, .int .u32 s.l1, .int .u32 s.l2]
theorem Sx.below {w wx w1 : World} {g m1 m2 m3 : Nat} {p q s : Pa} (h : Sx w wx g m1 m2 m3 p q s) (k : Below wx.heap.size wx w1) : Sx w w1 g m1 m2 m3 p q s := ⟨h.tri.below k, h.a.below k h.a.inside, h.b.below k h.b.inside, h.c.below k h.c.inside⟩
theorem Sx.since {w W : World} {g m1 m2 m3 : Nat} {p q s : Pa} (h : Sx w W g m1 m2 m3 p q s) : (∀ (x : Since W) (i : Nat), x.1.cell? ⟨m1, i, none⟩ = (#[.int .i64 p.f, .int .i64 p.k, .int .u32 p.p0, .int .u32 p.p1, .int .u32 p.p2, .int .u32 p.p3, .int .i64 p.u, .int .u32 p.l0, .int .u32 p.l1, .int .u32 p.l2] : Array Value)[i]?) ∧ (∀ (x : Since W) (i : Nat), x.1.cell? ⟨m2, i, none⟩ = (#[.int .i64 q.f, .int .i64 q.k, .int .u32 q.p0, .int .u32 q.p1, .int .u32 q.p2, .int .u32 q.p3, .int .i64 q.u, .int .u32 q.l0, .int .u32 q.l1, .int .u32 q.l2] : Array Value)[i]?) :=
  ⟨fun x i => (h.a.below x.2 h.a.inside).read i, fun x i => (h.b.below x.2 h.b.inside).read i⟩
theorem le_of {s t : Pa} {v : Bool} (i : s.In) (j : t.In) (h : lePB s t = v) : Hid (∀ W, Calls Try.prog 18 #[.agg #[.int .i64 s.f, .int .i64 s.k, .int .u32 s.p0, .int .u32 s.p1, .int .u32 s.p2, .int .u32 s.p3, .int .i64 s.u, .int .u32 s.l0, .int .u32 s.l1, .int .u32 s.l2], .agg #[.int .i64 t.f, .int .i64 t.k, .int .u32 t.p0, .int .u32 t.p1, .int .u32 t.p2, .int .u32 t.p3, .int .i64 t.u, .int .u32 t.l0, .int .u32 t.l1, .int .u32 t.l2]] W fun e w' => e = .returned (.bool v) ∧ Below W.heap.size W w') := Lib.hid (h ▸ lep_any s t i j)
theorem cmp_of {s t : Pa} {v : Int} (h : cmpP s t = v) : Hid (∀ W, Calls Try.prog 19 #[.agg #[.int .i64 s.f, .int .i64 s.k, .int .u32 s.p0, .int .u32 s.p1, .int .u32 s.p2, .int .u32 s.p3, .int .i64 s.u, .int .u32 s.l0, .int .u32 s.l1, .int .u32 s.l2], .agg #[.int .i64 t.f, .int .i64 t.k, .int .u32 t.p0, .int .u32 t.p1, .int .u32 t.p2, .int .u32 t.p3, .int .i64 t.u, .int .u32 t.l0, .int .u32 t.l1, .int .u32 t.l2]] W fun e w' => e = .returned (.int .i64 v) ∧ Below W.heap.size W w') := Lib.hid (h ▸ cmpP_any s t)
theorem chk_of' {s : Pa} {v : Int} (i : s.In) (h : chkP s = v) : Hid (∀ W, Calls Try.prog 15 #[.agg #[.int .i64 s.f, .int .i64 s.k, .int .u32 s.p0, .int .u32 s.p1, .int .u32 s.p2, .int .u32 s.p3, .int .i64 s.u, .int .u32 s.l0, .int .u32 s.l1, .int .u32 s.l2]] W fun e w' => e = .returned (.int .i64 v) ∧ Below W.heap.size W w') := Lib.hid (h ▸ chkP_any s i)

set_option maxRecDepth 100000 in
set_option maxHeartbeats 8000000 in
theorem walk (p q s : Pa) (i : p.In) (j : q.In) (k : s.In) (w : World) : Calls Try.prog 5 #[.agg #[.int .i64 p.f, .int .i64 p.k, .int .u32 p.p0, .int .u32 p.p1, .int .u32 p.p2, .int .u32 p.p3, .int .i64 p.u, .int .u32 p.l0, .int .u32 p.l1, .int .u32 p.l2], .agg #[.int .i64 q.f, .int .i64 q.k, .int .u32 q.p0, .int .u32 q.p1, .int .u32 q.p2, .int .u32 q.p3, .int .i64 q.u, .int .u32 q.l0, .int .u32 q.l1, .int .u32 q.l2], .agg #[.int .i64 s.f, .int .i64 s.k, .int .u32 s.p0, .int .u32 s.p1, .int .u32 s.p2, .int .u32 s.p3, .int .i64 s.u, .int .u32 s.l0, .int .u32 s.l1, .int .u32 s.l2]] w fun e w' => e = .returned (.bool true) ∧ Below w.heap.size w w' := by
  have h0 := Tri.fresh w 26 26 26 #[.int .i64 p.f, .int .i64 p.k, .int .u32 p.p0, .int .u32 p.p1, .int .u32 p.p2, .int .u32 p.p3, .int .i64 p.u, .int .u32 p.l0, .int .u32 p.l1, .int .u32 p.l2] #[.int .i64 q.f, .int .i64 q.k, .int .u32 q.p0, .int .u32 q.p1, .int .u32 q.p2, .int .u32 q.p3, .int .i64 q.u, .int .u32 q.l0, .int .u32 q.l1, .int .u32 q.l2] #[.int .i64 s.f, .int .i64 s.k, .int .u32 s.p0, .int .u32 s.p1, .int .u32 s.p2, .int .u32 s.p3, .int .i64 s.u, .int .u32 s.l0, .int .u32 s.l1, .int .u32 s.l2]
  go_enter Try.func5, Try.ntmps5
  go_wp2_with fail
  refine (works_any _).mono ?_
  rintro e w1 ⟨rfl, b1⟩
  have h1 := h0.below b1
  clear b1 h0
  generalize w.heap.size = g at h1 ⊢
  go_upto_region 3 with fail
  refine region_vars 92 [⟨6, 9, 32, #[.int .i64 0, .int .i64 0, .int .u32 0, .int .u32 0, .int .u32 0, .int .u32 0, .int .i64 0, .int .u32 0, .int .u32 0, .int .u32 0], #[.int .i64 p.f, .int .i64 p.k, .int .u32 p.p0, .int .u32 p.p1, .int .u32 p.p2, .int .u32 p.p3, .int .i64 p.u, .int .u32 p.l0, .int .u32 p.l1, .int .u32 p.l2]⟩, ⟨7, 10, 32, #[.int .i64 0, .int .i64 0, .int .u32 0, .int .u32 0, .int .u32 0, .int .u32 0, .int .i64 0, .int .u32 0, .int .u32 0, .int .u32 0], #[.int .i64 q.f, .int .i64 q.k, .int .u32 q.p0, .int .u32 q.p1, .int .u32 q.p2, .int .u32 q.p3, .int .i64 q.u, .int .u32 q.l0, .int .u32 q.l1, .int .u32 q.l2]⟩, ⟨8, 11, 32, #[.int .i64 0, .int .i64 0, .int .u32 0, .int .u32 0, .int .u32 0, .int .u32 0, .int .i64 0, .int .u32 0, .int .u32 0, .int .u32 0], #[.int .i64 s.f, .int .i64 s.k, .int .u32 s.p0, .int .u32 s.p1, .int .u32 s.p2, .int .u32 s.p3, .int .i64 s.u, .int .u32 s.l0, .int .u32 s.l1, .int .u32 s.l2]⟩]
    [.agg #[.int .i64 p.f, .int .i64 p.k, .int .u32 p.p0, .int .u32 p.p1, .int .u32 p.p2, .int .u32 p.p3, .int .i64 p.u, .int .u32 p.l0, .int .u32 p.l1, .int .u32 p.l2], .agg #[.int .i64 p.f, .int .i64 p.k, .int .u32 p.p0, .int .u32 p.p1, .int .u32 p.p2, .int .u32 p.p3, .int .i64 p.u, .int .u32 p.l0, .int .u32 p.l1, .int .u32 p.l2], .agg #[.int .i64 q.f, .int .i64 q.k, .int .u32 q.p0, .int .u32 q.p1, .int .u32 q.p2, .int .u32 q.p3, .int .i64 q.u, .int .u32 q.l0, .int .u32 q.l1, .int .u32 q.l2], .agg #[.int .i64 q.f, .int .i64 q.k, .int .u32 q.p0, .int .u32 q.p1, .int .u32 q.p2, .int .u32 q.p3, .int .i64 q.u, .int .u32 q.l0, .int .u32 q.l1, .int .u32 q.l2], .agg #[.int .i64 s.f, .int .i64 s.k, .int .u32 s.p0, .int .u32 s.p1, .int .u32 s.p2, .int .u32 s.p3, .int .i64 s.u, .int .u32 s.l0, .int .u32 s.l1, .int .u32 s.l2], .agg #[.int .i64 s.f, .int .i64 s.k, .int .u32 s.p0, .int .u32 s.p1, .int .u32 s.p2, .int .u32 s.p3, .int .i64 s.u, .int .u32 s.l0, .int .u32 s.l1, .int .u32 s.l2], undef, undef, undef, undef, undef, undef] (by kernel_rfl) rfl (by kernel_rfl) (show List.Nodup ([6, 7, 8, 9, 10, 11] : List Nat) from by decide) (by rfl) ?_
  intro fin hfin
  simp [lexPut, val, kindL, Act.put] at hfin
  have hr : ∀ (o : Oper) (w : World) (ρ : Operand → Value), o.op = .alloc 32 → (execOp ρ o).run Try.prog w = .ok (.value (.pointer (some ⟨w.heap.size, 0, none⟩))) (w.alloc (.cells #[.int .i64 0, .int .i64 0, .int .u32 0, .int .u32 0, .int .u32 0, .int .u32 0, .int .i64 0, .int .u32 0, .int .u32 0, .int .u32 0] 32)) := by
    intro o w ρ ho
    simp [execOp, ho, go_sem]
  refine ⟨?_, ⟨fun _ n => tells_load rfl (by rw [hfin]; rfl) h1.drew.one Try.underlying26 rfl (by kernel_rfl),
      fun _ n => tells_call rfl (by rw [hfin]; simp [Act.eval]) rfl Try.func9 (by kernel_rfl) (by kernel_rfl) (to_any p),
      fun _ n => tells_load rfl (by rw [hfin]; rfl) h1.drew.two Try.underlying26 rfl (by kernel_rfl),
      fun _ n => tells_call rfl (by rw [hfin]; simp [Act.eval]) rfl Try.func9 (by kernel_rfl) (by kernel_rfl) (to_any q),
      fun _ n => tells_load rfl (by rw [hfin]; rfl) h1.drew.tre Try.underlying26 rfl (by kernel_rfl),
      fun _ n => tells_call rfl (by rw [hfin]; simp [Act.eval]) rfl Try.func9 (by kernel_rfl) (by kernel_rfl) (to_any s),
      (fun h => by simp [kindL] at h),
      (fun h => by simp [kindL] at h),
      (fun h => by simp [kindL] at h),
      (fun h => by simp [kindL] at h),
      (fun h => by simp [kindL] at h),
      (fun h => by simp [kindL] at h), trivial⟩, ?_⟩
  · intro x hx
    simp only [List.mem_cons, List.not_mem_nil, or_false] at hx
    rcases hx with rfl | rfl | rfl
    all_goals exact ⟨_, _, _, _, _, rfl, rfl, rfl, rfl, rfl, by kernel_rfl, fun w ρ => hr _ w ρ rfl, fun n => by rw [hfin]; rfl, by kernel_rfl, rfl, by simp [Value.oneCell']⟩
  intro n w2 hb hx
  obtain ⟨x1, x2, x3⟩ : Whole w2 (n 6) 32 #[.int .i64 p.f, .int .i64 p.k, .int .u32 p.p0, .int .u32 p.p1, .int .u32 p.p2, .int .u32 p.p3, .int .i64 p.u, .int .u32 p.l0, .int .u32 p.l1, .int .u32 p.l2] ∧ Whole w2 (n 7) 32 #[.int .i64 q.f, .int .i64 q.k, .int .u32 q.p0, .int .u32 q.p1, .int .u32 q.p2, .int .u32 q.p3, .int .i64 q.u, .int .u32 q.l0, .int .u32 q.l1, .int .u32 q.l2] ∧ Whole w2 (n 8) 32 #[.int .i64 s.f, .int .i64 s.k, .int .u32 s.p0, .int .u32 s.p1, .int .u32 s.p2, .int .u32 s.p3, .int .i64 s.u, .int .u32 s.l0, .int .u32 s.l1, .int .u32 s.l2] := ⟨(hx _ (.head _)).1, (hx _ (.tail _ (.head _))).1, (hx _ (.tail _ (.tail _ (.head _)))).1⟩
  clear hx
  rw [hfin]
  clear hfin fin hr
  have h2 : Sx w w2 g (n 6) (n 7) (n 8) p q s := ⟨h1.below hb, x1, x2, x3⟩
  clear x1 x2 x3 hb h1
  generalize n 6 = m1 at h2 ⊢
  generalize n 7 = m2 at h2 ⊢
  generalize n 8 = m3 at h2 ⊢
  clear n
  go_upto_region 4 with fail
  go_cut [57] from 10 to 57 (fun sv wx => sv = .bool false ∧ Sx w wx g m1 m2 m3 p q s)
  case first =>
    obtain ⟨ac, ad⟩ := all_of h2.a
    obtain ⟨bc, bd⟩ := all_of h2.b
    obtain ⟨cc, cd⟩ := all_of h2.c
    obtain ⟨pc, pd⟩ := all_of h2.tri.one
    obtain ⟨qc, qd⟩ := all_of h2.tri.two
    go_wp2_with fail
    by_cases v1 : lePB p q = true
    · have z := (leP_iff.1 v1).1
      have C := chk_of' i z
      have L1 := le_of i j v1
      have L5 := le_of i i (leP_refl z)
      clear z
      by_cases v2 : lePB q s = true
      · have L2 := le_of j k v2
        have L3 := le_of i k (leP_trans v1 v2)
        by_cases v4 : lePB q p = true
        · obtain rfl : p = q := leP_anti v1 v4
          have NE := fun W => (run_nePR p p W).trans (by rw [eqP_self])
          clear v1 v2 v4
          refine (L1.out _).mono ?_
          rintro e v11 ⟨rfl, b11⟩
          have h11 := h2.below b11
          clear ac ad bc bd cc cd pc pd qc qd
          clear b11 h2
          obtain ⟨ac, ad⟩ := all_of h11.a
          obtain ⟨bc, bd⟩ := all_of h11.b
          obtain ⟨cc, cd⟩ := all_of h11.c
          obtain ⟨pc, pd⟩ := all_of h11.tri.one
          obtain ⟨qc, qd⟩ := all_of h11.tri.two
          go_wp2_with fail
          refine (L2.out _).mono ?_
          rintro e v12 ⟨rfl, b12⟩
          have h12 := h11.below b12
          clear ac ad bc bd cc cd pc pd qc qd
          clear b12 h11
          obtain ⟨ac, ad⟩ := all_of h12.a
          obtain ⟨bc, bd⟩ := all_of h12.b
          obtain ⟨cc, cd⟩ := all_of h12.c
          obtain ⟨pc, pd⟩ := all_of h12.tri.one
          obtain ⟨qc, qd⟩ := all_of h12.tri.two
          go_wp2_with fail
          refine (L3.out _).mono ?_
          rintro e v13 ⟨rfl, b13⟩
          have h13 := h12.below b13
          clear ac ad bc bd cc cd pc pd qc qd
          clear b13 h12
          obtain ⟨ac, ad⟩ := all_of h13.a
          obtain ⟨bc, bd⟩ := all_of h13.b
          obtain ⟨cc, cd⟩ := all_of h13.c
          obtain ⟨pc, pd⟩ := all_of h13.tri.one
          obtain ⟨qc, qd⟩ := all_of h13.tri.two
          go_wp2_with fail
          refine (L1.out _).mono ?_
          rintro e v14 ⟨rfl, b14⟩
          have h14 := h13.below b14
          clear ac ad bc bd cc cd pc pd qc qd
          clear b14 h13
          obtain ⟨ac, ad⟩ := all_of h14.a
          obtain ⟨bc, bd⟩ := all_of h14.b
          obtain ⟨cc, cd⟩ := all_of h14.c
          obtain ⟨pc, pd⟩ := all_of h14.tri.one
          obtain ⟨qc, qd⟩ := all_of h14.tri.two
          go_wp2_with fail
          refine (L1.out _).mono ?_
          rintro e v15 ⟨rfl, b15⟩
          have h15 := h14.below b15
          clear ac ad bc bd cc cd pc pd qc qd
          clear b15 h14
          obtain ⟨ac, ad⟩ := all_of h15.a
          obtain ⟨bc, bd⟩ := all_of h15.b
          obtain ⟨cc, cd⟩ := all_of h15.c
          obtain ⟨pc, pd⟩ := all_of h15.tri.one
          obtain ⟨qc, qd⟩ := all_of h15.tri.two
          go_wp2_with fail
          refine (C.out _).mono ?_
          rintro e v16 ⟨rfl, b16⟩
          have h16 := h15.below b16
          clear ac ad bc bd cc cd pc pd qc qd
          clear b16 h15
          obtain ⟨ac, ad⟩ := all_of h16.a
          obtain ⟨bc, bd⟩ := all_of h16.b
          obtain ⟨cc, cd⟩ := all_of h16.c
          obtain ⟨pc, pd⟩ := all_of h16.tri.one
          obtain ⟨qc, qd⟩ := all_of h16.tri.two
          go_wp2_with fail
          refine (L5.out _).mono ?_
          rintro e v17 ⟨rfl, b17⟩
          have h17 := h16.below b17
          clear ac ad bc bd cc cd pc pd qc qd
          clear b17 h16
          obtain ⟨ac, ad⟩ := all_of h17.a
          obtain ⟨bc, bd⟩ := all_of h17.b
          obtain ⟨cc, cd⟩ := all_of h17.c
          obtain ⟨pc, pd⟩ := all_of h17.tri.one
          obtain ⟨qc, qd⟩ := all_of h17.tri.two
          go_wp2_with fail
          go_meet
          exact ⟨by first | rfl | simp, h17⟩
        · have L4 := le_of j i (Bool.eq_false_iff.2 v4)
          clear v1 v2 v4
          refine (L1.out _).mono ?_
          rintro e v18 ⟨rfl, b18⟩
          have h18 := h2.below b18
          clear ac ad bc bd cc cd pc pd qc qd
          clear b18 h2
          obtain ⟨ac, ad⟩ := all_of h18.a
          obtain ⟨bc, bd⟩ := all_of h18.b
          obtain ⟨cc, cd⟩ := all_of h18.c
          obtain ⟨pc, pd⟩ := all_of h18.tri.one
          obtain ⟨qc, qd⟩ := all_of h18.tri.two
          go_wp2_with fail
          refine (L2.out _).mono ?_
          rintro e v19 ⟨rfl, b19⟩
          have h19 := h18.below b19
          clear ac ad bc bd cc cd pc pd qc qd
          clear b19 h18
          obtain ⟨ac, ad⟩ := all_of h19.a
          obtain ⟨bc, bd⟩ := all_of h19.b
          obtain ⟨cc, cd⟩ := all_of h19.c
          obtain ⟨pc, pd⟩ := all_of h19.tri.one
          obtain ⟨qc, qd⟩ := all_of h19.tri.two
          go_wp2_with fail
          refine (L3.out _).mono ?_
          rintro e v20 ⟨rfl, b20⟩
          have h20 := h19.below b20
          clear ac ad bc bd cc cd pc pd qc qd
          clear b20 h19
          obtain ⟨ac, ad⟩ := all_of h20.a
          obtain ⟨bc, bd⟩ := all_of h20.b
          obtain ⟨cc, cd⟩ := all_of h20.c
          obtain ⟨pc, pd⟩ := all_of h20.tri.one
          obtain ⟨qc, qd⟩ := all_of h20.tri.two
          go_wp2_with fail
          refine (L1.out _).mono ?_
          rintro e v21 ⟨rfl, b21⟩
          have h21 := h20.below b21
          clear ac ad bc bd cc cd pc pd qc qd
          clear b21 h20
          obtain ⟨ac, ad⟩ := all_of h21.a
          obtain ⟨bc, bd⟩ := all_of h21.b
          obtain ⟨cc, cd⟩ := all_of h21.c
          obtain ⟨pc, pd⟩ := all_of h21.tri.one
          obtain ⟨qc, qd⟩ := all_of h21.tri.two
          go_wp2_with fail
          refine (L4.out _).mono ?_
          rintro e v22 ⟨rfl, b22⟩
          have h22 := h21.below b22
          clear ac ad bc bd cc cd pc pd qc qd
          clear b22 h21
          obtain ⟨ac, ad⟩ := all_of h22.a
          obtain ⟨bc, bd⟩ := all_of h22.b
          obtain ⟨cc, cd⟩ := all_of h22.c
          obtain ⟨pc, pd⟩ := all_of h22.tri.one
          obtain ⟨qc, qd⟩ := all_of h22.tri.two
          go_wp2_with fail
          refine (C.out _).mono ?_
          rintro e v23 ⟨rfl, b23⟩
          have h23 := h22.below b23
          clear ac ad bc bd cc cd pc pd qc qd
          clear b23 h22
          obtain ⟨ac, ad⟩ := all_of h23.a
          obtain ⟨bc, bd⟩ := all_of h23.b
          obtain ⟨cc, cd⟩ := all_of h23.c
          obtain ⟨pc, pd⟩ := all_of h23.tri.one
          obtain ⟨qc, qd⟩ := all_of h23.tri.two
          go_wp2_with fail
          refine (L5.out _).mono ?_
          rintro e v24 ⟨rfl, b24⟩
          have h24 := h23.below b24
          clear ac ad bc bd cc cd pc pd qc qd
          clear b24 h23
          obtain ⟨ac, ad⟩ := all_of h24.a
          obtain ⟨bc, bd⟩ := all_of h24.b
          obtain ⟨cc, cd⟩ := all_of h24.c
          obtain ⟨pc, pd⟩ := all_of h24.tri.one
          obtain ⟨qc, qd⟩ := all_of h24.tri.two
          go_wp2_with fail
          go_meet
          exact ⟨by first | rfl | simp, h24⟩
      · have L2 := le_of j k (Bool.eq_false_iff.2 v2)
        by_cases v4 : lePB q p = true
        · obtain rfl : p = q := leP_anti v1 v4
          have NE := fun W => (run_nePR p p W).trans (by rw [eqP_self])
          clear v1 v2 v4
          refine (L1.out _).mono ?_
          rintro e v25 ⟨rfl, b25⟩
          have h25 := h2.below b25
          clear ac ad bc bd cc cd pc pd qc qd
          clear b25 h2
          obtain ⟨ac, ad⟩ := all_of h25.a
          obtain ⟨bc, bd⟩ := all_of h25.b
          obtain ⟨cc, cd⟩ := all_of h25.c
          obtain ⟨pc, pd⟩ := all_of h25.tri.one
          obtain ⟨qc, qd⟩ := all_of h25.tri.two
          go_wp2_with fail
          refine (L2.out _).mono ?_
          rintro e v26 ⟨rfl, b26⟩
          have h26 := h25.below b26
          clear ac ad bc bd cc cd pc pd qc qd
          clear b26 h25
          obtain ⟨ac, ad⟩ := all_of h26.a
          obtain ⟨bc, bd⟩ := all_of h26.b
          obtain ⟨cc, cd⟩ := all_of h26.c
          obtain ⟨pc, pd⟩ := all_of h26.tri.one
          obtain ⟨qc, qd⟩ := all_of h26.tri.two
          go_wp2_with fail
          refine (L1.out _).mono ?_
          rintro e v27 ⟨rfl, b27⟩
          have h27 := h26.below b27
          clear ac ad bc bd cc cd pc pd qc qd
          clear b27 h26
          obtain ⟨ac, ad⟩ := all_of h27.a
          obtain ⟨bc, bd⟩ := all_of h27.b
          obtain ⟨cc, cd⟩ := all_of h27.c
          obtain ⟨pc, pd⟩ := all_of h27.tri.one
          obtain ⟨qc, qd⟩ := all_of h27.tri.two
          go_wp2_with fail
          refine (L1.out _).mono ?_
          rintro e v28 ⟨rfl, b28⟩
          have h28 := h27.below b28
          clear ac ad bc bd cc cd pc pd qc qd
          clear b28 h27
          obtain ⟨ac, ad⟩ := all_of h28.a
          obtain ⟨bc, bd⟩ := all_of h28.b
          obtain ⟨cc, cd⟩ := all_of h28.c
          obtain ⟨pc, pd⟩ := all_of h28.tri.one
          obtain ⟨qc, qd⟩ := all_of h28.tri.two
          go_wp2_with fail
          refine (C.out _).mono ?_
          rintro e v29 ⟨rfl, b29⟩
          have h29 := h28.below b29
          clear ac ad bc bd cc cd pc pd qc qd
          clear b29 h28
          obtain ⟨ac, ad⟩ := all_of h29.a
          obtain ⟨bc, bd⟩ := all_of h29.b
          obtain ⟨cc, cd⟩ := all_of h29.c
          obtain ⟨pc, pd⟩ := all_of h29.tri.one
          obtain ⟨qc, qd⟩ := all_of h29.tri.two
          go_wp2_with fail
          refine (L5.out _).mono ?_
          rintro e v30 ⟨rfl, b30⟩
          have h30 := h29.below b30
          clear ac ad bc bd cc cd pc pd qc qd
          clear b30 h29
          obtain ⟨ac, ad⟩ := all_of h30.a
          obtain ⟨bc, bd⟩ := all_of h30.b
          obtain ⟨cc, cd⟩ := all_of h30.c
          obtain ⟨pc, pd⟩ := all_of h30.tri.one
          obtain ⟨qc, qd⟩ := all_of h30.tri.two
          go_wp2_with fail
          go_meet
          exact ⟨by first | rfl | simp, h30⟩
        · have L4 := le_of j i (Bool.eq_false_iff.2 v4)
          clear v1 v2 v4
          refine (L1.out _).mono ?_
          rintro e v31 ⟨rfl, b31⟩
          have h31 := h2.below b31
          clear ac ad bc bd cc cd pc pd qc qd
          clear b31 h2
          obtain ⟨ac, ad⟩ := all_of h31.a
          obtain ⟨bc, bd⟩ := all_of h31.b
          obtain ⟨cc, cd⟩ := all_of h31.c
          obtain ⟨pc, pd⟩ := all_of h31.tri.one
          obtain ⟨qc, qd⟩ := all_of h31.tri.two
          go_wp2_with fail
          refine (L2.out _).mono ?_
          rintro e v32 ⟨rfl, b32⟩
          have h32 := h31.below b32
          clear ac ad bc bd cc cd pc pd qc qd
          clear b32 h31
          obtain ⟨ac, ad⟩ := all_of h32.a
          obtain ⟨bc, bd⟩ := all_of h32.b
          obtain ⟨cc, cd⟩ := all_of h32.c
          obtain ⟨pc, pd⟩ := all_of h32.tri.one
          obtain ⟨qc, qd⟩ := all_of h32.tri.two
          go_wp2_with fail
          refine (L1.out _).mono ?_
          rintro e v33 ⟨rfl, b33⟩
          have h33 := h32.below b33
          clear ac ad bc bd cc cd pc pd qc qd
          clear b33 h32
          obtain ⟨ac, ad⟩ := all_of h33.a
          obtain ⟨bc, bd⟩ := all_of h33.b
          obtain ⟨cc, cd⟩ := all_of h33.c
          obtain ⟨pc, pd⟩ := all_of h33.tri.one
          obtain ⟨qc, qd⟩ := all_of h33.tri.two
          go_wp2_with fail
          refine (L4.out _).mono ?_
          rintro e v34 ⟨rfl, b34⟩
          have h34 := h33.below b34
          clear ac ad bc bd cc cd pc pd qc qd
          clear b34 h33
          obtain ⟨ac, ad⟩ := all_of h34.a
          obtain ⟨bc, bd⟩ := all_of h34.b
          obtain ⟨cc, cd⟩ := all_of h34.c
          obtain ⟨pc, pd⟩ := all_of h34.tri.one
          obtain ⟨qc, qd⟩ := all_of h34.tri.two
          go_wp2_with fail
          refine (C.out _).mono ?_
          rintro e v35 ⟨rfl, b35⟩
          have h35 := h34.below b35
          clear ac ad bc bd cc cd pc pd qc qd
          clear b35 h34
          obtain ⟨ac, ad⟩ := all_of h35.a
          obtain ⟨bc, bd⟩ := all_of h35.b
          obtain ⟨cc, cd⟩ := all_of h35.c
          obtain ⟨pc, pd⟩ := all_of h35.tri.one
          obtain ⟨qc, qd⟩ := all_of h35.tri.two
          go_wp2_with fail
          refine (L5.out _).mono ?_
          rintro e v36 ⟨rfl, b36⟩
          have h36 := h35.below b36
          clear ac ad bc bd cc cd pc pd qc qd
          clear b36 h35
          obtain ⟨ac, ad⟩ := all_of h36.a
          obtain ⟨bc, bd⟩ := all_of h36.b
          obtain ⟨cc, cd⟩ := all_of h36.c
          obtain ⟨pc, pd⟩ := all_of h36.tri.one
          obtain ⟨qc, qd⟩ := all_of h36.tri.two
          go_wp2_with fail
          go_meet
          exact ⟨by first | rfl | simp, h36⟩
    · have L1 := le_of i j (Bool.eq_false_iff.2 v1)
      clear v1
      by_cases z : chkP p = 0
      · have C := chk_of' i z
        have L5 := le_of i i (leP_refl z)
        clear z
        refine (L1.out _).mono ?_
        rintro e v37 ⟨rfl, b37⟩
        have h37 := h2.below b37
        clear ac ad bc bd cc cd pc pd qc qd
        clear b37 h2
        obtain ⟨ac, ad⟩ := all_of h37.a
        obtain ⟨bc, bd⟩ := all_of h37.b
        obtain ⟨cc, cd⟩ := all_of h37.c
        obtain ⟨pc, pd⟩ := all_of h37.tri.one
        obtain ⟨qc, qd⟩ := all_of h37.tri.two
        go_wp2_with fail
        refine (L1.out _).mono ?_
        rintro e v38 ⟨rfl, b38⟩
        have h38 := h37.below b38
        clear ac ad bc bd cc cd pc pd qc qd
        clear b38 h37
        obtain ⟨ac, ad⟩ := all_of h38.a
        obtain ⟨bc, bd⟩ := all_of h38.b
        obtain ⟨cc, cd⟩ := all_of h38.c
        obtain ⟨pc, pd⟩ := all_of h38.tri.one
        obtain ⟨qc, qd⟩ := all_of h38.tri.two
        go_wp2_with fail
        refine (C.out _).mono ?_
        rintro e v39 ⟨rfl, b39⟩
        have h39 := h38.below b39
        clear ac ad bc bd cc cd pc pd qc qd
        clear b39 h38
        obtain ⟨ac, ad⟩ := all_of h39.a
        obtain ⟨bc, bd⟩ := all_of h39.b
        obtain ⟨cc, cd⟩ := all_of h39.c
        obtain ⟨pc, pd⟩ := all_of h39.tri.one
        obtain ⟨qc, qd⟩ := all_of h39.tri.two
        go_wp2_with fail
        refine (L5.out _).mono ?_
        rintro e v40 ⟨rfl, b40⟩
        have h40 := h39.below b40
        clear ac ad bc bd cc cd pc pd qc qd
        clear b40 h39
        obtain ⟨ac, ad⟩ := all_of h40.a
        obtain ⟨bc, bd⟩ := all_of h40.b
        obtain ⟨cc, cd⟩ := all_of h40.c
        obtain ⟨pc, pd⟩ := all_of h40.tri.one
        obtain ⟨qc, qd⟩ := all_of h40.tri.two
        go_wp2_with fail
        go_meet
        exact ⟨by first | rfl | simp, h40⟩
      · obtain ⟨x, hx⟩ : ∃ x, chkP p = x := ⟨_, rfl⟩
        have C := chk_of' i hx
        rw [hx] at z
        have kx : (x == 0) = false := by simpa using z
        clear z hx
        refine (L1.out _).mono ?_
        rintro e v41 ⟨rfl, b41⟩
        have h41 := h2.below b41
        clear ac ad bc bd cc cd pc pd qc qd
        clear b41 h2
        obtain ⟨ac, ad⟩ := all_of h41.a
        obtain ⟨bc, bd⟩ := all_of h41.b
        obtain ⟨cc, cd⟩ := all_of h41.c
        obtain ⟨pc, pd⟩ := all_of h41.tri.one
        obtain ⟨qc, qd⟩ := all_of h41.tri.two
        go_wp2_with fail
        refine (L1.out _).mono ?_
        rintro e v42 ⟨rfl, b42⟩
        have h42 := h41.below b42
        clear ac ad bc bd cc cd pc pd qc qd
        clear b42 h41
        obtain ⟨ac, ad⟩ := all_of h42.a
        obtain ⟨bc, bd⟩ := all_of h42.b
        obtain ⟨cc, cd⟩ := all_of h42.c
        obtain ⟨pc, pd⟩ := all_of h42.tri.one
        obtain ⟨qc, qd⟩ := all_of h42.tri.two
        go_wp2_with fail
        refine (C.out _).mono ?_
        rintro e v43 ⟨rfl, b43⟩
        have h43 := h42.below b43
        clear ac ad bc bd cc cd pc pd qc qd
        clear b43 h42
        obtain ⟨ac, ad⟩ := all_of h43.a
        obtain ⟨bc, bd⟩ := all_of h43.b
        obtain ⟨cc, cd⟩ := all_of h43.c
        obtain ⟨pc, pd⟩ := all_of h43.tri.one
        obtain ⟨qc, qd⟩ := all_of h43.tri.two
        go_wp2_with fail
        go_meet
        exact ⟨by first | rfl | simp, h43⟩
  clear h2
  obtain ⟨rfl, h2⟩ := hcut
  go_upto_region 6 with fail
  go_cut [73] from 10 to 73 (fun sv wx => sv = .bool false ∧ Sx w wx g m1 m2 m3 p q s)
  case first =>
    obtain ⟨ac, ad⟩ := all_of h2.a
    obtain ⟨bc, bd⟩ := all_of h2.b
    obtain ⟨cc, cd⟩ := all_of h2.c
    obtain ⟨pc, pd⟩ := all_of h2.tri.one
    obtain ⟨qc, qd⟩ := all_of h2.tri.two
    go_wp2_with fail
    have ht : cmpP p q ≤ 0 → cmpP q s ≤ 0 → cmpP p s ≤ 0 := cmpP_trans
    obtain ⟨x, hx⟩ : ∃ x, cmpP p q = x := ⟨_, rfl⟩
    obtain ⟨y, hy⟩ : ∃ y, cmpP q s = y := ⟨_, rfl⟩
    obtain ⟨u, hu⟩ : ∃ u, cmpP p s = u := ⟨_, rfl⟩
    rw [hx, hy, hu] at ht
    have L1 := cmp_of hx
    have L2 := cmp_of hy
    have L3 := cmp_of hu
    clear hx hy hu
    by_cases p1 : x ≤ 0
    · by_cases p2 : y ≤ 0
      · have p3 : ¬ 0 < u := by have := ht p1 p2; omega
        clear ht
        refine (L1.out _).mono ?_
        rintro e v44 ⟨rfl, b44⟩
        have h44 := h2.below b44
        clear ac ad bc bd cc cd pc pd qc qd
        clear b44 h2
        obtain ⟨ac, ad⟩ := all_of h44.a
        obtain ⟨bc, bd⟩ := all_of h44.b
        obtain ⟨cc, cd⟩ := all_of h44.c
        obtain ⟨pc, pd⟩ := all_of h44.tri.one
        obtain ⟨qc, qd⟩ := all_of h44.tri.two
        go_wp2_with fail
        refine (L2.out _).mono ?_
        rintro e v45 ⟨rfl, b45⟩
        have h45 := h44.below b45
        clear ac ad bc bd cc cd pc pd qc qd
        clear b45 h44
        obtain ⟨ac, ad⟩ := all_of h45.a
        obtain ⟨bc, bd⟩ := all_of h45.b
        obtain ⟨cc, cd⟩ := all_of h45.c
        obtain ⟨pc, pd⟩ := all_of h45.tri.one
        obtain ⟨qc, qd⟩ := all_of h45.tri.two
        go_wp2_with fail
        refine (L3.out _).mono ?_
        rintro e v46 ⟨rfl, b46⟩
        have h46 := h45.below b46
        clear ac ad bc bd cc cd pc pd qc qd
        clear b46 h45
        obtain ⟨ac, ad⟩ := all_of h46.a
        obtain ⟨bc, bd⟩ := all_of h46.b
        obtain ⟨cc, cd⟩ := all_of h46.c
        obtain ⟨pc, pd⟩ := all_of h46.tri.one
        obtain ⟨qc, qd⟩ := all_of h46.tri.two
        go_wp2_with fail
        go_meet
        exact ⟨by first | rfl | simp [p3] | simp [decide_eq_false p3], h46⟩
      · clear ht
        refine (L1.out _).mono ?_
        rintro e v47 ⟨rfl, b47⟩
        have h47 := h2.below b47
        clear ac ad bc bd cc cd pc pd qc qd
        clear b47 h2
        obtain ⟨ac, ad⟩ := all_of h47.a
        obtain ⟨bc, bd⟩ := all_of h47.b
        obtain ⟨cc, cd⟩ := all_of h47.c
        obtain ⟨pc, pd⟩ := all_of h47.tri.one
        obtain ⟨qc, qd⟩ := all_of h47.tri.two
        go_wp2_with fail
        refine (L2.out _).mono ?_
        rintro e v48 ⟨rfl, b48⟩
        have h48 := h47.below b48
        clear ac ad bc bd cc cd pc pd qc qd
        clear b48 h47
        obtain ⟨ac, ad⟩ := all_of h48.a
        obtain ⟨bc, bd⟩ := all_of h48.b
        obtain ⟨cc, cd⟩ := all_of h48.c
        obtain ⟨pc, pd⟩ := all_of h48.tri.one
        obtain ⟨qc, qd⟩ := all_of h48.tri.two
        go_wp2_with fail
        go_meet
        exact ⟨by first | rfl | simp, h48⟩
    · clear ht
      refine (L1.out _).mono ?_
      rintro e v49 ⟨rfl, b49⟩
      have h49 := h2.below b49
      clear ac ad bc bd cc cd pc pd qc qd
      clear b49 h2
      obtain ⟨ac, ad⟩ := all_of h49.a
      obtain ⟨bc, bd⟩ := all_of h49.b
      obtain ⟨cc, cd⟩ := all_of h49.c
      obtain ⟨pc, pd⟩ := all_of h49.tri.one
      obtain ⟨qc, qd⟩ := all_of h49.tri.two
      go_wp2_with fail
      go_meet
      exact ⟨by first | rfl | simp, h49⟩
  clear h2
  obtain ⟨rfl, h2⟩ := hcut
  obtain ⟨x, hx⟩ : ∃ x, cmpP p q = x := ⟨_, rfl⟩
  have L1 := cmp_of hx
  have L2 := cmp_of (cmpP_neg q p)
  rw [hx] at L2
  have hb := cmpP_bound p q
  have hz : x = 0 ↔ p = q := hx ▸ cmpP_zero
  rw [hx] at hb
  clear hx
  have hw : IntKind.i64.wrap (- -x) = x := by
    have : x = -1 ∨ x = 0 ∨ x = 1 := by omega
    rcases this with rfl | rfl | rfl <;> rfl
  have hw2 : IntKind.i64.wrap x = x := by rw [Int.neg_neg] at hw; exact hw
  have EQ := fun W => run_eqPR p q W
  have hq : (x == 0) = eqP p q := by
    rw [Bool.eq_iff_iff]
    simp only [beq_iff_eq, eqP, decide_eq_true_eq]
    exact hz
  clear hb
  generalize eqP p q = r at EQ hq
  go_upto_region 8 with fail
  clear hz hw i j k
  obtain ⟨p1, p2, p3⟩ := h2.tri.since
  obtain ⟨a1, a2⟩ := h2.since
  refine region_since _ (by kernel_rfl) (by kernel_rfl) (Below.refl _ _) ?_
  repeat (go_big_quiet_step ((first | (go_at_call 19; with_reducible exact since_call L1.out _) | (go_at_call 19; with_reducible exact since_call L2.out _))))
  refine wpQuiet_nil ?_
  rintro w4 ⟨x', hw⟩
  have h4 := h2.below (hw ▸ x'.2)
  clear hw x' p1 p2 p3 a1 a2 h2
  go_wp2_with fail
  go_ret
  exact ⟨by first | rfl | simp, h4.tri.old⟩
set_option maxRecDepth 100000 in
theorem told (W : World) (args : Array Value) (h : Fed Try.prog W [26, 26, 26] args) : Calls Try.prog 5 args W fun e W' => e = .returned (.bool true) ∧ Below W.heap.size W W' := by
  obtain ⟨v0, v1, v2, rfl⟩ := args3 h.count
  obtain ⟨⟨_, o0⟩, r0⟩ := h.each 0 26 v0 rfl rfl
  obtain ⟨⟨_, o1⟩, r1⟩ := h.each 1 26 v1 rfl rfl
  obtain ⟨⟨_, o2⟩, r2⟩ := h.each 2 26 v2 rfl rfl
  obtain ⟨a0, q0⟩ := r0 opens_path
  obtain ⟨t0, i0, rfl⟩ := top_path o0 q0
  obtain ⟨a1, q1⟩ := r1 opens_path
  obtain ⟨t1, i1, rfl⟩ := top_path o1 q1
  obtain ⟨a2, q2⟩ := r2 opens_path
  obtain ⟨t2, i2, rfl⟩ := top_path o2 q2
  exact walk t0 t1 t2 i0 i1 i2 W

/-! ### The row -/
theorem own : ownKnob Try.prog.godebug = none := by kernel_rfl
theorem laidOut : laidOutB Try.prog = true := by kernel_rfl
set_option maxRecDepth 100000 in
theorem lifted (os : Os) (started : os.Started) (H : Type) (enc : TypeId × Value → H) :
    ReturnsInHanded {} Try.checked os 5 .any (Rows.pathOrderSpec.pre6 enc Try.prog Try.f5 Rows.pathOrderRow.domain false) (Rows.pathOrderSpec.post enc Try.prog Try.f5 false true false false) :=
  lift (C := Try.checked) (fn := Try.f5) (tb := 4) (ts := [26, 26, 26]) own started (by kernel_rfl) Try.func5 laidOut (by kernel_rfl) (by kernel_rfl) (by kernel_rfl) Try.underlying4 rfl
    (fun ds h => by
      match ds, h with
      | [_, _, _], _ => rfl)
    (ChangeSpec.witness6 (enc := enc) (C := Try.checked) false ⟨#[], #[.agg #[.int .i64 0, .int .i64 0, .int .u32 0, .int .u32 0, .int .u32 0, .int .u32 0, .int .i64 0, .int .u32 0, .int .u32 0, .int .u32 0], .agg #[.int .i64 0, .int .i64 0, .int .u32 0, .int .u32 0, .int .u32 0, .int .u32 0, .int .i64 0, .int .u32 0, .int .u32 0, .int .u32 0], .agg #[.int .i64 0, .int .i64 0, .int .u32 0, .int .u32 0, .int .u32 0, .int .u32 0, .int .i64 0, .int .u32 0, .int .u32 0, .int .u32 0]], []⟩ 8 (by kernel_rfl) (by kernel_rfl) (by kernel_rfl) (by kernel_rfl)) told

theorem over : Rows.pathOrderRow.holds Try.pinned (OpenSpec.ofChange Rows.pathOrderSpec) :=
  OpenClaim.holds_of_wide 5 Try.f5 rfl rfl rfl rfl rfl rfl rfl ⟨rfl, rfl, rfl, rfl, rfl⟩ rfl rfl rfl rfl rfl (by kernel_rfl) Try.func5 (by kernel_rfl)
    (of_decide_eq_true (by kernel_rfl)) (by unfold Func.isWrapper; first | (rw [if_pos (by decide +kernel)]; kernel_rfl) | (rw [if_neg (by decide +kernel)]; exact ⟨rfl, rfl⟩))
    (fun os started H enc _ => lifted os started H enc)

theorem proved : Rows.PathOrderSaid := over
#print axioms proved
end Go.Proofs.Ytilkdpobkcocoaa.pathOrder
