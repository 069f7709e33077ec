/-
  The contract of path.Apply where no sum is too great; and at any path and any time.
-/
import Derived.Test.YtilkdpobkcocoaaApO
namespace Go.Proofs.Ytilkdpobkcocoaa.path
open Go.ChangeShapes Go.WideShapes Go.ChangeAt Go.RowKit
open Go.Proofs.Ytilkdpobkcocoaa.tm Go.Proofs.Ytilkdpobkcocoaa.opened Go.Proofs.Ytilkdpobkcocoaa.block Go.Proofs.Ytilkdpobkcocoaa.stamp Go.Proofs.Ytilkdpobkcocoaa.pa

set_option maxHeartbeats 8000000 in
theorem apply_good (p : Pa) (t : Tm) (i : p.In) (j : t.In) (h : startE p t = 0) (ov : ¬ overT (rawT p t)) (w : World) : Calls Try.prog 8 #[.agg #[.int .i64 p.f, .int .i64 p.k, .int .u32 p.p0, .int .u32 p.p1, .int .u32 p.p2, .int .u32 p.p3, .int .i64 p.u, .int .u32 p.l0, .int .u32 p.l1, .int .u32 p.l2], .agg #[.int .u32 t.e, .int .i64 t.d, .int .u32 t.a, .int .u32 t.b, .int .u32 t.c]] w (GivesT (rawT p t) 0 w) := by
  have C := Lib.hid (start_any p t i j)
  rw [h] at C
  have hz : chkP p = 0 ∧ chk t = 0 := by
    unfold startE at h
    split at h
    · split at h
      · exact ⟨by assumption, by assumption⟩
      · omega
    · omega
  clear h
  obtain ⟨⟨d1, d2, d3, d4, d5, d6⟩, ⟨f1, f2, f3, f4⟩, ⟨g1, g2, g3⟩, -, LU⟩ := chkP_open hz.1
  obtain ⟨-, -, f5, f6, f7, f8, -⟩ := chk_zero hz.2
  clear hz g1 g2 g3
  have i1 := i.p00
  have i2 := i.p10
  have i3 := i.p20
  have i4 := i.p30
  have j1 := j.e0
  have j2 := j.a0
  have j3 := j.b0
  have j4 := j.c0
  have h0 := PTR.fresh w p t
  obtain ⟨f, k, p0, p1, p2, p3, u, l0, l1, l2⟩ := p
  dsimp only at d1 d2 d3 d4 d5 d6 f1 f2 f3 f4 i1 i2 i3 i4 LU h0 C
  have hv : t.e + p0 ≤ 1048576 ∧ (1 ≤ k → t.a + p1 ≤ 1048576) ∧ (2 ≤ k → t.b + p2 ≤ 1048576) ∧ (3 ≤ k → t.c + p3 ≤ 1048576) := by
    unfold overT rawT at ov
    dsimp only at ov
    refine ⟨by omega, fun hk => ?_, fun hk => ?_, fun hk => ?_⟩
    · rw [if_pos hk] at ov; omega
    · rw [if_pos hk] at ov; omega
    · rw [if_pos hk] at ov; omega
  clear ov
  obtain ⟨v0, v1, v2, v3⟩ := hv
  rcases four d3 (by omega) with rfl | rfl | rfl | rfl
  · have h0' : True := trivial
    rcases (show u = 0 ∨ u = 1 ∨ u = 2 ∨ u = 3 by omega) with rfl | rfl | rfl | rfl
    · rw [show rawT ⟨f, 0, p0, p1, p2, p3, 0, l0, l1, l2⟩ t = Tm.mk (t.e + p0) (0) (0) (0) (0) by simp [rawT]; try omega]
      have s0 := v0
      clear h0' v0 v1 v2 v3 d1 d2 d3 d4 d5 d6
      have A0 := Lib.hid (add_ok (a := t.e) (b := p0) (by omega) (by omega) (by omega) (by omega) s0)
      clear i j f1 f2 f3 f4 f5 f6 f7 f8 i1 i2 i3 i4 j1 j2 j3 j4 LU
      go_enter Try.func8, Try.ntmps8
      go_wp2_with (first
        | (go_at_call 35; refine (C.out _).mono ?_; rintro e w1 ⟨rfl, b1⟩; have h1 := h0.below b1; clear b1 h0; generalize w.heap.size = g at h1 ⊢; have hg2 : g + 1 + 1 < w1.heap.size := h1.res.inside; have hg1 : g + 1 < w1.heap.size := h1.pt.two.inside; have hg0 : g < w1.heap.size := h1.pt.one.inside; obtain ⟨pc, pf⟩ := all_of h1.pt.one; obtain ⟨qc, qf⟩ := all_of h1.pt.two)
        | (go_at_call 36; refine (A0.out _).mono ?_; rintro e w2 ⟨rfl, rfl⟩))
      have H : PTR w (w1.alloc (.cells #[.int .u32 (t.e + p0), .int .i64 0, .int .u32 0, .int .u32 0, .int .u32 0] 28)) g _ t := ⟨h1.pt.alloc _, h1.res.alloc _⟩
      have O := Whole.fresh w1 28 #[.int .u32 (t.e + p0), .int .i64 0, .int .u32 0, .int .u32 0, .int .u32 0]
      clear h1 hg1 hg0 pc pf qc qf
      have hn : g + 1 + 1 < w1.heap.size := hg2
      clear hg2
      generalize w1.alloc (.cells #[.int .u32 (t.e + p0), .int .i64 0, .int .u32 0, .int .u32 0, .int .u32 0] 28) = W at H O ⊢
      generalize w1.heap.size = n at H O hn ⊢
      clear w1
      refine wp_loop_rounds 4 ?_
      rw [rounds_succ]
      have kc := H.pt.one.read 1
      have uc := H.pt.one.read 6
      go_wp2_with fail
      go_region_law (refine step_copy_splice rfl (.tmp 70) (.tmp 74) 60 60 rfl 22 Try.underlying60 (by kernel_rfl) (some ⟨n, 2, none⟩) (some ⟨g, 7, none⟩) 3 3 0 3 (by simp [Act.eval, Act.put]) (by simp [Act.eval, Act.put]) n 2 [.int .u32 (t.e + p0), .int .i64 0, .int .u32 0, .int .u32 0, .int .u32 0] 28 O [] rfl (fun h => absurd h (by simp)) (by simp) (by simp [Value.oneCell']) n W ((Below.refl n W).drew) (Nat.le_refl _) ?_; intro w5 hg5 hb5)
      all_goals (
        have O5 : Whole w5 n 28 #[.int .u32 (t.e + p0), .int .i64 0, .int .u32 0, .int .u32 0, .int .u32 0] := by
          have := hg5.out
          simpa [Whole, splice] using this
        have H5 := H.upto hb5 hn
        clear kc uc hg5 hb5 H O W
        obtain ⟨oc, of⟩ := all_of O5
        go_wp2_with ((refine put rfl 28 (.tmp 4) _ rfl (g := g + 1 + 1) rfl rfl H5.res (by kernel_rfl) rfl (by simp [Value.oneCell']) H5.pt.old (by rw [H5.pt.base]; omega) ?_; intro w9 hR9 hB9 hs9 ho9))
        exact bodyPost_ret (two_time Try.results8 rfl rfl (t := Tm.mk (t.e + p0) (0) (0) (0) (0)) hR9) rfl (givesT hB9 rfl rfl))
    · rw [show rawT ⟨f, 0, p0, p1, p2, p3, 1, l0, l1, l2⟩ t = Tm.mk (t.e + p0) (1) (l0) (0) (0) by simp [rawT]; try omega]
      have s0 := v0
      clear h0' v0 v1 v2 v3 d1 d2 d3 d4 d5 d6
      have A0 := Lib.hid (add_ok (a := t.e) (b := p0) (by omega) (by omega) (by omega) (by omega) s0)
      clear i j f1 f2 f3 f4 f5 f6 f7 f8 i1 i2 i3 i4 j1 j2 j3 j4 LU
      go_enter Try.func8, Try.ntmps8
      go_wp2_with (first
        | (go_at_call 35; refine (C.out _).mono ?_; rintro e w1 ⟨rfl, b1⟩; have h1 := h0.below b1; clear b1 h0; generalize w.heap.size = g at h1 ⊢; have hg2 : g + 1 + 1 < w1.heap.size := h1.res.inside; have hg1 : g + 1 < w1.heap.size := h1.pt.two.inside; have hg0 : g < w1.heap.size := h1.pt.one.inside; obtain ⟨pc, pf⟩ := all_of h1.pt.one; obtain ⟨qc, qf⟩ := all_of h1.pt.two)
        | (go_at_call 36; refine (A0.out _).mono ?_; rintro e w2 ⟨rfl, rfl⟩))
      have H : PTR w (w1.alloc (.cells #[.int .u32 (t.e + p0), .int .i64 1, .int .u32 0, .int .u32 0, .int .u32 0] 28)) g _ t := ⟨h1.pt.alloc _, h1.res.alloc _⟩
      have O := Whole.fresh w1 28 #[.int .u32 (t.e + p0), .int .i64 1, .int .u32 0, .int .u32 0, .int .u32 0]
      clear h1 hg1 hg0 pc pf qc qf
      have hn : g + 1 + 1 < w1.heap.size := hg2
      clear hg2
      generalize w1.alloc (.cells #[.int .u32 (t.e + p0), .int .i64 1, .int .u32 0, .int .u32 0, .int .u32 0] 28) = W at H O ⊢
      generalize w1.heap.size = n at H O hn ⊢
      clear w1
      refine wp_loop_rounds 4 ?_
      rw [rounds_succ]
      have kc := H.pt.one.read 1
      have uc := H.pt.one.read 6
      go_wp2_with fail
      go_region_law (refine step_copy_splice rfl (.tmp 70) (.tmp 74) 60 60 rfl 22 Try.underlying60 (by kernel_rfl) (some ⟨n, 2, none⟩) (some ⟨g, 7, none⟩) 3 3 1 3 (by simp [Act.eval, Act.put]) (by simp [Act.eval, Act.put]) n 2 [.int .u32 (t.e + p0), .int .i64 1, .int .u32 0, .int .u32 0, .int .u32 0] 28 O [.int .u32 l0] rfl (fun _ => ⟨rfl, _, rfl, fun j v hj => by match j, hj with | 0, hj => exact (show _ = _ from H.pt.one.read 7).trans (by simpa using hj) | _ + 1, hj => simp at hj⟩) (by simp) (by simp [Value.oneCell']) n W ((Below.refl n W).drew) (Nat.le_refl _) ?_; intro w5 hg5 hb5)
      all_goals (
        have O5 : Whole w5 n 28 #[.int .u32 (t.e + p0), .int .i64 1, .int .u32 l0, .int .u32 0, .int .u32 0] := by
          have := hg5.out
          simpa [Whole, splice] using this
        have H5 := H.upto hb5 hn
        clear kc uc hg5 hb5 H O W
        obtain ⟨oc, of⟩ := all_of O5
        go_wp2_with ((refine put rfl 28 (.tmp 4) _ rfl (g := g + 1 + 1) rfl rfl H5.res (by kernel_rfl) rfl (by simp [Value.oneCell']) H5.pt.old (by rw [H5.pt.base]; omega) ?_; intro w9 hR9 hB9 hs9 ho9))
        exact bodyPost_ret (two_time Try.results8 rfl rfl (t := Tm.mk (t.e + p0) (1) (l0) (0) (0)) hR9) rfl (givesT hB9 rfl rfl))
    · rw [show rawT ⟨f, 0, p0, p1, p2, p3, 2, l0, l1, l2⟩ t = Tm.mk (t.e + p0) (2) (l0) (l1) (0) by simp [rawT]; try omega]
      have s0 := v0
      clear h0' v0 v1 v2 v3 d1 d2 d3 d4 d5 d6
      have A0 := Lib.hid (add_ok (a := t.e) (b := p0) (by omega) (by omega) (by omega) (by omega) s0)
      clear i j f1 f2 f3 f4 f5 f6 f7 f8 i1 i2 i3 i4 j1 j2 j3 j4 LU
      go_enter Try.func8, Try.ntmps8
      go_wp2_with (first
        | (go_at_call 35; refine (C.out _).mono ?_; rintro e w1 ⟨rfl, b1⟩; have h1 := h0.below b1; clear b1 h0; generalize w.heap.size = g at h1 ⊢; have hg2 : g + 1 + 1 < w1.heap.size := h1.res.inside; have hg1 : g + 1 < w1.heap.size := h1.pt.two.inside; have hg0 : g < w1.heap.size := h1.pt.one.inside; obtain ⟨pc, pf⟩ := all_of h1.pt.one; obtain ⟨qc, qf⟩ := all_of h1.pt.two)
        | (go_at_call 36; refine (A0.out _).mono ?_; rintro e w2 ⟨rfl, rfl⟩))
      have H : PTR w (w1.alloc (.cells #[.int .u32 (t.e + p0), .int .i64 2, .int .u32 0, .int .u32 0, .int .u32 0] 28)) g _ t := ⟨h1.pt.alloc _, h1.res.alloc _⟩
      have O := Whole.fresh w1 28 #[.int .u32 (t.e + p0), .int .i64 2, .int .u32 0, .int .u32 0, .int .u32 0]
      clear h1 hg1 hg0 pc pf qc qf
      have hn : g + 1 + 1 < w1.heap.size := hg2
      clear hg2
      generalize w1.alloc (.cells #[.int .u32 (t.e + p0), .int .i64 2, .int .u32 0, .int .u32 0, .int .u32 0] 28) = W at H O ⊢
      generalize w1.heap.size = n at H O hn ⊢
      clear w1
      refine wp_loop_rounds 4 ?_
      rw [rounds_succ]
      have kc := H.pt.one.read 1
      have uc := H.pt.one.read 6
      go_wp2_with fail
      go_region_law (refine step_copy_splice rfl (.tmp 70) (.tmp 74) 60 60 rfl 22 Try.underlying60 (by kernel_rfl) (some ⟨n, 2, none⟩) (some ⟨g, 7, none⟩) 3 3 2 3 (by simp [Act.eval, Act.put]) (by simp [Act.eval, Act.put]) n 2 [.int .u32 (t.e + p0), .int .i64 2, .int .u32 0, .int .u32 0, .int .u32 0] 28 O [.int .u32 l0, .int .u32 l1] rfl (fun _ => ⟨rfl, _, rfl, fun j v hj => by match j, hj with | 0, hj => exact (show _ = _ from H.pt.one.read 7).trans (by simpa using hj) | 1, hj => exact (show _ = _ from H.pt.one.read 8).trans (by simpa using hj) | _ + 2, hj => simp at hj⟩) (by simp) (by simp [Value.oneCell']) n W ((Below.refl n W).drew) (Nat.le_refl _) ?_; intro w5 hg5 hb5)
      all_goals (
        have O5 : Whole w5 n 28 #[.int .u32 (t.e + p0), .int .i64 2, .int .u32 l0, .int .u32 l1, .int .u32 0] := by
          have := hg5.out
          simpa [Whole, splice] using this
        have H5 := H.upto hb5 hn
        clear kc uc hg5 hb5 H O W
        obtain ⟨oc, of⟩ := all_of O5
        go_wp2_with ((refine put rfl 28 (.tmp 4) _ rfl (g := g + 1 + 1) rfl rfl H5.res (by kernel_rfl) rfl (by simp [Value.oneCell']) H5.pt.old (by rw [H5.pt.base]; omega) ?_; intro w9 hR9 hB9 hs9 ho9))
        exact bodyPost_ret (two_time Try.results8 rfl rfl (t := Tm.mk (t.e + p0) (2) (l0) (l1) (0)) hR9) rfl (givesT hB9 rfl rfl))
    · rw [show rawT ⟨f, 0, p0, p1, p2, p3, 3, l0, l1, l2⟩ t = Tm.mk (t.e + p0) (3) (l0) (l1) (l2) by simp [rawT]; try omega]
      have s0 := v0
      clear h0' v0 v1 v2 v3 d1 d2 d3 d4 d5 d6
      have A0 := Lib.hid (add_ok (a := t.e) (b := p0) (by omega) (by omega) (by omega) (by omega) s0)
      clear i j f1 f2 f3 f4 f5 f6 f7 f8 i1 i2 i3 i4 j1 j2 j3 j4 LU
      go_enter Try.func8, Try.ntmps8
      go_wp2_with (first
        | (go_at_call 35; refine (C.out _).mono ?_; rintro e w1 ⟨rfl, b1⟩; have h1 := h0.below b1; clear b1 h0; generalize w.heap.size = g at h1 ⊢; have hg2 : g + 1 + 1 < w1.heap.size := h1.res.inside; have hg1 : g + 1 < w1.heap.size := h1.pt.two.inside; have hg0 : g < w1.heap.size := h1.pt.one.inside; obtain ⟨pc, pf⟩ := all_of h1.pt.one; obtain ⟨qc, qf⟩ := all_of h1.pt.two)
        | (go_at_call 36; refine (A0.out _).mono ?_; rintro e w2 ⟨rfl, rfl⟩))
      have H : PTR w (w1.alloc (.cells #[.int .u32 (t.e + p0), .int .i64 3, .int .u32 0, .int .u32 0, .int .u32 0] 28)) g _ t := ⟨h1.pt.alloc _, h1.res.alloc _⟩
      have O := Whole.fresh w1 28 #[.int .u32 (t.e + p0), .int .i64 3, .int .u32 0, .int .u32 0, .int .u32 0]
      clear h1 hg1 hg0 pc pf qc qf
      have hn : g + 1 + 1 < w1.heap.size := hg2
      clear hg2
      generalize w1.alloc (.cells #[.int .u32 (t.e + p0), .int .i64 3, .int .u32 0, .int .u32 0, .int .u32 0] 28) = W at H O ⊢
      generalize w1.heap.size = n at H O hn ⊢
      clear w1
      refine wp_loop_rounds 4 ?_
      rw [rounds_succ]
      have kc := H.pt.one.read 1
      have uc := H.pt.one.read 6
      go_wp2_with fail
      go_region_law (refine step_copy_splice rfl (.tmp 70) (.tmp 74) 60 60 rfl 22 Try.underlying60 (by kernel_rfl) (some ⟨n, 2, none⟩) (some ⟨g, 7, none⟩) 3 3 3 3 (by simp [Act.eval, Act.put]) (by simp [Act.eval, Act.put]) n 2 [.int .u32 (t.e + p0), .int .i64 3, .int .u32 0, .int .u32 0, .int .u32 0] 28 O [.int .u32 l0, .int .u32 l1, .int .u32 l2] rfl (fun _ => ⟨rfl, _, rfl, fun j v hj => by match j, hj with | 0, hj => exact (show _ = _ from H.pt.one.read 7).trans (by simpa using hj) | 1, hj => exact (show _ = _ from H.pt.one.read 8).trans (by simpa using hj) | 2, hj => exact (show _ = _ from H.pt.one.read 9).trans (by simpa using hj) | _ + 3, hj => simp at hj⟩) (by simp) (by simp [Value.oneCell']) n W ((Below.refl n W).drew) (Nat.le_refl _) ?_; intro w5 hg5 hb5)
      all_goals (
        have O5 : Whole w5 n 28 #[.int .u32 (t.e + p0), .int .i64 3, .int .u32 l0, .int .u32 l1, .int .u32 l2] := by
          have := hg5.out
          simpa [Whole, splice] using this
        have H5 := H.upto hb5 hn
        clear kc uc hg5 hb5 H O W
        obtain ⟨oc, of⟩ := all_of O5
        go_wp2_with ((refine put rfl 28 (.tmp 4) _ rfl (g := g + 1 + 1) rfl rfl H5.res (by kernel_rfl) rfl (by simp [Value.oneCell']) H5.pt.old (by rw [H5.pt.base]; omega) ?_; intro w9 hR9 hB9 hs9 ho9))
        exact bodyPost_ret (two_time Try.results8 rfl rfl (t := Tm.mk (t.e + p0) (3) (l0) (l1) (l2)) hR9) rfl (givesT hB9 rfl rfl))
  · have h0' : True := trivial
    rcases (show u = 0 ∨ u = 1 ∨ u = 2 by omega) with rfl | rfl | rfl
    · rw [show rawT ⟨f, 1, p0, p1, p2, p3, 0, l0, l1, l2⟩ t = Tm.mk (t.e + p0) (1) (t.a + p1) (0) (0) by simp [rawT]; try omega]
      have s0 := v0
      have s1 := v1 (by omega)
      clear h0' v0 v1 v2 v3 d1 d2 d3 d4 d5 d6
      have A0 := Lib.hid (add_ok (a := t.e) (b := p0) (by omega) (by omega) (by omega) (by omega) s0)
      have A1 := Lib.hid (add_ok (a := t.a) (b := p1) (by omega) (by omega) (by omega) (by omega) s1)
      clear i j f1 f2 f3 f4 f5 f6 f7 f8 i1 i2 i3 i4 j1 j2 j3 j4 LU
      go_enter Try.func8, Try.ntmps8
      go_wp2_with (first
        | (go_at_call 35; refine (C.out _).mono ?_; rintro e w1 ⟨rfl, b1⟩; have h1 := h0.below b1; clear b1 h0; generalize w.heap.size = g at h1 ⊢; have hg2 : g + 1 + 1 < w1.heap.size := h1.res.inside; have hg1 : g + 1 < w1.heap.size := h1.pt.two.inside; have hg0 : g < w1.heap.size := h1.pt.one.inside; obtain ⟨pc, pf⟩ := all_of h1.pt.one; obtain ⟨qc, qf⟩ := all_of h1.pt.two)
        | (go_at_call 36; refine (A0.out _).mono ?_; rintro e w2 ⟨rfl, rfl⟩))
      have H : PTR w (w1.alloc (.cells #[.int .u32 (t.e + p0), .int .i64 1, .int .u32 0, .int .u32 0, .int .u32 0] 28)) g _ t := ⟨h1.pt.alloc _, h1.res.alloc _⟩
      have O := Whole.fresh w1 28 #[.int .u32 (t.e + p0), .int .i64 1, .int .u32 0, .int .u32 0, .int .u32 0]
      clear h1 hg1 hg0 pc pf qc qf
      have hn : g + 1 + 1 < w1.heap.size := hg2
      clear hg2
      generalize w1.alloc (.cells #[.int .u32 (t.e + p0), .int .i64 1, .int .u32 0, .int .u32 0, .int .u32 0] 28) = W at H O ⊢
      generalize w1.heap.size = n at H O hn ⊢
      clear w1
      refine wp_loop_rounds 4 ?_
      rw [rounds_succ]
      go_wp2_with fail
      have c1 : ∀ (x : Since W) (i : Nat), x.1.cell? ⟨g, i, none⟩ = _ := fun x i => (H.pt.one.below x.2 H.pt.one.inside).read i
      have c2 : ∀ (x : Since W) (i : Nat), x.1.cell? ⟨g + 1, i, none⟩ = _ := fun x i => (H.pt.two.below x.2 H.pt.two.inside).read i
      refine region_since W (by kernel_rfl) (by kernel_rfl) (Below.refl _ _) ?_
      repeat (go_big_quiet_step ((go_at_call 36; with_reducible exact since_call (low A1.out) _)))
      refine wpQuiet_nil ?_
      rintro w4 ⟨x, hw⟩
      have H' := H.below (hw ▸ x.2)
      have O' := O.below (hw ▸ x.2) O.inside
      clear hw x c1 c2 H O W
      have oc := O'.read 2
      have of := O'.soft 2
      go_wp2_with fail
      have H := H'.aside (i := 2) hn (.int .u32 (t.a + p1))
      have O : Whole (w4.setCell ⟨n, 2, none⟩ (.int .u32 (t.a + p1))) n 28 #[.int .u32 (t.e + p0), .int .i64 1, .int .u32 (t.a + p1), .int .u32 0, .int .u32 0] := by simpa using O'.store 2 (.int .u32 (t.a + p1))
      clear oc of H' O'
      generalize w4.setCell ⟨n, 2, none⟩ (.int .u32 (t.a + p1)) = W at H O ⊢
      clear w4
      rw [rounds_succ]
      have kc := H.pt.one.read 1
      have uc := H.pt.one.read 6
      go_wp2_with fail
      go_region_law (refine step_copy_splice rfl (.tmp 70) (.tmp 74) 60 60 rfl 22 Try.underlying60 (by kernel_rfl) (some ⟨n, 3, none⟩) (some ⟨g, 7, none⟩) 2 2 0 3 (by simp [Act.eval, Act.put]) (by simp [Act.eval, Act.put]) n 3 [.int .u32 (t.e + p0), .int .i64 1, .int .u32 (t.a + p1), .int .u32 0, .int .u32 0] 28 O [] rfl (fun h => absurd h (by simp)) (by simp) (by simp [Value.oneCell']) n W ((Below.refl n W).drew) (Nat.le_refl _) ?_; intro w5 hg5 hb5)
      all_goals (
        have O5 : Whole w5 n 28 #[.int .u32 (t.e + p0), .int .i64 1, .int .u32 (t.a + p1), .int .u32 0, .int .u32 0] := by
          have := hg5.out
          simpa [Whole, splice] using this
        have H5 := H.upto hb5 hn
        clear kc uc hg5 hb5 H O W
        obtain ⟨oc, of⟩ := all_of O5
        go_wp2_with ((refine put rfl 28 (.tmp 4) _ rfl (g := g + 1 + 1) rfl rfl H5.res (by kernel_rfl) rfl (by simp [Value.oneCell']) H5.pt.old (by rw [H5.pt.base]; omega) ?_; intro w9 hR9 hB9 hs9 ho9))
        exact bodyPost_ret (two_time Try.results8 rfl rfl (t := Tm.mk (t.e + p0) (1) (t.a + p1) (0) (0)) hR9) rfl (givesT hB9 rfl rfl))
    · rw [show rawT ⟨f, 1, p0, p1, p2, p3, 1, l0, l1, l2⟩ t = Tm.mk (t.e + p0) (2) (t.a + p1) (l0) (0) by simp [rawT]; try omega]
      have s0 := v0
      have s1 := v1 (by omega)
      clear h0' v0 v1 v2 v3 d1 d2 d3 d4 d5 d6
      have A0 := Lib.hid (add_ok (a := t.e) (b := p0) (by omega) (by omega) (by omega) (by omega) s0)
      have A1 := Lib.hid (add_ok (a := t.a) (b := p1) (by omega) (by omega) (by omega) (by omega) s1)
      clear i j f1 f2 f3 f4 f5 f6 f7 f8 i1 i2 i3 i4 j1 j2 j3 j4 LU
      go_enter Try.func8, Try.ntmps8
      go_wp2_with (first
        | (go_at_call 35; refine (C.out _).mono ?_; rintro e w1 ⟨rfl, b1⟩; have h1 := h0.below b1; clear b1 h0; generalize w.heap.size = g at h1 ⊢; have hg2 : g + 1 + 1 < w1.heap.size := h1.res.inside; have hg1 : g + 1 < w1.heap.size := h1.pt.two.inside; have hg0 : g < w1.heap.size := h1.pt.one.inside; obtain ⟨pc, pf⟩ := all_of h1.pt.one; obtain ⟨qc, qf⟩ := all_of h1.pt.two)
        | (go_at_call 36; refine (A0.out _).mono ?_; rintro e w2 ⟨rfl, rfl⟩))
      have H : PTR w (w1.alloc (.cells #[.int .u32 (t.e + p0), .int .i64 2, .int .u32 0, .int .u32 0, .int .u32 0] 28)) g _ t := ⟨h1.pt.alloc _, h1.res.alloc _⟩
      have O := Whole.fresh w1 28 #[.int .u32 (t.e + p0), .int .i64 2, .int .u32 0, .int .u32 0, .int .u32 0]
      clear h1 hg1 hg0 pc pf qc qf
      have hn : g + 1 + 1 < w1.heap.size := hg2
      clear hg2
      generalize w1.alloc (.cells #[.int .u32 (t.e + p0), .int .i64 2, .int .u32 0, .int .u32 0, .int .u32 0] 28) = W at H O ⊢
      generalize w1.heap.size = n at H O hn ⊢
      clear w1
      refine wp_loop_rounds 4 ?_
      rw [rounds_succ]
      go_wp2_with fail
      have c1 : ∀ (x : Since W) (i : Nat), x.1.cell? ⟨g, i, none⟩ = _ := fun x i => (H.pt.one.below x.2 H.pt.one.inside).read i
      have c2 : ∀ (x : Since W) (i : Nat), x.1.cell? ⟨g + 1, i, none⟩ = _ := fun x i => (H.pt.two.below x.2 H.pt.two.inside).read i
      refine region_since W (by kernel_rfl) (by kernel_rfl) (Below.refl _ _) ?_
      repeat (go_big_quiet_step ((go_at_call 36; with_reducible exact since_call (low A1.out) _)))
      refine wpQuiet_nil ?_
      rintro w4 ⟨x, hw⟩
      have H' := H.below (hw ▸ x.2)
      have O' := O.below (hw ▸ x.2) O.inside
      clear hw x c1 c2 H O W
      have oc := O'.read 2
      have of := O'.soft 2
      go_wp2_with fail
      have H := H'.aside (i := 2) hn (.int .u32 (t.a + p1))
      have O : Whole (w4.setCell ⟨n, 2, none⟩ (.int .u32 (t.a + p1))) n 28 #[.int .u32 (t.e + p0), .int .i64 2, .int .u32 (t.a + p1), .int .u32 0, .int .u32 0] := by simpa using O'.store 2 (.int .u32 (t.a + p1))
      clear oc of H' O'
      generalize w4.setCell ⟨n, 2, none⟩ (.int .u32 (t.a + p1)) = W at H O ⊢
      clear w4
      rw [rounds_succ]
      have kc := H.pt.one.read 1
      have uc := H.pt.one.read 6
      go_wp2_with fail
      go_region_law (refine step_copy_splice rfl (.tmp 70) (.tmp 74) 60 60 rfl 22 Try.underlying60 (by kernel_rfl) (some ⟨n, 3, none⟩) (some ⟨g, 7, none⟩) 2 2 1 3 (by simp [Act.eval, Act.put]) (by simp [Act.eval, Act.put]) n 3 [.int .u32 (t.e + p0), .int .i64 2, .int .u32 (t.a + p1), .int .u32 0, .int .u32 0] 28 O [.int .u32 l0] rfl (fun _ => ⟨rfl, _, rfl, fun j v hj => by match j, hj with | 0, hj => exact (show _ = _ from H.pt.one.read 7).trans (by simpa using hj) | _ + 1, hj => simp at hj⟩) (by simp) (by simp [Value.oneCell']) n W ((Below.refl n W).drew) (Nat.le_refl _) ?_; intro w5 hg5 hb5)
      all_goals (
        have O5 : Whole w5 n 28 #[.int .u32 (t.e + p0), .int .i64 2, .int .u32 (t.a + p1), .int .u32 l0, .int .u32 0] := by
          have := hg5.out
          simpa [Whole, splice] using this
        have H5 := H.upto hb5 hn
        clear kc uc hg5 hb5 H O W
        obtain ⟨oc, of⟩ := all_of O5
        go_wp2_with ((refine put rfl 28 (.tmp 4) _ rfl (g := g + 1 + 1) rfl rfl H5.res (by kernel_rfl) rfl (by simp [Value.oneCell']) H5.pt.old (by rw [H5.pt.base]; omega) ?_; intro w9 hR9 hB9 hs9 ho9))
        exact bodyPost_ret (two_time Try.results8 rfl rfl (t := Tm.mk (t.e + p0) (2) (t.a + p1) (l0) (0)) hR9) rfl (givesT hB9 rfl rfl))
    · rw [show rawT ⟨f, 1, p0, p1, p2, p3, 2, l0, l1, l2⟩ t = Tm.mk (t.e + p0) (3) (t.a + p1) (l0) (l1) by simp [rawT]; try omega]
      have s0 := v0
      have s1 := v1 (by omega)
      clear h0' v0 v1 v2 v3 d1 d2 d3 d4 d5 d6
      have A0 := Lib.hid (add_ok (a := t.e) (b := p0) (by omega) (by omega) (by omega) (by omega) s0)
      have A1 := Lib.hid (add_ok (a := t.a) (b := p1) (by omega) (by omega) (by omega) (by omega) s1)
      clear i j f1 f2 f3 f4 f5 f6 f7 f8 i1 i2 i3 i4 j1 j2 j3 j4 LU
      go_enter Try.func8, Try.ntmps8
      go_wp2_with (first
        | (go_at_call 35; refine (C.out _).mono ?_; rintro e w1 ⟨rfl, b1⟩; have h1 := h0.below b1; clear b1 h0; generalize w.heap.size = g at h1 ⊢; have hg2 : g + 1 + 1 < w1.heap.size := h1.res.inside; have hg1 : g + 1 < w1.heap.size := h1.pt.two.inside; have hg0 : g < w1.heap.size := h1.pt.one.inside; obtain ⟨pc, pf⟩ := all_of h1.pt.one; obtain ⟨qc, qf⟩ := all_of h1.pt.two)
        | (go_at_call 36; refine (A0.out _).mono ?_; rintro e w2 ⟨rfl, rfl⟩))
      have H : PTR w (w1.alloc (.cells #[.int .u32 (t.e + p0), .int .i64 3, .int .u32 0, .int .u32 0, .int .u32 0] 28)) g _ t := ⟨h1.pt.alloc _, h1.res.alloc _⟩
      have O := Whole.fresh w1 28 #[.int .u32 (t.e + p0), .int .i64 3, .int .u32 0, .int .u32 0, .int .u32 0]
      clear h1 hg1 hg0 pc pf qc qf
      have hn : g + 1 + 1 < w1.heap.size := hg2
      clear hg2
      generalize w1.alloc (.cells #[.int .u32 (t.e + p0), .int .i64 3, .int .u32 0, .int .u32 0, .int .u32 0] 28) = W at H O ⊢
      generalize w1.heap.size = n at H O hn ⊢
      clear w1
      refine wp_loop_rounds 4 ?_
      rw [rounds_succ]
      go_wp2_with fail
      have c1 : ∀ (x : Since W) (i : Nat), x.1.cell? ⟨g, i, none⟩ = _ := fun x i => (H.pt.one.below x.2 H.pt.one.inside).read i
      have c2 : ∀ (x : Since W) (i : Nat), x.1.cell? ⟨g + 1, i, none⟩ = _ := fun x i => (H.pt.two.below x.2 H.pt.two.inside).read i
      refine region_since W (by kernel_rfl) (by kernel_rfl) (Below.refl _ _) ?_
      repeat (go_big_quiet_step ((go_at_call 36; with_reducible exact since_call (low A1.out) _)))
      refine wpQuiet_nil ?_
      rintro w4 ⟨x, hw⟩
      have H' := H.below (hw ▸ x.2)
      have O' := O.below (hw ▸ x.2) O.inside
      clear hw x c1 c2 H O W
      have oc := O'.read 2
      have of := O'.soft 2
      go_wp2_with fail
      have H := H'.aside (i := 2) hn (.int .u32 (t.a + p1))
      have O : Whole (w4.setCell ⟨n, 2, none⟩ (.int .u32 (t.a + p1))) n 28 #[.int .u32 (t.e + p0), .int .i64 3, .int .u32 (t.a + p1), .int .u32 0, .int .u32 0] := by simpa using O'.store 2 (.int .u32 (t.a + p1))
      clear oc of H' O'
      generalize w4.setCell ⟨n, 2, none⟩ (.int .u32 (t.a + p1)) = W at H O ⊢
      clear w4
      rw [rounds_succ]
      have kc := H.pt.one.read 1
      have uc := H.pt.one.read 6
      go_wp2_with fail
      go_region_law (refine step_copy_splice rfl (.tmp 70) (.tmp 74) 60 60 rfl 22 Try.underlying60 (by kernel_rfl) (some ⟨n, 3, none⟩) (some ⟨g, 7, none⟩) 2 2 2 3 (by simp [Act.eval, Act.put]) (by simp [Act.eval, Act.put]) n 3 [.int .u32 (t.e + p0), .int .i64 3, .int .u32 (t.a + p1), .int .u32 0, .int .u32 0] 28 O [.int .u32 l0, .int .u32 l1] rfl (fun _ => ⟨rfl, _, rfl, fun j v hj => by match j, hj with | 0, hj => exact (show _ = _ from H.pt.one.read 7).trans (by simpa using hj) | 1, hj => exact (show _ = _ from H.pt.one.read 8).trans (by simpa using hj) | _ + 2, hj => simp at hj⟩) (by simp) (by simp [Value.oneCell']) n W ((Below.refl n W).drew) (Nat.le_refl _) ?_; intro w5 hg5 hb5)
      all_goals (
        have O5 : Whole w5 n 28 #[.int .u32 (t.e + p0), .int .i64 3, .int .u32 (t.a + p1), .int .u32 l0, .int .u32 l1] := by
          have := hg5.out
          simpa [Whole, splice] using this
        have H5 := H.upto hb5 hn
        clear kc uc hg5 hb5 H O W
        obtain ⟨oc, of⟩ := all_of O5
        go_wp2_with ((refine put rfl 28 (.tmp 4) _ rfl (g := g + 1 + 1) rfl rfl H5.res (by kernel_rfl) rfl (by simp [Value.oneCell']) H5.pt.old (by rw [H5.pt.base]; omega) ?_; intro w9 hR9 hB9 hs9 ho9))
        exact bodyPost_ret (two_time Try.results8 rfl rfl (t := Tm.mk (t.e + p0) (3) (t.a + p1) (l0) (l1)) hR9) rfl (givesT hB9 rfl rfl))
  · have h0' : True := trivial
    rcases (show u = 0 ∨ u = 1 by omega) with rfl | rfl
    · rw [show rawT ⟨f, 2, p0, p1, p2, p3, 0, l0, l1, l2⟩ t = Tm.mk (t.e + p0) (2) (t.a + p1) (t.b + p2) (0) by simp [rawT]; try omega]
      have s0 := v0
      have s1 := v1 (by omega)
      have s2 := v2 (by omega)
      clear h0' v0 v1 v2 v3 d1 d2 d3 d4 d5 d6
      have A0 := Lib.hid (add_ok (a := t.e) (b := p0) (by omega) (by omega) (by omega) (by omega) s0)
      have A1 := Lib.hid (add_ok (a := t.a) (b := p1) (by omega) (by omega) (by omega) (by omega) s1)
      have A2 := Lib.hid (add_ok (a := t.b) (b := p2) (by omega) (by omega) (by omega) (by omega) s2)
      clear i j f1 f2 f3 f4 f5 f6 f7 f8 i1 i2 i3 i4 j1 j2 j3 j4 LU
      go_enter Try.func8, Try.ntmps8
      go_wp2_with (first
        | (go_at_call 35; refine (C.out _).mono ?_; rintro e w1 ⟨rfl, b1⟩; have h1 := h0.below b1; clear b1 h0; generalize w.heap.size = g at h1 ⊢; have hg2 : g + 1 + 1 < w1.heap.size := h1.res.inside; have hg1 : g + 1 < w1.heap.size := h1.pt.two.inside; have hg0 : g < w1.heap.size := h1.pt.one.inside; obtain ⟨pc, pf⟩ := all_of h1.pt.one; obtain ⟨qc, qf⟩ := all_of h1.pt.two)
        | (go_at_call 36; refine (A0.out _).mono ?_; rintro e w2 ⟨rfl, rfl⟩))
      have H : PTR w (w1.alloc (.cells #[.int .u32 (t.e + p0), .int .i64 2, .int .u32 0, .int .u32 0, .int .u32 0] 28)) g _ t := ⟨h1.pt.alloc _, h1.res.alloc _⟩
      have O := Whole.fresh w1 28 #[.int .u32 (t.e + p0), .int .i64 2, .int .u32 0, .int .u32 0, .int .u32 0]
      clear h1 hg1 hg0 pc pf qc qf
      have hn : g + 1 + 1 < w1.heap.size := hg2
      clear hg2
      generalize w1.alloc (.cells #[.int .u32 (t.e + p0), .int .i64 2, .int .u32 0, .int .u32 0, .int .u32 0] 28) = W at H O ⊢
      generalize w1.heap.size = n at H O hn ⊢
      clear w1
      refine wp_loop_rounds 4 ?_
      rw [rounds_succ]
      go_wp2_with fail
      have c1 : ∀ (x : Since W) (i : Nat), x.1.cell? ⟨g, i, none⟩ = _ := fun x i => (H.pt.one.below x.2 H.pt.one.inside).read i
      have c2 : ∀ (x : Since W) (i : Nat), x.1.cell? ⟨g + 1, i, none⟩ = _ := fun x i => (H.pt.two.below x.2 H.pt.two.inside).read i
      refine region_since W (by kernel_rfl) (by kernel_rfl) (Below.refl _ _) ?_
      repeat (go_big_quiet_step ((go_at_call 36; with_reducible exact since_call (low A1.out) _)))
      refine wpQuiet_nil ?_
      rintro w4 ⟨x, hw⟩
      have H' := H.below (hw ▸ x.2)
      have O' := O.below (hw ▸ x.2) O.inside
      clear hw x c1 c2 H O W
      have oc := O'.read 2
      have of := O'.soft 2
      go_wp2_with fail
      have H := H'.aside (i := 2) hn (.int .u32 (t.a + p1))
      have O : Whole (w4.setCell ⟨n, 2, none⟩ (.int .u32 (t.a + p1))) n 28 #[.int .u32 (t.e + p0), .int .i64 2, .int .u32 (t.a + p1), .int .u32 0, .int .u32 0] := by simpa using O'.store 2 (.int .u32 (t.a + p1))
      clear oc of H' O'
      generalize w4.setCell ⟨n, 2, none⟩ (.int .u32 (t.a + p1)) = W at H O ⊢
      clear w4
      rw [rounds_succ]
      go_wp2_with fail
      have c1 : ∀ (x : Since W) (i : Nat), x.1.cell? ⟨g, i, none⟩ = _ := fun x i => (H.pt.one.below x.2 H.pt.one.inside).read i
      have c2 : ∀ (x : Since W) (i : Nat), x.1.cell? ⟨g + 1, i, none⟩ = _ := fun x i => (H.pt.two.below x.2 H.pt.two.inside).read i
      refine region_since W (by kernel_rfl) (by kernel_rfl) (Below.refl _ _) ?_
      repeat (go_big_quiet_step ((go_at_call 36; with_reducible exact since_call (low A2.out) _)))
      refine wpQuiet_nil ?_
      rintro w4 ⟨x, hw⟩
      have H' := H.below (hw ▸ x.2)
      have O' := O.below (hw ▸ x.2) O.inside
      clear hw x c1 c2 H O W
      have oc := O'.read 3
      have of := O'.soft 3
      go_wp2_with fail
      have H := H'.aside (i := 3) hn (.int .u32 (t.b + p2))
      have O : Whole (w4.setCell ⟨n, 3, none⟩ (.int .u32 (t.b + p2))) n 28 #[.int .u32 (t.e + p0), .int .i64 2, .int .u32 (t.a + p1), .int .u32 (t.b + p2), .int .u32 0] := by simpa using O'.store 3 (.int .u32 (t.b + p2))
      clear oc of H' O'
      generalize w4.setCell ⟨n, 3, none⟩ (.int .u32 (t.b + p2)) = W at H O ⊢
      clear w4
      rw [rounds_succ]
      have kc := H.pt.one.read 1
      have uc := H.pt.one.read 6
      go_wp2_with fail
      go_region_law (refine step_copy_splice rfl (.tmp 70) (.tmp 74) 60 60 rfl 22 Try.underlying60 (by kernel_rfl) (some ⟨n, 4, none⟩) (some ⟨g, 7, none⟩) 1 1 0 3 (by simp [Act.eval, Act.put]) (by simp [Act.eval, Act.put]) n 4 [.int .u32 (t.e + p0), .int .i64 2, .int .u32 (t.a + p1), .int .u32 (t.b + p2), .int .u32 0] 28 O [] rfl (fun h => absurd h (by simp)) (by simp) (by simp [Value.oneCell']) n W ((Below.refl n W).drew) (Nat.le_refl _) ?_; intro w5 hg5 hb5)
      all_goals (
        have O5 : Whole w5 n 28 #[.int .u32 (t.e + p0), .int .i64 2, .int .u32 (t.a + p1), .int .u32 (t.b + p2), .int .u32 0] := by
          have := hg5.out
          simpa [Whole, splice] using this
        have H5 := H.upto hb5 hn
        clear kc uc hg5 hb5 H O W
        obtain ⟨oc, of⟩ := all_of O5
        go_wp2_with ((refine put rfl 28 (.tmp 4) _ rfl (g := g + 1 + 1) rfl rfl H5.res (by kernel_rfl) rfl (by simp [Value.oneCell']) H5.pt.old (by rw [H5.pt.base]; omega) ?_; intro w9 hR9 hB9 hs9 ho9))
        exact bodyPost_ret (two_time Try.results8 rfl rfl (t := Tm.mk (t.e + p0) (2) (t.a + p1) (t.b + p2) (0)) hR9) rfl (givesT hB9 rfl rfl))
    · rw [show rawT ⟨f, 2, p0, p1, p2, p3, 1, l0, l1, l2⟩ t = Tm.mk (t.e + p0) (3) (t.a + p1) (t.b + p2) (l0) by simp [rawT]; try omega]
      have s0 := v0
      have s1 := v1 (by omega)
      have s2 := v2 (by omega)
      clear h0' v0 v1 v2 v3 d1 d2 d3 d4 d5 d6
      have A0 := Lib.hid (add_ok (a := t.e) (b := p0) (by omega) (by omega) (by omega) (by omega) s0)
      have A1 := Lib.hid (add_ok (a := t.a) (b := p1) (by omega) (by omega) (by omega) (by omega) s1)
      have A2 := Lib.hid (add_ok (a := t.b) (b := p2) (by omega) (by omega) (by omega) (by omega) s2)
      clear i j f1 f2 f3 f4 f5 f6 f7 f8 i1 i2 i3 i4 j1 j2 j3 j4 LU
      go_enter Try.func8, Try.ntmps8
      go_wp2_with (first
        | (go_at_call 35; refine (C.out _).mono ?_; rintro e w1 ⟨rfl, b1⟩; have h1 := h0.below b1; clear b1 h0; generalize w.heap.size = g at h1 ⊢; have hg2 : g + 1 + 1 < w1.heap.size := h1.res.inside; have hg1 : g + 1 < w1.heap.size := h1.pt.two.inside; have hg0 : g < w1.heap.size := h1.pt.one.inside; obtain ⟨pc, pf⟩ := all_of h1.pt.one; obtain ⟨qc, qf⟩ := all_of h1.pt.two)
        | (go_at_call 36; refine (A0.out _).mono ?_; rintro e w2 ⟨rfl, rfl⟩))
      have H : PTR w (w1.alloc (.cells #[.int .u32 (t.e + p0), .int .i64 3, .int .u32 0, .int .u32 0, .int .u32 0] 28)) g _ t := ⟨h1.pt.alloc _, h1.res.alloc _⟩
      have O := Whole.fresh w1 28 #[.int .u32 (t.e + p0), .int .i64 3, .int .u32 0, .int .u32 0, .int .u32 0]
      clear h1 hg1 hg0 pc pf qc qf
      have hn : g + 1 + 1 < w1.heap.size := hg2
      clear hg2
      generalize w1.alloc (.cells #[.int .u32 (t.e + p0), .int .i64 3, .int .u32 0, .int .u32 0, .int .u32 0] 28) = W at H O ⊢
      generalize w1.heap.size = n at H O hn ⊢
      clear w1
      refine wp_loop_rounds 4 ?_
      rw [rounds_succ]
      go_wp2_with fail
      have c1 : ∀ (x : Since W) (i : Nat), x.1.cell? ⟨g, i, none⟩ = _ := fun x i => (H.pt.one.below x.2 H.pt.one.inside).read i
      have c2 : ∀ (x : Since W) (i : Nat), x.1.cell? ⟨g + 1, i, none⟩ = _ := fun x i => (H.pt.two.below x.2 H.pt.two.inside).read i
      refine region_since W (by kernel_rfl) (by kernel_rfl) (Below.refl _ _) ?_
      repeat (go_big_quiet_step ((go_at_call 36; with_reducible exact since_call (low A1.out) _)))
      refine wpQuiet_nil ?_
      rintro w4 ⟨x, hw⟩
      have H' := H.below (hw ▸ x.2)
      have O' := O.below (hw ▸ x.2) O.inside
      clear hw x c1 c2 H O W
      have oc := O'.read 2
      have of := O'.soft 2
      go_wp2_with fail
      have H := H'.aside (i := 2) hn (.int .u32 (t.a + p1))
      have O : Whole (w4.setCell ⟨n, 2, none⟩ (.int .u32 (t.a + p1))) n 28 #[.int .u32 (t.e + p0), .int .i64 3, .int .u32 (t.a + p1), .int .u32 0, .int .u32 0] := by simpa using O'.store 2 (.int .u32 (t.a + p1))
      clear oc of H' O'
      generalize w4.setCell ⟨n, 2, none⟩ (.int .u32 (t.a + p1)) = W at H O ⊢
      clear w4
      rw [rounds_succ]
      go_wp2_with fail
      have c1 : ∀ (x : Since W) (i : Nat), x.1.cell? ⟨g, i, none⟩ = _ := fun x i => (H.pt.one.below x.2 H.pt.one.inside).read i
      have c2 : ∀ (x : Since W) (i : Nat), x.1.cell? ⟨g + 1, i, none⟩ = _ := fun x i => (H.pt.two.below x.2 H.pt.two.inside).read i
      refine region_since W (by kernel_rfl) (by kernel_rfl) (Below.refl _ _) ?_
      repeat (go_big_quiet_step ((go_at_call 36; with_reducible exact since_call (low A2.out) _)))
      refine wpQuiet_nil ?_
      rintro w4 ⟨x, hw⟩
      have H' := H.below (hw ▸ x.2)
      have O' := O.below (hw ▸ x.2) O.inside
      clear hw x c1 c2 H O W
      have oc := O'.read 3
      have of := O'.soft 3
      go_wp2_with fail
      have H := H'.aside (i := 3) hn (.int .u32 (t.b + p2))
      have O : Whole (w4.setCell ⟨n, 3, none⟩ (.int .u32 (t.b + p2))) n 28 #[.int .u32 (t.e + p0), .int .i64 3, .int .u32 (t.a + p1), .int .u32 (t.b + p2), .int .u32 0] := by simpa using O'.store 3 (.int .u32 (t.b + p2))
      clear oc of H' O'
      generalize w4.setCell ⟨n, 3, none⟩ (.int .u32 (t.b + p2)) = W at H O ⊢
      clear w4
      rw [rounds_succ]
      have kc := H.pt.one.read 1
      have uc := H.pt.one.read 6
      go_wp2_with fail
      go_region_law (refine step_copy_splice rfl (.tmp 70) (.tmp 74) 60 60 rfl 22 Try.underlying60 (by kernel_rfl) (some ⟨n, 4, none⟩) (some ⟨g, 7, none⟩) 1 1 1 3 (by simp [Act.eval, Act.put]) (by simp [Act.eval, Act.put]) n 4 [.int .u32 (t.e + p0), .int .i64 3, .int .u32 (t.a + p1), .int .u32 (t.b + p2), .int .u32 0] 28 O [.int .u32 l0] rfl (fun _ => ⟨rfl, _, rfl, fun j v hj => by match j, hj with | 0, hj => exact (show _ = _ from H.pt.one.read 7).trans (by simpa using hj) | _ + 1, hj => simp at hj⟩) (by simp) (by simp [Value.oneCell']) n W ((Below.refl n W).drew) (Nat.le_refl _) ?_; intro w5 hg5 hb5)
      all_goals (
        have O5 : Whole w5 n 28 #[.int .u32 (t.e + p0), .int .i64 3, .int .u32 (t.a + p1), .int .u32 (t.b + p2), .int .u32 l0] := by
          have := hg5.out
          simpa [Whole, splice] using this
        have H5 := H.upto hb5 hn
        clear kc uc hg5 hb5 H O W
        obtain ⟨oc, of⟩ := all_of O5
        go_wp2_with ((refine put rfl 28 (.tmp 4) _ rfl (g := g + 1 + 1) rfl rfl H5.res (by kernel_rfl) rfl (by simp [Value.oneCell']) H5.pt.old (by rw [H5.pt.base]; omega) ?_; intro w9 hR9 hB9 hs9 ho9))
        exact bodyPost_ret (two_time Try.results8 rfl rfl (t := Tm.mk (t.e + p0) (3) (t.a + p1) (t.b + p2) (l0)) hR9) rfl (givesT hB9 rfl rfl))
  · have h0' : True := trivial
    obtain rfl : u = 0 := by omega
    rw [show rawT ⟨f, 3, p0, p1, p2, p3, 0, l0, l1, l2⟩ t = Tm.mk (t.e + p0) (3) (t.a + p1) (t.b + p2) (t.c + p3) by simp [rawT]; try omega]
    have s0 := v0
    have s1 := v1 (by omega)
    have s2 := v2 (by omega)
    have s3 := v3 (by omega)
    clear h0' v0 v1 v2 v3 d1 d2 d3 d4 d5 d6
    have A0 := Lib.hid (add_ok (a := t.e) (b := p0) (by omega) (by omega) (by omega) (by omega) s0)
    have A1 := Lib.hid (add_ok (a := t.a) (b := p1) (by omega) (by omega) (by omega) (by omega) s1)
    have A2 := Lib.hid (add_ok (a := t.b) (b := p2) (by omega) (by omega) (by omega) (by omega) s2)
    have A3 := Lib.hid (add_ok (a := t.c) (b := p3) (by omega) (by omega) (by omega) (by omega) s3)
    clear i j f1 f2 f3 f4 f5 f6 f7 f8 i1 i2 i3 i4 j1 j2 j3 j4 LU
    go_enter Try.func8, Try.ntmps8
    go_wp2_with (first
      | (go_at_call 35; refine (C.out _).mono ?_; rintro e w1 ⟨rfl, b1⟩; have h1 := h0.below b1; clear b1 h0; generalize w.heap.size = g at h1 ⊢; have hg2 : g + 1 + 1 < w1.heap.size := h1.res.inside; have hg1 : g + 1 < w1.heap.size := h1.pt.two.inside; have hg0 : g < w1.heap.size := h1.pt.one.inside; obtain ⟨pc, pf⟩ := all_of h1.pt.one; obtain ⟨qc, qf⟩ := all_of h1.pt.two)
      | (go_at_call 36; refine (A0.out _).mono ?_; rintro e w2 ⟨rfl, rfl⟩))
    have H : PTR w (w1.alloc (.cells #[.int .u32 (t.e + p0), .int .i64 3, .int .u32 0, .int .u32 0, .int .u32 0] 28)) g _ t := ⟨h1.pt.alloc _, h1.res.alloc _⟩
    have O := Whole.fresh w1 28 #[.int .u32 (t.e + p0), .int .i64 3, .int .u32 0, .int .u32 0, .int .u32 0]
    clear h1 hg1 hg0 pc pf qc qf
    have hn : g + 1 + 1 < w1.heap.size := hg2
    clear hg2
    generalize w1.alloc (.cells #[.int .u32 (t.e + p0), .int .i64 3, .int .u32 0, .int .u32 0, .int .u32 0] 28) = W at H O ⊢
    generalize w1.heap.size = n at H O hn ⊢
    clear w1
    refine wp_loop_rounds 4 ?_
    rw [rounds_succ]
    go_wp2_with fail
    have c1 : ∀ (x : Since W) (i : Nat), x.1.cell? ⟨g, i, none⟩ = _ := fun x i => (H.pt.one.below x.2 H.pt.one.inside).read i
    have c2 : ∀ (x : Since W) (i : Nat), x.1.cell? ⟨g + 1, i, none⟩ = _ := fun x i => (H.pt.two.below x.2 H.pt.two.inside).read i
    refine region_since W (by kernel_rfl) (by kernel_rfl) (Below.refl _ _) ?_
    repeat (go_big_quiet_step ((go_at_call 36; with_reducible exact since_call (low A1.out) _)))
    refine wpQuiet_nil ?_
    rintro w4 ⟨x, hw⟩
    have H' := H.below (hw ▸ x.2)
    have O' := O.below (hw ▸ x.2) O.inside
    clear hw x c1 c2 H O W
    have oc := O'.read 2
    have of := O'.soft 2
    go_wp2_with fail
    have H := H'.aside (i := 2) hn (.int .u32 (t.a + p1))
    have O : Whole (w4.setCell ⟨n, 2, none⟩ (.int .u32 (t.a + p1))) n 28 #[.int .u32 (t.e + p0), .int .i64 3, .int .u32 (t.a + p1), .int .u32 0, .int .u32 0] := by simpa using O'.store 2 (.int .u32 (t.a + p1))
    clear oc of H' O'
    generalize w4.setCell ⟨n, 2, none⟩ (.int .u32 (t.a + p1)) = W at H O ⊢
    clear w4
    rw [rounds_succ]
    go_wp2_with fail
    have c1 : ∀ (x : Since W) (i : Nat), x.1.cell? ⟨g, i, none⟩ = _ := fun x i => (H.pt.one.below x.2 H.pt.one.inside).read i
    have c2 : ∀ (x : Since W) (i : Nat), x.1.cell? ⟨g + 1, i, none⟩ = _ := fun x i => (H.pt.two.below x.2 H.pt.two.inside).read i
    refine region_since W (by kernel_rfl) (by kernel_rfl) (Below.refl _ _) ?_
    repeat (go_big_quiet_step ((go_at_call 36; with_reducible exact since_call (low A2.out) _)))
    refine wpQuiet_nil ?_
    rintro w4 ⟨x, hw⟩
    have H' := H.below (hw ▸ x.2)
    have O' := O.below (hw ▸ x.2) O.inside
    clear hw x c1 c2 H O W
    have oc := O'.read 3
    have of := O'.soft 3
    go_wp2_with fail
    have H := H'.aside (i := 3) hn (.int .u32 (t.b + p2))
    have O : Whole (w4.setCell ⟨n, 3, none⟩ (.int .u32 (t.b + p2))) n 28 #[.int .u32 (t.e + p0), .int .i64 3, .int .u32 (t.a + p1), .int .u32 (t.b + p2), .int .u32 0] := by simpa using O'.store 3 (.int .u32 (t.b + p2))
    clear oc of H' O'
    generalize w4.setCell ⟨n, 3, none⟩ (.int .u32 (t.b + p2)) = W at H O ⊢
    clear w4
    rw [rounds_succ]
    go_wp2_with fail
    have c1 : ∀ (x : Since W) (i : Nat), x.1.cell? ⟨g, i, none⟩ = _ := fun x i => (H.pt.one.below x.2 H.pt.one.inside).read i
    have c2 : ∀ (x : Since W) (i : Nat), x.1.cell? ⟨g + 1, i, none⟩ = _ := fun x i => (H.pt.two.below x.2 H.pt.two.inside).read i
    refine region_since W (by kernel_rfl) (by kernel_rfl) (Below.refl _ _) ?_
    repeat (go_big_quiet_step ((go_at_call 36; with_reducible exact since_call (low A3.out) _)))
    refine wpQuiet_nil ?_
    rintro w4 ⟨x, hw⟩
    have H' := H.below (hw ▸ x.2)
    have O' := O.below (hw ▸ x.2) O.inside
    clear hw x c1 c2 H O W
    have oc := O'.read 4
    have of := O'.soft 4
    go_wp2_with fail
    have H := H'.aside (i := 4) hn (.int .u32 (t.c + p3))
    have O : Whole (w4.setCell ⟨n, 4, none⟩ (.int .u32 (t.c + p3))) n 28 #[.int .u32 (t.e + p0), .int .i64 3, .int .u32 (t.a + p1), .int .u32 (t.b + p2), .int .u32 (t.c + p3)] := by simpa using O'.store 4 (.int .u32 (t.c + p3))
    clear oc of H' O'
    generalize w4.setCell ⟨n, 4, none⟩ (.int .u32 (t.c + p3)) = W at H O ⊢
    clear w4
    rw [rounds_succ]
    have kc := H.pt.one.read 1
    have uc := H.pt.one.read 6
    go_wp2_with fail
    go_region_law (refine step_copy_splice rfl (.tmp 70) (.tmp 74) 60 60 rfl 22 Try.underlying60 (by kernel_rfl) (some ⟨n, 2, none⟩) (some ⟨g, 7, none⟩) 0 0 0 3 (by simp [Act.eval, Act.put]) (by simp [Act.eval, Act.put]) n 5 [.int .u32 (t.e + p0), .int .i64 3, .int .u32 (t.a + p1), .int .u32 (t.b + p2), .int .u32 (t.c + p3)] 28 O [] rfl (fun h => absurd h (by simp)) (by simp) (by simp [Value.oneCell']) n W ((Below.refl n W).drew) (Nat.le_refl _) ?_; intro w5 hg5 hb5)
    all_goals (
      have O5 : Whole w5 n 28 #[.int .u32 (t.e + p0), .int .i64 3, .int .u32 (t.a + p1), .int .u32 (t.b + p2), .int .u32 (t.c + p3)] := by
        have := hg5.out
        simpa [Whole, splice] using this
      have H5 := H.upto hb5 hn
      clear kc uc hg5 hb5 H O W
      obtain ⟨oc, of⟩ := all_of O5
      go_wp2_with ((refine put rfl 28 (.tmp 4) _ rfl (g := g + 1 + 1) rfl rfl H5.res (by kernel_rfl) rfl (by simp [Value.oneCell']) H5.pt.old (by rw [H5.pt.base]; omega) ?_; intro w9 hR9 hB9 hs9 ho9))
      exact bodyPost_ret (two_time Try.results8 rfl rfl (t := Tm.mk (t.e + p0) (3) (t.a + p1) (t.b + p2) (t.c + p3)) hR9) rfl (givesT hB9 rfl rfl))
theorem apply_any (p : Pa) (t : Tm) (i : p.In) (j : t.In) (w : World) : Calls Try.prog 8 #[.agg #[.int .i64 p.f, .int .i64 p.k, .int .u32 p.p0, .int .u32 p.p1, .int .u32 p.p2, .int .u32 p.p3, .int .i64 p.u, .int .u32 p.l0, .int .u32 p.l1, .int .u32 p.l2], .agg #[.int .u32 t.e, .int .i64 t.d, .int .u32 t.a, .int .u32 t.b, .int .u32 t.c]] w (GivesT (applyV p t) (applyE p t) w) := by
  by_cases h : startE p t = 0
  · by_cases ov : overT (rawT p t)
    · rw [show applyE p t = 9 by unfold applyE; rw [if_pos h, if_pos ov], show applyV p t = T0 by unfold applyV applyE; rw [if_pos h, if_pos ov, if_neg (by omega)]]
      exact apply_ovr p t i j h ov w
    · rw [show applyE p t = 0 by unfold applyE; rw [if_pos h, if_neg ov], show applyV p t = rawT p t by unfold applyV applyE; rw [if_pos h, if_neg ov, if_pos rfl]]
      exact apply_good p t i j h ov w
  · rw [show applyE p t = startE p t by unfold applyE; rw [if_neg h], show applyV p t = T0 by unfold applyV applyE; rw [if_neg h, if_neg h]]
    exact apply_bad p t i j h w
end Go.Proofs.Ytilkdpobkcocoaa.path
