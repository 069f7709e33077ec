/-
  The contract of watershedref05.Apply where it is not refused at once, at paths that keep 0 rounds.
-/
import Derived.Test.YtilkdpobkcocoaaApR0
namespace Go.Proofs.Ytilkdpobkcocoaa.path
open Go.ChangeShapes Go.WideShapes Go.ChangeAt Go.RowKit
open Go.Proofs.Ytilkdpobkcocoaa.tm Go.Proofs.Ytilkdpobkcocoaa.opened Go.Proofs.Ytilkdpobkcocoaa.block Go.Proofs.Ytilkdpobkcocoaa.stamp Go.Proofs.Ytilkdpobkcocoaa.pa

set_option maxHeartbeats 4000000 in
theorem applyR_00 (f p0 p1 p2 p3 l0 l1 l2 : Int) (t : Tm) (c : Int) (C : Hid (∀ w, Calls Try.prog 37 #[.agg #[.int .i64 (Pa.mk f 0 p0 p1 p2 p3 0 l0 l1 l2).f, .int .i64 (Pa.mk f 0 p0 p1 p2 p3 0 l0 l1 l2).k, .int .u32 (Pa.mk f 0 p0 p1 p2 p3 0 l0 l1 l2).p0, .int .u32 (Pa.mk f 0 p0 p1 p2 p3 0 l0 l1 l2).p1, .int .u32 (Pa.mk f 0 p0 p1 p2 p3 0 l0 l1 l2).p2, .int .u32 (Pa.mk f 0 p0 p1 p2 p3 0 l0 l1 l2).p3, .int .i64 (Pa.mk f 0 p0 p1 p2 p3 0 l0 l1 l2).u, .int .u32 (Pa.mk f 0 p0 p1 p2 p3 0 l0 l1 l2).l0, .int .u32 (Pa.mk f 0 p0 p1 p2 p3 0 l0 l1 l2).l1, .int .u32 (Pa.mk f 0 p0 p1 p2 p3 0 l0 l1 l2).l2]] w fun e w' => e = .returned (.int .i64 0) ∧ Below w.heap.size w w'))
    (K : Hid (∀ w, Calls Try.prog 38 #[.agg #[.int .u32 t.e, .int .i64 t.d, .int .u32 t.a, .int .u32 t.b, .int .u32 t.c]] w fun e w' => e = .returned (.int .i64 0) ∧ Below w.heap.size w w'))
    (X : Hid (∀ w, Calls Try.prog 38 #[.agg #[.int .u32 (t.e + p0), .int .i64 0, .int .u32 0, .int .u32 0, .int .u32 0]] w fun e w' => e = .returned (.int .i64 c) ∧ Below w.heap.size w w'))
    (hd : (t.d != f) = false) (e0 : 0 ≤ t.e) (e1 : t.e ≤ 1048576) (_a0 : 0 ≤ t.a) (_a1 : t.a ≤ 1048576) (_b0 : 0 ≤ t.b) (_b1 : t.b ≤ 1048576) (_c0 : 0 ≤ t.c) (_c1 : t.c ≤ 1048576)
    (i0 : 0 ≤ p0) (i1 : p0 ≤ 1048576) (_j0 : 0 ≤ p1) (_j1 : p1 ≤ 1048576) (_k0 : 0 ≤ p2) (_k1 : p2 ≤ 1048576) (_m0 : 0 ≤ p3) (_m1 : p3 ≤ 1048576) (w : World) :
    Calls Try.prog 10 #[.agg #[.int .i64 (Pa.mk f 0 p0 p1 p2 p3 0 l0 l1 l2).f, .int .i64 (Pa.mk f 0 p0 p1 p2 p3 0 l0 l1 l2).k, .int .u32 (Pa.mk f 0 p0 p1 p2 p3 0 l0 l1 l2).p0, .int .u32 (Pa.mk f 0 p0 p1 p2 p3 0 l0 l1 l2).p1, .int .u32 (Pa.mk f 0 p0 p1 p2 p3 0 l0 l1 l2).p2, .int .u32 (Pa.mk f 0 p0 p1 p2 p3 0 l0 l1 l2).p3, .int .i64 (Pa.mk f 0 p0 p1 p2 p3 0 l0 l1 l2).u, .int .u32 (Pa.mk f 0 p0 p1 p2 p3 0 l0 l1 l2).l0, .int .u32 (Pa.mk f 0 p0 p1 p2 p3 0 l0 l1 l2).l1, .int .u32 (Pa.mk f 0 p0 p1 p2 p3 0 l0 l1 l2).l2], .agg #[.int .u32 t.e, .int .i64 t.d, .int .u32 t.a, .int .u32 t.b, .int .u32 t.c]] w (GivesT (if c = 0 then (Tm.mk (t.e + p0) 0 0 0 0) else T0) (if c = 0 then 0 else 9) w) := by
  have h0 := PTS.fresh w (Pa.mk f 0 p0 p1 p2 p3 0 l0 l1 l2) t
  dsimp only at h0 C ⊢
  by_cases hc : c = 0
  · subst hc
    go_enter Try.func10, Try.ntmps10
    go_wp2_with fail
    refine (C.out _).mono ?_
    rintro e w1 ⟨rfl, b1⟩
    have h1 := h0.below b1
    clear b1 h0
    generalize w.heap.size = g at h1 ⊢
    obtain ⟨qc, qf⟩ := all_of h1.pt.two
    go_wp2_with fail
    refine (K.out _).mono ?_
    rintro e w2 ⟨rfl, b2⟩
    have h2 := h1.below b2
    clear b2 h1 qc qf
    obtain ⟨pc, pf⟩ := all_of h2.pt.one
    obtain ⟨qc, qf⟩ := all_of h2.pt.two
    go_wp2_with fail
    have H : PTS w (w2.alloc (.cells #[.int .u32 (t.e + p0), .int .i64 0, .int .u32 0, .int .u32 0, .int .u32 0] 28)) g _ t := h2.alloc _
    have O := Whole.fresh w2 28 #[.int .u32 (t.e + p0), .int .i64 0, .int .u32 0, .int .u32 0, .int .u32 0]
    have hn : g + 1 + 1 < w2.heap.size := h2.res.inside
    clear h2 pc pf qc qf
    generalize w2.alloc (.cells #[.int .u32 (t.e + p0), .int .i64 0, .int .u32 0, .int .u32 0, .int .u32 0] 28) = W at H O ⊢
    generalize w2.heap.size = n at O hn ⊢
    clear w2
    refine wp_loop_rounds 4 ?_
    rw [rounds_succ]
    have pc := H.pt.one.read
    go_wp2_with fail
    clear pc
    refine wp_loop_rounds 4 ?_
    rw [rounds_succ]
    have pc := H.pt.one.read
    have oc := O.read
    go_wp2_with fail
    refine (X.out _).mono ?_
    rintro e w5 ⟨rfl, b5⟩
    have h5 := H.below b5
    have O5 := Whole.below (w := W) O b5 O.inside
    clear b5 H pc oc O
    obtain ⟨oc, of⟩ := all_of O5
    go_wp2_with ((refine put rfl 28 (.tmp 4) _ rfl (g := g + 1 + 1) rfl rfl h5.res (by kernel_rfl) rfl (by simp [Value.oneCell']) h5.pt.old (by rw [h5.pt.base]; omega) ?_; intro w9 hR9 hB9 hs9 ho9))
    exact bodyPost_ret (two_time Try.results10 rfl rfl (t := (Tm.mk (t.e + p0) 0 0 0 0)) hR9) rfl (givesT hB9 (by simp) (by simp))
  · have hk : (c != 0) = true := by simpa using hc
    rw [if_neg hc, if_neg hc]
    clear hc
    go_enter Try.func10, Try.ntmps10
    go_wp2_with fail
    refine (C.out _).mono ?_
    rintro e w1 ⟨rfl, b1⟩
    have h1 := h0.below b1
    clear b1 h0
    generalize w.heap.size = g at h1 ⊢
    obtain ⟨qc, qf⟩ := all_of h1.pt.two
    go_wp2_with fail
    refine (K.out _).mono ?_
    rintro e w2 ⟨rfl, b2⟩
    have h2 := h1.below b2
    clear b2 h1 qc qf
    obtain ⟨pc, pf⟩ := all_of h2.pt.one
    obtain ⟨qc, qf⟩ := all_of h2.pt.two
    go_wp2_with fail
    have H : PTS w (w2.alloc (.cells #[.int .u32 (t.e + p0), .int .i64 0, .int .u32 0, .int .u32 0, .int .u32 0] 28)) g _ t := h2.alloc _
    have O := Whole.fresh w2 28 #[.int .u32 (t.e + p0), .int .i64 0, .int .u32 0, .int .u32 0, .int .u32 0]
    have hn : g + 1 + 1 < w2.heap.size := h2.res.inside
    clear h2 pc pf qc qf
    generalize w2.alloc (.cells #[.int .u32 (t.e + p0), .int .i64 0, .int .u32 0, .int .u32 0, .int .u32 0] 28) = W at H O ⊢
    generalize w2.heap.size = n at O hn ⊢
    clear w2
    refine wp_loop_rounds 4 ?_
    rw [rounds_succ]
    have pc := H.pt.one.read
    go_wp2_with fail
    clear pc
    refine wp_loop_rounds 4 ?_
    rw [rounds_succ]
    have pc := H.pt.one.read
    have oc := O.read
    go_wp2_with fail
    refine (X.out _).mono ?_
    rintro e w5 ⟨rfl, b5⟩
    have h5 := H.below b5
    have O5 := Whole.below (w := W) O b5 O.inside
    clear b5 H pc oc O
    go_wp2_with ((refine put rfl 28 (.tmp 4) _ rfl (g := g + 1 + 1) rfl rfl h5.res (by kernel_rfl) rfl (by simp [Value.oneCell']) h5.pt.old (by rw [h5.pt.base]; omega) ?_; intro w9 hR9 hB9 hs9 ho9))
    exact bodyPost_ret (two_time Try.results10 rfl rfl (t := T0) hR9) rfl (givesT hB9 rfl rfl)
set_option maxHeartbeats 4000000 in
theorem applyR_01 (f p0 p1 p2 p3 l0 l1 l2 : Int) (t : Tm) (c : Int) (C : Hid (∀ w, Calls Try.prog 37 #[.agg #[.int .i64 (Pa.mk f 0 p0 p1 p2 p3 1 l0 l1 l2).f, .int .i64 (Pa.mk f 0 p0 p1 p2 p3 1 l0 l1 l2).k, .int .u32 (Pa.mk f 0 p0 p1 p2 p3 1 l0 l1 l2).p0, .int .u32 (Pa.mk f 0 p0 p1 p2 p3 1 l0 l1 l2).p1, .int .u32 (Pa.mk f 0 p0 p1 p2 p3 1 l0 l1 l2).p2, .int .u32 (Pa.mk f 0 p0 p1 p2 p3 1 l0 l1 l2).p3, .int .i64 (Pa.mk f 0 p0 p1 p2 p3 1 l0 l1 l2).u, .int .u32 (Pa.mk f 0 p0 p1 p2 p3 1 l0 l1 l2).l0, .int .u32 (Pa.mk f 0 p0 p1 p2 p3 1 l0 l1 l2).l1, .int .u32 (Pa.mk f 0 p0 p1 p2 p3 1 l0 l1 l2).l2]] w fun e w' => e = .returned (.int .i64 0) ∧ Below w.heap.size w w'))
    (K : Hid (∀ w, Calls Try.prog 38 #[.agg #[.int .u32 t.e, .int .i64 t.d, .int .u32 t.a, .int .u32 t.b, .int .u32 t.c]] w fun e w' => e = .returned (.int .i64 0) ∧ Below w.heap.size w w'))
    (X : Hid (∀ w, Calls Try.prog 38 #[.agg #[.int .u32 (t.e + p0), .int .i64 1, .int .u32 l0, .int .u32 0, .int .u32 0]] w fun e w' => e = .returned (.int .i64 c) ∧ Below w.heap.size w w'))
    (hd : (t.d != f) = false) (e0 : 0 ≤ t.e) (e1 : t.e ≤ 1048576) (_a0 : 0 ≤ t.a) (_a1 : t.a ≤ 1048576) (_b0 : 0 ≤ t.b) (_b1 : t.b ≤ 1048576) (_c0 : 0 ≤ t.c) (_c1 : t.c ≤ 1048576)
    (i0 : 0 ≤ p0) (i1 : p0 ≤ 1048576) (_j0 : 0 ≤ p1) (_j1 : p1 ≤ 1048576) (_k0 : 0 ≤ p2) (_k1 : p2 ≤ 1048576) (_m0 : 0 ≤ p3) (_m1 : p3 ≤ 1048576) (w : World) :
    Calls Try.prog 10 #[.agg #[.int .i64 (Pa.mk f 0 p0 p1 p2 p3 1 l0 l1 l2).f, .int .i64 (Pa.mk f 0 p0 p1 p2 p3 1 l0 l1 l2).k, .int .u32 (Pa.mk f 0 p0 p1 p2 p3 1 l0 l1 l2).p0, .int .u32 (Pa.mk f 0 p0 p1 p2 p3 1 l0 l1 l2).p1, .int .u32 (Pa.mk f 0 p0 p1 p2 p3 1 l0 l1 l2).p2, .int .u32 (Pa.mk f 0 p0 p1 p2 p3 1 l0 l1 l2).p3, .int .i64 (Pa.mk f 0 p0 p1 p2 p3 1 l0 l1 l2).u, .int .u32 (Pa.mk f 0 p0 p1 p2 p3 1 l0 l1 l2).l0, .int .u32 (Pa.mk f 0 p0 p1 p2 p3 1 l0 l1 l2).l1, .int .u32 (Pa.mk f 0 p0 p1 p2 p3 1 l0 l1 l2).l2], .agg #[.int .u32 t.e, .int .i64 t.d, .int .u32 t.a, .int .u32 t.b, .int .u32 t.c]] w (GivesT (if c = 0 then (Tm.mk (t.e + p0) 1 l0 0 0) else T0) (if c = 0 then 0 else 9) w) := by
  have h0 := PTS.fresh w (Pa.mk f 0 p0 p1 p2 p3 1 l0 l1 l2) t
  dsimp only at h0 C ⊢
  by_cases hc : c = 0
  · subst hc
    go_enter Try.func10, Try.ntmps10
    go_wp2_with fail
    refine (C.out _).mono ?_
    rintro e w1 ⟨rfl, b1⟩
    have h1 := h0.below b1
    clear b1 h0
    generalize w.heap.size = g at h1 ⊢
    obtain ⟨qc, qf⟩ := all_of h1.pt.two
    go_wp2_with fail
    refine (K.out _).mono ?_
    rintro e w2 ⟨rfl, b2⟩
    have h2 := h1.below b2
    clear b2 h1 qc qf
    obtain ⟨pc, pf⟩ := all_of h2.pt.one
    obtain ⟨qc, qf⟩ := all_of h2.pt.two
    go_wp2_with fail
    have H : PTS w (w2.alloc (.cells #[.int .u32 (t.e + p0), .int .i64 1, .int .u32 0, .int .u32 0, .int .u32 0] 28)) g _ t := h2.alloc _
    have O := Whole.fresh w2 28 #[.int .u32 (t.e + p0), .int .i64 1, .int .u32 0, .int .u32 0, .int .u32 0]
    have hn : g + 1 + 1 < w2.heap.size := h2.res.inside
    clear h2 pc pf qc qf
    generalize w2.alloc (.cells #[.int .u32 (t.e + p0), .int .i64 1, .int .u32 0, .int .u32 0, .int .u32 0] 28) = W at H O ⊢
    generalize w2.heap.size = n at O hn ⊢
    clear w2
    refine wp_loop_rounds 4 ?_
    rw [rounds_succ]
    have pc := H.pt.one.read
    go_wp2_with fail
    clear pc
    refine wp_loop_rounds 4 ?_
    rw [rounds_succ]
    have pc := H.pt.one.read
    have qc := H.pt.two.read
    have oc := O.read
    have of := O.soft
    go_wp2_with fail
    go_region
    have H' := H.aside (i := 2) hn (.int .u32 l0)
    have O' : Whole (W.setCell ⟨n, 2, none⟩ (.int .u32 l0)) n 28 #[.int .u32 (t.e + p0), .int .i64 1, .int .u32 l0, .int .u32 0, .int .u32 0] := by simpa using O.store 2 (.int .u32 l0)
    clear pc qc oc of H O
    have H := H'
    have O := O'
    clear H' O'
    go_wp2_with fail
    generalize W.setCell ⟨n, 2, none⟩ (.int .u32 l0) = W' at H O ⊢
    clear W
    generalize W' = W at H O ⊢
    rw [rounds_succ]
    have pc := H.pt.one.read
    have oc := O.read
    go_wp2_with fail
    refine (X.out _).mono ?_
    rintro e w5 ⟨rfl, b5⟩
    have h5 := H.drew.below b5
    have O5 := Whole.below (w := W.drew) O b5 O.inside
    clear b5 H pc oc O
    obtain ⟨oc, of⟩ := all_of O5
    go_wp2_with ((refine put rfl 28 (.tmp 4) _ rfl (g := g + 1 + 1) rfl rfl h5.res (by kernel_rfl) rfl (by simp [Value.oneCell']) h5.pt.old (by rw [h5.pt.base]; omega) ?_; intro w9 hR9 hB9 hs9 ho9))
    exact bodyPost_ret (two_time Try.results10 rfl rfl (t := (Tm.mk (t.e + p0) 1 l0 0 0)) hR9) rfl (givesT hB9 (by simp) (by simp))
  · have hk : (c != 0) = true := by simpa using hc
    rw [if_neg hc, if_neg hc]
    clear hc
    go_enter Try.func10, Try.ntmps10
    go_wp2_with fail
    refine (C.out _).mono ?_
    rintro e w1 ⟨rfl, b1⟩
    have h1 := h0.below b1
    clear b1 h0
    generalize w.heap.size = g at h1 ⊢
    obtain ⟨qc, qf⟩ := all_of h1.pt.two
    go_wp2_with fail
    refine (K.out _).mono ?_
    rintro e w2 ⟨rfl, b2⟩
    have h2 := h1.below b2
    clear b2 h1 qc qf
    obtain ⟨pc, pf⟩ := all_of h2.pt.one
    obtain ⟨qc, qf⟩ := all_of h2.pt.two
    go_wp2_with fail
    have H : PTS w (w2.alloc (.cells #[.int .u32 (t.e + p0), .int .i64 1, .int .u32 0, .int .u32 0, .int .u32 0] 28)) g _ t := h2.alloc _
    have O := Whole.fresh w2 28 #[.int .u32 (t.e + p0), .int .i64 1, .int .u32 0, .int .u32 0, .int .u32 0]
    have hn : g + 1 + 1 < w2.heap.size := h2.res.inside
    clear h2 pc pf qc qf
    generalize w2.alloc (.cells #[.int .u32 (t.e + p0), .int .i64 1, .int .u32 0, .int .u32 0, .int .u32 0] 28) = W at H O ⊢
    generalize w2.heap.size = n at O hn ⊢
    clear w2
    refine wp_loop_rounds 4 ?_
    rw [rounds_succ]
    have pc := H.pt.one.read
    go_wp2_with fail
    clear pc
    refine wp_loop_rounds 4 ?_
    rw [rounds_succ]
    have pc := H.pt.one.read
    have qc := H.pt.two.read
    have oc := O.read
    have of := O.soft
    go_wp2_with fail
    go_region
    have H' := H.aside (i := 2) hn (.int .u32 l0)
    have O' : Whole (W.setCell ⟨n, 2, none⟩ (.int .u32 l0)) n 28 #[.int .u32 (t.e + p0), .int .i64 1, .int .u32 l0, .int .u32 0, .int .u32 0] := by simpa using O.store 2 (.int .u32 l0)
    clear pc qc oc of H O
    have H := H'
    have O := O'
    clear H' O'
    go_wp2_with fail
    generalize W.setCell ⟨n, 2, none⟩ (.int .u32 l0) = W' at H O ⊢
    clear W
    generalize W' = W at H O ⊢
    rw [rounds_succ]
    have pc := H.pt.one.read
    have oc := O.read
    go_wp2_with fail
    refine (X.out _).mono ?_
    rintro e w5 ⟨rfl, b5⟩
    have h5 := H.drew.below b5
    have O5 := Whole.below (w := W.drew) O b5 O.inside
    clear b5 H pc oc O
    go_wp2_with ((refine put rfl 28 (.tmp 4) _ rfl (g := g + 1 + 1) rfl rfl h5.res (by kernel_rfl) rfl (by simp [Value.oneCell']) h5.pt.old (by rw [h5.pt.base]; omega) ?_; intro w9 hR9 hB9 hs9 ho9))
    exact bodyPost_ret (two_time Try.results10 rfl rfl (t := T0) hR9) rfl (givesT hB9 rfl rfl)
set_option maxHeartbeats 4000000 in
theorem applyR_02 (f p0 p1 p2 p3 l0 l1 l2 : Int) (t : Tm) (c : Int) (C : Hid (∀ w, Calls Try.prog 37 #[.agg #[.int .i64 (Pa.mk f 0 p0 p1 p2 p3 2 l0 l1 l2).f, .int .i64 (Pa.mk f 0 p0 p1 p2 p3 2 l0 l1 l2).k, .int .u32 (Pa.mk f 0 p0 p1 p2 p3 2 l0 l1 l2).p0, .int .u32 (Pa.mk f 0 p0 p1 p2 p3 2 l0 l1 l2).p1, .int .u32 (Pa.mk f 0 p0 p1 p2 p3 2 l0 l1 l2).p2, .int .u32 (Pa.mk f 0 p0 p1 p2 p3 2 l0 l1 l2).p3, .int .i64 (Pa.mk f 0 p0 p1 p2 p3 2 l0 l1 l2).u, .int .u32 (Pa.mk f 0 p0 p1 p2 p3 2 l0 l1 l2).l0, .int .u32 (Pa.mk f 0 p0 p1 p2 p3 2 l0 l1 l2).l1, .int .u32 (Pa.mk f 0 p0 p1 p2 p3 2 l0 l1 l2).l2]] w fun e w' => e = .returned (.int .i64 0) ∧ Below w.heap.size w w'))
    (K : Hid (∀ w, Calls Try.prog 38 #[.agg #[.int .u32 t.e, .int .i64 t.d, .int .u32 t.a, .int .u32 t.b, .int .u32 t.c]] w fun e w' => e = .returned (.int .i64 0) ∧ Below w.heap.size w w'))
    (X : Hid (∀ w, Calls Try.prog 38 #[.agg #[.int .u32 (t.e + p0), .int .i64 2, .int .u32 l0, .int .u32 l1, .int .u32 0]] w fun e w' => e = .returned (.int .i64 c) ∧ Below w.heap.size w w'))
    (hd : (t.d != f) = false) (e0 : 0 ≤ t.e) (e1 : t.e ≤ 1048576) (_a0 : 0 ≤ t.a) (_a1 : t.a ≤ 1048576) (_b0 : 0 ≤ t.b) (_b1 : t.b ≤ 1048576) (_c0 : 0 ≤ t.c) (_c1 : t.c ≤ 1048576)
    (i0 : 0 ≤ p0) (i1 : p0 ≤ 1048576) (_j0 : 0 ≤ p1) (_j1 : p1 ≤ 1048576) (_k0 : 0 ≤ p2) (_k1 : p2 ≤ 1048576) (_m0 : 0 ≤ p3) (_m1 : p3 ≤ 1048576) (w : World) :
    Calls Try.prog 10 #[.agg #[.int .i64 (Pa.mk f 0 p0 p1 p2 p3 2 l0 l1 l2).f, .int .i64 (Pa.mk f 0 p0 p1 p2 p3 2 l0 l1 l2).k, .int .u32 (Pa.mk f 0 p0 p1 p2 p3 2 l0 l1 l2).p0, .int .u32 (Pa.mk f 0 p0 p1 p2 p3 2 l0 l1 l2).p1, .int .u32 (Pa.mk f 0 p0 p1 p2 p3 2 l0 l1 l2).p2, .int .u32 (Pa.mk f 0 p0 p1 p2 p3 2 l0 l1 l2).p3, .int .i64 (Pa.mk f 0 p0 p1 p2 p3 2 l0 l1 l2).u, .int .u32 (Pa.mk f 0 p0 p1 p2 p3 2 l0 l1 l2).l0, .int .u32 (Pa.mk f 0 p0 p1 p2 p3 2 l0 l1 l2).l1, .int .u32 (Pa.mk f 0 p0 p1 p2 p3 2 l0 l1 l2).l2], .agg #[.int .u32 t.e, .int .i64 t.d, .int .u32 t.a, .int .u32 t.b, .int .u32 t.c]] w (GivesT (if c = 0 then (Tm.mk (t.e + p0) 2 l0 l1 0) else T0) (if c = 0 then 0 else 9) w) := by
  have h0 := PTS.fresh w (Pa.mk f 0 p0 p1 p2 p3 2 l0 l1 l2) t
  dsimp only at h0 C ⊢
  by_cases hc : c = 0
  · subst hc
    go_enter Try.func10, Try.ntmps10
    go_wp2_with fail
    refine (C.out _).mono ?_
    rintro e w1 ⟨rfl, b1⟩
    have h1 := h0.below b1
    clear b1 h0
    generalize w.heap.size = g at h1 ⊢
    obtain ⟨qc, qf⟩ := all_of h1.pt.two
    go_wp2_with fail
    refine (K.out _).mono ?_
    rintro e w2 ⟨rfl, b2⟩
    have h2 := h1.below b2
    clear b2 h1 qc qf
    obtain ⟨pc, pf⟩ := all_of h2.pt.one
    obtain ⟨qc, qf⟩ := all_of h2.pt.two
    go_wp2_with fail
    have H : PTS w (w2.alloc (.cells #[.int .u32 (t.e + p0), .int .i64 2, .int .u32 0, .int .u32 0, .int .u32 0] 28)) g _ t := h2.alloc _
    have O := Whole.fresh w2 28 #[.int .u32 (t.e + p0), .int .i64 2, .int .u32 0, .int .u32 0, .int .u32 0]
    have hn : g + 1 + 1 < w2.heap.size := h2.res.inside
    clear h2 pc pf qc qf
    generalize w2.alloc (.cells #[.int .u32 (t.e + p0), .int .i64 2, .int .u32 0, .int .u32 0, .int .u32 0] 28) = W at H O ⊢
    generalize w2.heap.size = n at O hn ⊢
    clear w2
    refine wp_loop_rounds 4 ?_
    rw [rounds_succ]
    have pc := H.pt.one.read
    go_wp2_with fail
    clear pc
    refine wp_loop_rounds 4 ?_
    rw [rounds_succ]
    have pc := H.pt.one.read
    have qc := H.pt.two.read
    have oc := O.read
    have of := O.soft
    go_wp2_with fail
    go_region
    have H' := H.aside (i := 2) hn (.int .u32 l0)
    have O' : Whole (W.setCell ⟨n, 2, none⟩ (.int .u32 l0)) n 28 #[.int .u32 (t.e + p0), .int .i64 2, .int .u32 l0, .int .u32 0, .int .u32 0] := by simpa using O.store 2 (.int .u32 l0)
    clear pc qc oc of H O
    have H := H'
    have O := O'
    clear H' O'
    go_wp2_with fail
    generalize W.setCell ⟨n, 2, none⟩ (.int .u32 l0) = W' at H O ⊢
    clear W
    generalize W' = W at H O ⊢
    rw [rounds_succ]
    have pc := H.pt.one.read
    have qc := H.pt.two.read
    have oc := O.read
    have of := O.soft
    go_wp2_with fail
    go_region
    have H' := H.aside (i := 3) hn (.int .u32 l1)
    have O' : Whole (W.setCell ⟨n, 3, none⟩ (.int .u32 l1)) n 28 #[.int .u32 (t.e + p0), .int .i64 2, .int .u32 l0, .int .u32 l1, .int .u32 0] := by simpa using O.store 3 (.int .u32 l1)
    clear pc qc oc of H O
    have H := H'
    have O := O'
    clear H' O'
    go_wp2_with fail
    generalize W.setCell ⟨n, 3, none⟩ (.int .u32 l1) = W' at H O ⊢
    clear W
    generalize W' = W at H O ⊢
    rw [rounds_succ]
    have pc := H.pt.one.read
    have oc := O.read
    go_wp2_with fail
    refine (X.out _).mono ?_
    rintro e w5 ⟨rfl, b5⟩
    have h5 := H.drew.drew.below b5
    have O5 := Whole.below (w := W.drew.drew) O b5 O.inside
    clear b5 H pc oc O
    obtain ⟨oc, of⟩ := all_of O5
    go_wp2_with ((refine put rfl 28 (.tmp 4) _ rfl (g := g + 1 + 1) rfl rfl h5.res (by kernel_rfl) rfl (by simp [Value.oneCell']) h5.pt.old (by rw [h5.pt.base]; omega) ?_; intro w9 hR9 hB9 hs9 ho9))
    exact bodyPost_ret (two_time Try.results10 rfl rfl (t := (Tm.mk (t.e + p0) 2 l0 l1 0)) hR9) rfl (givesT hB9 (by simp) (by simp))
  · have hk : (c != 0) = true := by simpa using hc
    rw [if_neg hc, if_neg hc]
    clear hc
    go_enter Try.func10, Try.ntmps10
    go_wp2_with fail
    refine (C.out _).mono ?_
    rintro e w1 ⟨rfl, b1⟩
    have h1 := h0.below b1
    clear b1 h0
    generalize w.heap.size = g at h1 ⊢
    obtain ⟨qc, qf⟩ := all_of h1.pt.two
    go_wp2_with fail
    refine (K.out _).mono ?_
    rintro e w2 ⟨rfl, b2⟩
    have h2 := h1.below b2
    clear b2 h1 qc qf
    obtain ⟨pc, pf⟩ := all_of h2.pt.one
    obtain ⟨qc, qf⟩ := all_of h2.pt.two
    go_wp2_with fail
    have H : PTS w (w2.alloc (.cells #[.int .u32 (t.e + p0), .int .i64 2, .int .u32 0, .int .u32 0, .int .u32 0] 28)) g _ t := h2.alloc _
    have O := Whole.fresh w2 28 #[.int .u32 (t.e + p0), .int .i64 2, .int .u32 0, .int .u32 0, .int .u32 0]
    have hn : g + 1 + 1 < w2.heap.size := h2.res.inside
    clear h2 pc pf qc qf
    generalize w2.alloc (.cells #[.int .u32 (t.e + p0), .int .i64 2, .int .u32 0, .int .u32 0, .int .u32 0] 28) = W at H O ⊢
    generalize w2.heap.size = n at O hn ⊢
    clear w2
    refine wp_loop_rounds 4 ?_
    rw [rounds_succ]
    have pc := H.pt.one.read
    go_wp2_with fail
    clear pc
    refine wp_loop_rounds 4 ?_
    rw [rounds_succ]
    have pc := H.pt.one.read
    have qc := H.pt.two.read
    have oc := O.read
    have of := O.soft
    go_wp2_with fail
    go_region
    have H' := H.aside (i := 2) hn (.int .u32 l0)
    have O' : Whole (W.setCell ⟨n, 2, none⟩ (.int .u32 l0)) n 28 #[.int .u32 (t.e + p0), .int .i64 2, .int .u32 l0, .int .u32 0, .int .u32 0] := by simpa using O.store 2 (.int .u32 l0)
    clear pc qc oc of H O
    have H := H'
    have O := O'
    clear H' O'
    go_wp2_with fail
    generalize W.setCell ⟨n, 2, none⟩ (.int .u32 l0) = W' at H O ⊢
    clear W
    generalize W' = W at H O ⊢
    rw [rounds_succ]
    have pc := H.pt.one.read
    have qc := H.pt.two.read
    have oc := O.read
    have of := O.soft
    go_wp2_with fail
    go_region
    have H' := H.aside (i := 3) hn (.int .u32 l1)
    have O' : Whole (W.setCell ⟨n, 3, none⟩ (.int .u32 l1)) n 28 #[.int .u32 (t.e + p0), .int .i64 2, .int .u32 l0, .int .u32 l1, .int .u32 0] := by simpa using O.store 3 (.int .u32 l1)
    clear pc qc oc of H O
    have H := H'
    have O := O'
    clear H' O'
    go_wp2_with fail
    generalize W.setCell ⟨n, 3, none⟩ (.int .u32 l1) = W' at H O ⊢
    clear W
    generalize W' = W at H O ⊢
    rw [rounds_succ]
    have pc := H.pt.one.read
    have oc := O.read
    go_wp2_with fail
    refine (X.out _).mono ?_
    rintro e w5 ⟨rfl, b5⟩
    have h5 := H.drew.drew.below b5
    have O5 := Whole.below (w := W.drew.drew) O b5 O.inside
    clear b5 H pc oc O
    go_wp2_with ((refine put rfl 28 (.tmp 4) _ rfl (g := g + 1 + 1) rfl rfl h5.res (by kernel_rfl) rfl (by simp [Value.oneCell']) h5.pt.old (by rw [h5.pt.base]; omega) ?_; intro w9 hR9 hB9 hs9 ho9))
    exact bodyPost_ret (two_time Try.results10 rfl rfl (t := T0) hR9) rfl (givesT hB9 rfl rfl)
set_option maxHeartbeats 4000000 in
theorem applyR_03 (f p0 p1 p2 p3 l0 l1 l2 : Int) (t : Tm) (c : Int) (C : Hid (∀ w, Calls Try.prog 37 #[.agg #[.int .i64 (Pa.mk f 0 p0 p1 p2 p3 3 l0 l1 l2).f, .int .i64 (Pa.mk f 0 p0 p1 p2 p3 3 l0 l1 l2).k, .int .u32 (Pa.mk f 0 p0 p1 p2 p3 3 l0 l1 l2).p0, .int .u32 (Pa.mk f 0 p0 p1 p2 p3 3 l0 l1 l2).p1, .int .u32 (Pa.mk f 0 p0 p1 p2 p3 3 l0 l1 l2).p2, .int .u32 (Pa.mk f 0 p0 p1 p2 p3 3 l0 l1 l2).p3, .int .i64 (Pa.mk f 0 p0 p1 p2 p3 3 l0 l1 l2).u, .int .u32 (Pa.mk f 0 p0 p1 p2 p3 3 l0 l1 l2).l0, .int .u32 (Pa.mk f 0 p0 p1 p2 p3 3 l0 l1 l2).l1, .int .u32 (Pa.mk f 0 p0 p1 p2 p3 3 l0 l1 l2).l2]] w fun e w' => e = .returned (.int .i64 0) ∧ Below w.heap.size w w'))
    (K : Hid (∀ w, Calls Try.prog 38 #[.agg #[.int .u32 t.e, .int .i64 t.d, .int .u32 t.a, .int .u32 t.b, .int .u32 t.c]] w fun e w' => e = .returned (.int .i64 0) ∧ Below w.heap.size w w'))
    (X : Hid (∀ w, Calls Try.prog 38 #[.agg #[.int .u32 (t.e + p0), .int .i64 3, .int .u32 l0, .int .u32 l1, .int .u32 l2]] w fun e w' => e = .returned (.int .i64 c) ∧ Below w.heap.size w w'))
    (hd : (t.d != f) = false) (e0 : 0 ≤ t.e) (e1 : t.e ≤ 1048576) (_a0 : 0 ≤ t.a) (_a1 : t.a ≤ 1048576) (_b0 : 0 ≤ t.b) (_b1 : t.b ≤ 1048576) (_c0 : 0 ≤ t.c) (_c1 : t.c ≤ 1048576)
    (i0 : 0 ≤ p0) (i1 : p0 ≤ 1048576) (_j0 : 0 ≤ p1) (_j1 : p1 ≤ 1048576) (_k0 : 0 ≤ p2) (_k1 : p2 ≤ 1048576) (_m0 : 0 ≤ p3) (_m1 : p3 ≤ 1048576) (w : World) :
    Calls Try.prog 10 #[.agg #[.int .i64 (Pa.mk f 0 p0 p1 p2 p3 3 l0 l1 l2).f, .int .i64 (Pa.mk f 0 p0 p1 p2 p3 3 l0 l1 l2).k, .int .u32 (Pa.mk f 0 p0 p1 p2 p3 3 l0 l1 l2).p0, .int .u32 (Pa.mk f 0 p0 p1 p2 p3 3 l0 l1 l2).p1, .int .u32 (Pa.mk f 0 p0 p1 p2 p3 3 l0 l1 l2).p2, .int .u32 (Pa.mk f 0 p0 p1 p2 p3 3 l0 l1 l2).p3, .int .i64 (Pa.mk f 0 p0 p1 p2 p3 3 l0 l1 l2).u, .int .u32 (Pa.mk f 0 p0 p1 p2 p3 3 l0 l1 l2).l0, .int .u32 (Pa.mk f 0 p0 p1 p2 p3 3 l0 l1 l2).l1, .int .u32 (Pa.mk f 0 p0 p1 p2 p3 3 l0 l1 l2).l2], .agg #[.int .u32 t.e, .int .i64 t.d, .int .u32 t.a, .int .u32 t.b, .int .u32 t.c]] w (GivesT (if c = 0 then (Tm.mk (t.e + p0) 3 l0 l1 l2) else T0) (if c = 0 then 0 else 9) w) := by
  have h0 := PTS.fresh w (Pa.mk f 0 p0 p1 p2 p3 3 l0 l1 l2) t
  dsimp only at h0 C ⊢
  by_cases hc : c = 0
  · subst hc
    go_enter Try.func10, Try.ntmps10
    go_wp2_with fail
    refine (C.out _).mono ?_
    rintro e w1 ⟨rfl, b1⟩
    have h1 := h0.below b1
    clear b1 h0
    generalize w.heap.size = g at h1 ⊢
    obtain ⟨qc, qf⟩ := all_of h1.pt.two
    go_wp2_with fail
    refine (K.out _).mono ?_
    rintro e w2 ⟨rfl, b2⟩
    have h2 := h1.below b2
    clear b2 h1 qc qf
    obtain ⟨pc, pf⟩ := all_of h2.pt.one
    obtain ⟨qc, qf⟩ := all_of h2.pt.two
    go_wp2_with fail
    have H : PTS w (w2.alloc (.cells #[.int .u32 (t.e + p0), .int .i64 3, .int .u32 0, .int .u32 0, .int .u32 0] 28)) g _ t := h2.alloc _
    have O := Whole.fresh w2 28 #[.int .u32 (t.e + p0), .int .i64 3, .int .u32 0, .int .u32 0, .int .u32 0]
    have hn : g + 1 + 1 < w2.heap.size := h2.res.inside
    clear h2 pc pf qc qf
    generalize w2.alloc (.cells #[.int .u32 (t.e + p0), .int .i64 3, .int .u32 0, .int .u32 0, .int .u32 0] 28) = W at H O ⊢
    generalize w2.heap.size = n at O hn ⊢
    clear w2
    refine wp_loop_rounds 4 ?_
    rw [rounds_succ]
    have pc := H.pt.one.read
    go_wp2_with fail
    clear pc
    refine wp_loop_rounds 4 ?_
    rw [rounds_succ]
    have pc := H.pt.one.read
    have qc := H.pt.two.read
    have oc := O.read
    have of := O.soft
    go_wp2_with fail
    go_region
    have H' := H.aside (i := 2) hn (.int .u32 l0)
    have O' : Whole (W.setCell ⟨n, 2, none⟩ (.int .u32 l0)) n 28 #[.int .u32 (t.e + p0), .int .i64 3, .int .u32 l0, .int .u32 0, .int .u32 0] := by simpa using O.store 2 (.int .u32 l0)
    clear pc qc oc of H O
    have H := H'
    have O := O'
    clear H' O'
    go_wp2_with fail
    generalize W.setCell ⟨n, 2, none⟩ (.int .u32 l0) = W' at H O ⊢
    clear W
    generalize W' = W at H O ⊢
    rw [rounds_succ]
    have pc := H.pt.one.read
    have qc := H.pt.two.read
    have oc := O.read
    have of := O.soft
    go_wp2_with fail
    go_region
    have H' := H.aside (i := 3) hn (.int .u32 l1)
    have O' : Whole (W.setCell ⟨n, 3, none⟩ (.int .u32 l1)) n 28 #[.int .u32 (t.e + p0), .int .i64 3, .int .u32 l0, .int .u32 l1, .int .u32 0] := by simpa using O.store 3 (.int .u32 l1)
    clear pc qc oc of H O
    have H := H'
    have O := O'
    clear H' O'
    go_wp2_with fail
    generalize W.setCell ⟨n, 3, none⟩ (.int .u32 l1) = W' at H O ⊢
    clear W
    generalize W' = W at H O ⊢
    rw [rounds_succ]
    have pc := H.pt.one.read
    have qc := H.pt.two.read
    have oc := O.read
    have of := O.soft
    go_wp2_with fail
    go_region
    have H' := H.aside (i := 4) hn (.int .u32 l2)
    have O' : Whole (W.setCell ⟨n, 4, none⟩ (.int .u32 l2)) n 28 #[.int .u32 (t.e + p0), .int .i64 3, .int .u32 l0, .int .u32 l1, .int .u32 l2] := by simpa using O.store 4 (.int .u32 l2)
    clear pc qc oc of H O
    have H := H'
    have O := O'
    clear H' O'
    go_wp2_with fail
    generalize W.setCell ⟨n, 4, none⟩ (.int .u32 l2) = W' at H O ⊢
    clear W
    generalize W' = W at H O ⊢
    rw [rounds_succ]
    have pc := H.pt.one.read
    have oc := O.read
    go_wp2_with fail
    refine (X.out _).mono ?_
    rintro e w5 ⟨rfl, b5⟩
    have h5 := H.drew.drew.drew.below b5
    have O5 := Whole.below (w := W.drew.drew.drew) O b5 O.inside
    clear b5 H pc oc O
    obtain ⟨oc, of⟩ := all_of O5
    go_wp2_with ((refine put rfl 28 (.tmp 4) _ rfl (g := g + 1 + 1) rfl rfl h5.res (by kernel_rfl) rfl (by simp [Value.oneCell']) h5.pt.old (by rw [h5.pt.base]; omega) ?_; intro w9 hR9 hB9 hs9 ho9))
    exact bodyPost_ret (two_time Try.results10 rfl rfl (t := (Tm.mk (t.e + p0) 3 l0 l1 l2)) hR9) rfl (givesT hB9 (by simp) (by simp))
  · have hk : (c != 0) = true := by simpa using hc
    rw [if_neg hc, if_neg hc]
    clear hc
    go_enter Try.func10, Try.ntmps10
    go_wp2_with fail
    refine (C.out _).mono ?_
    rintro e w1 ⟨rfl, b1⟩
    have h1 := h0.below b1
    clear b1 h0
    generalize w.heap.size = g at h1 ⊢
    obtain ⟨qc, qf⟩ := all_of h1.pt.two
    go_wp2_with fail
    refine (K.out _).mono ?_
    rintro e w2 ⟨rfl, b2⟩
    have h2 := h1.below b2
    clear b2 h1 qc qf
    obtain ⟨pc, pf⟩ := all_of h2.pt.one
    obtain ⟨qc, qf⟩ := all_of h2.pt.two
    go_wp2_with fail
    have H : PTS w (w2.alloc (.cells #[.int .u32 (t.e + p0), .int .i64 3, .int .u32 0, .int .u32 0, .int .u32 0] 28)) g _ t := h2.alloc _
    have O := Whole.fresh w2 28 #[.int .u32 (t.e + p0), .int .i64 3, .int .u32 0, .int .u32 0, .int .u32 0]
    have hn : g + 1 + 1 < w2.heap.size := h2.res.inside
    clear h2 pc pf qc qf
    generalize w2.alloc (.cells #[.int .u32 (t.e + p0), .int .i64 3, .int .u32 0, .int .u32 0, .int .u32 0] 28) = W at H O ⊢
    generalize w2.heap.size = n at O hn ⊢
    clear w2
    refine wp_loop_rounds 4 ?_
    rw [rounds_succ]
    have pc := H.pt.one.read
    go_wp2_with fail
    clear pc
    refine wp_loop_rounds 4 ?_
    rw [rounds_succ]
    have pc := H.pt.one.read
    have qc := H.pt.two.read
    have oc := O.read
    have of := O.soft
    go_wp2_with fail
    go_region
    have H' := H.aside (i := 2) hn (.int .u32 l0)
    have O' : Whole (W.setCell ⟨n, 2, none⟩ (.int .u32 l0)) n 28 #[.int .u32 (t.e + p0), .int .i64 3, .int .u32 l0, .int .u32 0, .int .u32 0] := by simpa using O.store 2 (.int .u32 l0)
    clear pc qc oc of H O
    have H := H'
    have O := O'
    clear H' O'
    go_wp2_with fail
    generalize W.setCell ⟨n, 2, none⟩ (.int .u32 l0) = W' at H O ⊢
    clear W
    generalize W' = W at H O ⊢
    rw [rounds_succ]
    have pc := H.pt.one.read
    have qc := H.pt.two.read
    have oc := O.read
    have of := O.soft
    go_wp2_with fail
    go_region
    have H' := H.aside (i := 3) hn (.int .u32 l1)
    have O' : Whole (W.setCell ⟨n, 3, none⟩ (.int .u32 l1)) n 28 #[.int .u32 (t.e + p0), .int .i64 3, .int .u32 l0, .int .u32 l1, .int .u32 0] := by simpa using O.store 3 (.int .u32 l1)
    clear pc qc oc of H O
    have H := H'
    have O := O'
    clear H' O'
    go_wp2_with fail
    generalize W.setCell ⟨n, 3, none⟩ (.int .u32 l1) = W' at H O ⊢
    clear W
    generalize W' = W at H O ⊢
    rw [rounds_succ]
    have pc := H.pt.one.read
    have qc := H.pt.two.read
    have oc := O.read
    have of := O.soft
    go_wp2_with fail
    go_region
    have H' := H.aside (i := 4) hn (.int .u32 l2)
    have O' : Whole (W.setCell ⟨n, 4, none⟩ (.int .u32 l2)) n 28 #[.int .u32 (t.e + p0), .int .i64 3, .int .u32 l0, .int .u32 l1, .int .u32 l2] := by simpa using O.store 4 (.int .u32 l2)
    clear pc qc oc of H O
    have H := H'
    have O := O'
    clear H' O'
    go_wp2_with fail
    generalize W.setCell ⟨n, 4, none⟩ (.int .u32 l2) = W' at H O ⊢
    clear W
    generalize W' = W at H O ⊢
    rw [rounds_succ]
    have pc := H.pt.one.read
    have oc := O.read
    go_wp2_with fail
    refine (X.out _).mono ?_
    rintro e w5 ⟨rfl, b5⟩
    have h5 := H.drew.drew.drew.below b5
    have O5 := Whole.below (w := W.drew.drew.drew) O b5 O.inside
    clear b5 H pc oc O
    go_wp2_with ((refine put rfl 28 (.tmp 4) _ rfl (g := g + 1 + 1) rfl rfl h5.res (by kernel_rfl) rfl (by simp [Value.oneCell']) h5.pt.old (by rw [h5.pt.base]; omega) ?_; intro w9 hR9 hB9 hs9 ho9))
    exact bodyPost_ret (two_time Try.results10 rfl rfl (t := T0) hR9) rfl (givesT hB9 rfl rfl)
end Go.Proofs.Ytilkdpobkcocoaa.path
