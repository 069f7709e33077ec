/-
  The contract of path.Apply, at any path and any time.
-/
import Derived.Test.YtilkdpobkcocoaaSt
import Derived.Deep.QuietTactic
import Derived.BigQuiet
import Derived.Deep.RegionLaw
import Derived.Laws.CopyOwn
import Derived.Deep.Cut
namespace Go.Proofs.Ytilkdpobkcocoaa.path
open Go.ChangeShapes Go.WideShapes Go.ChangeAt Go.RowKit
open Go.Proofs.Ytilkdpobkcocoaa.tm Go.Proofs.Ytilkdpobkcocoaa.opened Go.Proofs.Ytilkdpobkcocoaa.block Go.Proofs.Ytilkdpobkcocoaa.stamp Go.Proofs.Ytilkdpobkcocoaa.pa

/-- Beside a path and a time, the block for what is handed back. -/
structure PTR (w wr : World) (g : Nat) (p : Pa) (t : Tm) : Prop where
  pt : PT w wr g 32 p t
  res : Whole wr (g + 1 + 1) 28 #[.int .u32 0, .int .i64 0, .int .u32 0, .int .u32 0, .int .u32 0]
theorem PTR.below {w wr w1 : World} {g : Nat} {p : Pa} {t : Tm} (h : PTR w wr g p t) (k : Below wr.heap.size wr w1) : PTR w w1 g p t := ⟨h.pt.below k, h.res.below k h.res.inside⟩
theorem PTR.fresh (w : World) (p : Pa) (t : Tm) : PTR w (((w.alloc (.cells #[.int .i64 p.f, .int .i64 p.k, .int .u32 p.p0, .int .u32 p.p1, .int .u32 p.p2, .int .u32 p.p3, .int .i64 p.u, .int .u32 p.l0, .int .u32 p.l1, .int .u32 p.l2] 32)).alloc (.cells #[.int .u32 t.e, .int .i64 t.d, .int .u32 t.a, .int .u32 t.b, .int .u32 t.c] 28)).alloc (.cells #[.int .u32 0, .int .i64 0, .int .u32 0, .int .u32 0, .int .u32 0] 28)) w.heap.size p t := by
  refine ⟨(PT.fresh w _ p t).alloc _, ?_⟩
  have k := Whole.fresh ((w.alloc (.cells #[.int .i64 p.f, .int .i64 p.k, .int .u32 p.p0, .int .u32 p.p1, .int .u32 p.p2, .int .u32 p.p3, .int .i64 p.u, .int .u32 p.l0, .int .u32 p.l1, .int .u32 p.l2] 32)).alloc (.cells #[.int .u32 t.e, .int .i64 t.d, .int .u32 t.a, .int .u32 t.b, .int .u32 t.c] 28)) 28 #[.int .u32 0, .int .i64 0, .int .u32 0, .int .u32 0, .int .u32 0]
  rw [World.size_alloc, World.size_alloc] at k
  exact k
theorem quiet_at {P : Program} {f : FuncId} {args : Array Value} {w : World} {a n : Nat} {v : Value} (h : ∀ W : World, Calls P f args W fun e w' => e = .returned v ∧ W = w') :
    Calls P f args (w.drewN (a + n)) fun e w' => e = .returned v ∧ ∃ m, w' = w.drewN (a + m) := (h _).mono fun _ _ ⟨he, hm⟩ => ⟨he, n, hm.symm⟩
theorem PTR.aside {w wr : World} {g : Nat} {p : Pa} {t : Tm} (h : PTR w wr g p t) {n i : Nat} (hn : g + 1 + 1 < n) (v : Value) : PTR w (wr.setCell ⟨n, i, none⟩ v) g p t :=
  ⟨⟨h.pt.one.aside (by simp; omega) v, h.pt.two.aside (by simp; omega) v, h.pt.old.setCell (by have := h.pt.base; simp; omega) v, h.pt.base⟩, h.res.aside (by simp; omega) v⟩
theorem PTR.upto {w wr w1 : World} {g n : Nat} {p : Pa} {t : Tm} (h : PTR w wr g p t) (k : Below n wr w1) (hn : g + 1 + 1 < n) : PTR w w1 g p t :=
  ⟨⟨h.pt.one.below k (by omega), h.pt.two.below k (by omega), h.pt.old.trans (k.mono (by have := h.pt.base; omega)), h.pt.base⟩, h.res.below k (by omega)⟩
theorem low {P : Program} {f : FuncId} {args : Array Value} {v : Value} (h : ∀ W : World, Calls P f args W fun e w' => e = .returned v ∧ W = w') (W : World) : Calls P f args W fun e w' => e = .returned v ∧ Below W.heap.size W w' :=
  (h W).mono fun _ _ ⟨he, hw⟩ => ⟨he, hw ▸ Below.refl _ _⟩
theorem apply_bad (p : Pa) (t : Tm) (i : p.In) (j : t.In) (h : startE p t ≠ 0) (w : World) : Calls Try.prog 8 #[.agg #[.int .i64 p.f, .int .i64 p.k, .int .u32 p.p0, .int .u32 p.p1, .int .u32 p.p2, .int .u32 p.p3, .int .i64 p.u, .int .u32 p.l0, .int .u32 p.l1, .int .u32 p.l2], .agg #[.int .u32 t.e, .int .i64 t.d, .int .u32 t.a, .int .u32 t.b, .int .u32 t.c]] w (GivesT T0 (startE p t) w) := by
  have C := Lib.hid (start_any p t i j)
  clear i j
  generalize startE p t = x at C h ⊢
  have hx : (x != 0) = true := by simpa using h
  clear h
  have h0 := PTR.fresh w p t
  go_enter Try.func8, Try.ntmps8
  go_wp2_with (first
    | (go_at_call 35; refine (C.out _).mono ?_; rintro e w1 ⟨rfl, b1⟩; have h1 := h0.below b1; clear b1 h0; generalize w.heap.size = g at h1 ⊢; have hg2 : g + 1 + 1 < w1.heap.size := h1.res.inside; have hg1 : g + 1 < w1.heap.size := h1.pt.two.inside; have hg0 : g < w1.heap.size := h1.pt.one.inside; obtain ⟨pc, pf⟩ := all_of h1.pt.one; obtain ⟨qc, qf⟩ := all_of h1.pt.two)
    | (refine put rfl 28 (.tmp 4) _ rfl (g := g + 1 + 1) rfl rfl h1.res (by kernel_rfl) rfl (by simp [Value.oneCell']) h1.pt.old (by rw [h1.pt.base]; omega) ?_; intro w9 hR9 hB9 hs9 ho9))
  exact bodyPost_ret (two_time Try.results8 rfl rfl (t := T0) hR9) rfl (givesT hB9 rfl rfl)
set_option maxHeartbeats 4000000 in
theorem apply_ovr (p : Pa) (t : Tm) (i : p.In) (j : t.In) (h : startE p t = 0) (ov : overT (rawT p t)) (w : World) : Calls Try.prog 8 #[.agg #[.int .i64 p.f, .int .i64 p.k, .int .u32 p.p0, .int .u32 p.p1, .int .u32 p.p2, .int .u32 p.p3, .int .i64 p.u, .int .u32 p.l0, .int .u32 p.l1, .int .u32 p.l2], .agg #[.int .u32 t.e, .int .i64 t.d, .int .u32 t.a, .int .u32 t.b, .int .u32 t.c]] w (GivesT T0 9 w) := by
  have g0 : (p.l0 ≤ 1048576 ∧ p.l1 ≤ 1048576 ∧ p.l2 ≤ 1048576) := by
    unfold startE at h
    split at h
    · rename_i hc; exact (chkP_open hc).2.2.1
    · omega
  obtain ⟨g4, g5, g6⟩ := g0
  have C := Lib.hid (start_any p t i j)
  rw [h] at C
  have hz : chkP p = 0 ∧ chk t = 0 := by
    unfold startE at h
    split at h
    · split at h
      · exact ⟨by assumption, by assumption⟩
      · omega
    · omega
  clear h
  obtain ⟨⟨d1, d2, d3, d4, d5, d6⟩, ⟨f1, f2, f3, f4⟩, ⟨g1, g2, g3⟩, -, LU⟩ := chkP_open hz.1
  obtain ⟨-, -, f5, f6, f7, f8, -⟩ := chk_zero hz.2
  clear hz g1 g2 g3
  have i1 := i.p00
  have i2 := i.p10
  have i3 := i.p20
  have i4 := i.p30
  have j1 := j.e0
  have j2 := j.a0
  have j3 := j.b0
  have j4 := j.c0
  have h0 := PTR.fresh w p t
  obtain ⟨f, k, p0, p1, p2, p3, u, l0, l1, l2⟩ := p
  dsimp only at d1 d2 d3 d4 d5 d6 f1 f2 f3 f4 i1 i2 i3 i4 LU g4 g5 g6 h0 C
  rcases four d3 (by omega) with rfl | rfl | rfl | rfl
  · rcases Int.lt_or_le 1048576 (t.e + p0) with s0 | s0
    · clear ov LU d1 d2 d3 d4
      have A0 := Lib.hid (add_over (a := t.e) (b := p0) (by omega) (by omega) (by omega) (by omega) s0)
      clear i j f1 f2 f3 f4 f5 f6 f7 f8 i1 i2 i3 i4 j1 j2 j3 j4
      go_enter Try.func8, Try.ntmps8
      go_wp2_with (first
        | (go_at_call 35; refine (C.out _).mono ?_; rintro e w1 ⟨rfl, b1⟩; have h1 := h0.below b1; clear b1 h0; generalize w.heap.size = g at h1 ⊢; have hg2 : g + 1 + 1 < w1.heap.size := h1.res.inside; have hg1 : g + 1 < w1.heap.size := h1.pt.two.inside; have hg0 : g < w1.heap.size := h1.pt.one.inside; obtain ⟨pc, pf⟩ := all_of h1.pt.one; obtain ⟨qc, qf⟩ := all_of h1.pt.two)
        | (go_at_call 36; refine (A0.out _).mono ?_; rintro e w2 ⟨rfl, rfl⟩)
        | (refine put rfl 28 (.tmp 4) _ rfl (g := g + 1 + 1) rfl rfl h1.res (by kernel_rfl) rfl (by simp [Value.oneCell']) h1.pt.old (by rw [h1.pt.base]; omega) ?_; intro w9 hR9 hB9 hs9 ho9))
      exact bodyPost_ret (two_time Try.results8 rfl rfl (t := T0) hR9) rfl (givesT hB9 rfl rfl)
    · exact absurd ov (by simp [rawT, overT]; omega)
  · rcases Int.lt_or_le 1048576 (t.e + p0) with s0 | s0
    · clear ov LU d1 d2 d3 d4
      have A0 := Lib.hid (add_over (a := t.e) (b := p0) (by omega) (by omega) (by omega) (by omega) s0)
      clear i j f1 f2 f3 f4 f5 f6 f7 f8 i1 i2 i3 i4 j1 j2 j3 j4
      go_enter Try.func8, Try.ntmps8
      go_wp2_with (first
        | (go_at_call 35; refine (C.out _).mono ?_; rintro e w1 ⟨rfl, b1⟩; have h1 := h0.below b1; clear b1 h0; generalize w.heap.size = g at h1 ⊢; have hg2 : g + 1 + 1 < w1.heap.size := h1.res.inside; have hg1 : g + 1 < w1.heap.size := h1.pt.two.inside; have hg0 : g < w1.heap.size := h1.pt.one.inside; obtain ⟨pc, pf⟩ := all_of h1.pt.one; obtain ⟨qc, qf⟩ := all_of h1.pt.two)
        | (go_at_call 36; refine (A0.out _).mono ?_; rintro e w2 ⟨rfl, rfl⟩)
        | (refine put rfl 28 (.tmp 4) _ rfl (g := g + 1 + 1) rfl rfl h1.res (by kernel_rfl) rfl (by simp [Value.oneCell']) h1.pt.old (by rw [h1.pt.base]; omega) ?_; intro w9 hR9 hB9 hs9 ho9))
      exact bodyPost_ret (two_time Try.results8 rfl rfl (t := T0) hR9) rfl (givesT hB9 rfl rfl)
    · rcases Int.lt_or_le 1048576 (t.a + p1) with s1 | s1
      · clear ov LU d1 d2 d3 d4
        have A0 := Lib.hid (add_ok (a := t.e) (b := p0) (by omega) (by omega) (by omega) (by omega) s0)
        have A1 := Lib.hid (add_over (a := t.a) (b := p1) (by omega) (by omega) (by omega) (by omega) s1)
        clear i j f1 f2 f3 f4 f5 f6 f7 f8 i1 i2 i3 i4 j1 j2 j3 j4
        go_enter Try.func8, Try.ntmps8
        go_wp2_with (first
          | (go_at_call 35; refine (C.out _).mono ?_; rintro e w1 ⟨rfl, b1⟩; have h1 := h0.below b1; clear b1 h0; generalize w.heap.size = g at h1 ⊢; have hg2 : g + 1 + 1 < w1.heap.size := h1.res.inside; have hg1 : g + 1 < w1.heap.size := h1.pt.two.inside; have hg0 : g < w1.heap.size := h1.pt.one.inside; obtain ⟨pc, pf⟩ := all_of h1.pt.one; obtain ⟨qc, qf⟩ := all_of h1.pt.two)
          | (go_at_call 36; refine (A0.out _).mono ?_; rintro e w2 ⟨rfl, rfl⟩))
        have H : PTR w (w1.alloc (.cells #[.int .u32 (t.e + p0), .int .i64 (1 + u), .int .u32 0, .int .u32 0, .int .u32 0] 28)) g _ t := ⟨h1.pt.alloc _, h1.res.alloc _⟩
        have O := Whole.fresh w1 28 #[.int .u32 (t.e + p0), .int .i64 (1 + u), .int .u32 0, .int .u32 0, .int .u32 0]
        clear h1 hg1 hg0 pc pf qc qf
        have hn : g + 1 + 1 < w1.heap.size := hg2
        clear hg2
        generalize w1.alloc (.cells #[.int .u32 (t.e + p0), .int .i64 (1 + u), .int .u32 0, .int .u32 0, .int .u32 0] 28) = W at H O ⊢
        generalize w1.heap.size = n at H O hn ⊢
        clear w1
        refine wp_loop_rounds 4 ?_
        rw [rounds_succ]
        go_wp2_with fail
        have c1 : ∀ (x : Since W) (i : Nat), x.1.cell? ⟨g, i, none⟩ = _ := fun x i => (H.pt.one.below x.2 H.pt.one.inside).read i
        have c2 : ∀ (x : Since W) (i : Nat), x.1.cell? ⟨g + 1, i, none⟩ = _ := fun x i => (H.pt.two.below x.2 H.pt.two.inside).read i
        refine region_since W (by kernel_rfl) (by kernel_rfl) (Below.refl _ _) ?_
        repeat (go_big_quiet_step ((go_at_call 36; with_reducible exact since_call (low A1.out) _)))
        refine wpQuiet_nil ?_
        rintro w4 ⟨x, hw⟩
        have H' := H.below (hw ▸ x.2)
        have O' := O.below (hw ▸ x.2) O.inside
        clear hw x c1 c2 H O W
        go_wp2_with ((refine put rfl 28 (.tmp 4) _ rfl (g := g + 1 + 1) rfl rfl H'.res (by kernel_rfl) rfl (by simp [Value.oneCell']) H'.pt.old (by rw [H'.pt.base]; omega) ?_; intro w9 hR9 hB9 hs9 ho9))
        exact bodyPost_ret (two_time Try.results8 rfl rfl (t := T0) hR9) rfl (givesT hB9 rfl rfl)
      · exact absurd ov (by simp [rawT, overT]; omega)
  · rcases Int.lt_or_le 1048576 (t.e + p0) with s0 | s0
    · clear ov LU d1 d2 d3 d4
      have A0 := Lib.hid (add_over (a := t.e) (b := p0) (by omega) (by omega) (by omega) (by omega) s0)
      clear i j f1 f2 f3 f4 f5 f6 f7 f8 i1 i2 i3 i4 j1 j2 j3 j4
      go_enter Try.func8, Try.ntmps8
      go_wp2_with (first
        | (go_at_call 35; refine (C.out _).mono ?_; rintro e w1 ⟨rfl, b1⟩; have h1 := h0.below b1; clear b1 h0; generalize w.heap.size = g at h1 ⊢; have hg2 : g + 1 + 1 < w1.heap.size := h1.res.inside; have hg1 : g + 1 < w1.heap.size := h1.pt.two.inside; have hg0 : g < w1.heap.size := h1.pt.one.inside; obtain ⟨pc, pf⟩ := all_of h1.pt.one; obtain ⟨qc, qf⟩ := all_of h1.pt.two)
        | (go_at_call 36; refine (A0.out _).mono ?_; rintro e w2 ⟨rfl, rfl⟩)
        | (refine put rfl 28 (.tmp 4) _ rfl (g := g + 1 + 1) rfl rfl h1.res (by kernel_rfl) rfl (by simp [Value.oneCell']) h1.pt.old (by rw [h1.pt.base]; omega) ?_; intro w9 hR9 hB9 hs9 ho9))
      exact bodyPost_ret (two_time Try.results8 rfl rfl (t := T0) hR9) rfl (givesT hB9 rfl rfl)
    · rcases Int.lt_or_le 1048576 (t.a + p1) with s1 | s1
      · clear ov LU d1 d2 d3 d4
        have A0 := Lib.hid (add_ok (a := t.e) (b := p0) (by omega) (by omega) (by omega) (by omega) s0)
        have A1 := Lib.hid (add_over (a := t.a) (b := p1) (by omega) (by omega) (by omega) (by omega) s1)
        clear i j f1 f2 f3 f4 f5 f6 f7 f8 i1 i2 i3 i4 j1 j2 j3 j4
        go_enter Try.func8, Try.ntmps8
        go_wp2_with (first
          | (go_at_call 35; refine (C.out _).mono ?_; rintro e w1 ⟨rfl, b1⟩; have h1 := h0.below b1; clear b1 h0; generalize w.heap.size = g at h1 ⊢; have hg2 : g + 1 + 1 < w1.heap.size := h1.res.inside; have hg1 : g + 1 < w1.heap.size := h1.pt.two.inside; have hg0 : g < w1.heap.size := h1.pt.one.inside; obtain ⟨pc, pf⟩ := all_of h1.pt.one; obtain ⟨qc, qf⟩ := all_of h1.pt.two)
          | (go_at_call 36; refine (A0.out _).mono ?_; rintro e w2 ⟨rfl, rfl⟩))
        have H : PTR w (w1.alloc (.cells #[.int .u32 (t.e + p0), .int .i64 (2 + u), .int .u32 0, .int .u32 0, .int .u32 0] 28)) g _ t := ⟨h1.pt.alloc _, h1.res.alloc _⟩
        have O := Whole.fresh w1 28 #[.int .u32 (t.e + p0), .int .i64 (2 + u), .int .u32 0, .int .u32 0, .int .u32 0]
        clear h1 hg1 hg0 pc pf qc qf
        have hn : g + 1 + 1 < w1.heap.size := hg2
        clear hg2
        generalize w1.alloc (.cells #[.int .u32 (t.e + p0), .int .i64 (2 + u), .int .u32 0, .int .u32 0, .int .u32 0] 28) = W at H O ⊢
        generalize w1.heap.size = n at H O hn ⊢
        clear w1
        refine wp_loop_rounds 4 ?_
        rw [rounds_succ]
        go_wp2_with fail
        have c1 : ∀ (x : Since W) (i : Nat), x.1.cell? ⟨g, i, none⟩ = _ := fun x i => (H.pt.one.below x.2 H.pt.one.inside).read i
        have c2 : ∀ (x : Since W) (i : Nat), x.1.cell? ⟨g + 1, i, none⟩ = _ := fun x i => (H.pt.two.below x.2 H.pt.two.inside).read i
        refine region_since W (by kernel_rfl) (by kernel_rfl) (Below.refl _ _) ?_
        repeat (go_big_quiet_step ((go_at_call 36; with_reducible exact since_call (low A1.out) _)))
        refine wpQuiet_nil ?_
        rintro w4 ⟨x, hw⟩
        have H' := H.below (hw ▸ x.2)
        have O' := O.below (hw ▸ x.2) O.inside
        clear hw x c1 c2 H O W
        go_wp2_with ((refine put rfl 28 (.tmp 4) _ rfl (g := g + 1 + 1) rfl rfl H'.res (by kernel_rfl) rfl (by simp [Value.oneCell']) H'.pt.old (by rw [H'.pt.base]; omega) ?_; intro w9 hR9 hB9 hs9 ho9))
        exact bodyPost_ret (two_time Try.results8 rfl rfl (t := T0) hR9) rfl (givesT hB9 rfl rfl)
      · rcases Int.lt_or_le 1048576 (t.b + p2) with s2 | s2
        · clear ov LU d1 d2 d3 d4
          have A0 := Lib.hid (add_ok (a := t.e) (b := p0) (by omega) (by omega) (by omega) (by omega) s0)
          have A1 := Lib.hid (add_ok (a := t.a) (b := p1) (by omega) (by omega) (by omega) (by omega) s1)
          have A2 := Lib.hid (add_over (a := t.b) (b := p2) (by omega) (by omega) (by omega) (by omega) s2)
          clear i j f1 f2 f3 f4 f5 f6 f7 f8 i1 i2 i3 i4 j1 j2 j3 j4
          go_enter Try.func8, Try.ntmps8
          go_wp2_with (first
            | (go_at_call 35; refine (C.out _).mono ?_; rintro e w1 ⟨rfl, b1⟩; have h1 := h0.below b1; clear b1 h0; generalize w.heap.size = g at h1 ⊢; have hg2 : g + 1 + 1 < w1.heap.size := h1.res.inside; have hg1 : g + 1 < w1.heap.size := h1.pt.two.inside; have hg0 : g < w1.heap.size := h1.pt.one.inside; obtain ⟨pc, pf⟩ := all_of h1.pt.one; obtain ⟨qc, qf⟩ := all_of h1.pt.two)
            | (go_at_call 36; refine (A0.out _).mono ?_; rintro e w2 ⟨rfl, rfl⟩))
          have H : PTR w (w1.alloc (.cells #[.int .u32 (t.e + p0), .int .i64 (2 + u), .int .u32 0, .int .u32 0, .int .u32 0] 28)) g _ t := ⟨h1.pt.alloc _, h1.res.alloc _⟩
          have O := Whole.fresh w1 28 #[.int .u32 (t.e + p0), .int .i64 (2 + u), .int .u32 0, .int .u32 0, .int .u32 0]
          clear h1 hg1 hg0 pc pf qc qf
          have hn : g + 1 + 1 < w1.heap.size := hg2
          clear hg2
          generalize w1.alloc (.cells #[.int .u32 (t.e + p0), .int .i64 (2 + u), .int .u32 0, .int .u32 0, .int .u32 0] 28) = W at H O ⊢
          generalize w1.heap.size = n at H O hn ⊢
          clear w1
          refine wp_loop_rounds 4 ?_
          rw [rounds_succ]
          go_wp2_with fail
          have c1 : ∀ (x : Since W) (i : Nat), x.1.cell? ⟨g, i, none⟩ = _ := fun x i => (H.pt.one.below x.2 H.pt.one.inside).read i
          have c2 : ∀ (x : Since W) (i : Nat), x.1.cell? ⟨g + 1, i, none⟩ = _ := fun x i => (H.pt.two.below x.2 H.pt.two.inside).read i
          refine region_since W (by kernel_rfl) (by kernel_rfl) (Below.refl _ _) ?_
          repeat (go_big_quiet_step ((go_at_call 36; with_reducible exact since_call (low A1.out) _)))
          refine wpQuiet_nil ?_
          rintro w4 ⟨x, hw⟩
          have H' := H.below (hw ▸ x.2)
          have O' := O.below (hw ▸ x.2) O.inside
          clear hw x c1 c2 H O W
          have oc := O'.read 2
          have of := O'.soft 2
          go_wp2_with fail
          have H := H'.aside (i := 2) hn (.int .u32 (t.a + p1))
          have O : Whole (w4.setCell ⟨n, 2, none⟩ (.int .u32 (t.a + p1))) n 28 #[.int .u32 (t.e + p0), .int .i64 (2 + u), .int .u32 (t.a + p1), .int .u32 0, .int .u32 0] := by simpa using O'.store 2 (.int .u32 (t.a + p1))
          clear oc of H' O'
          generalize w4.setCell ⟨n, 2, none⟩ (.int .u32 (t.a + p1)) = W at H O ⊢
          clear w4
          rw [rounds_succ]
          go_wp2_with fail
          have c1 : ∀ (x : Since W) (i : Nat), x.1.cell? ⟨g, i, none⟩ = _ := fun x i => (H.pt.one.below x.2 H.pt.one.inside).read i
          have c2 : ∀ (x : Since W) (i : Nat), x.1.cell? ⟨g + 1, i, none⟩ = _ := fun x i => (H.pt.two.below x.2 H.pt.two.inside).read i
          refine region_since W (by kernel_rfl) (by kernel_rfl) (Below.refl _ _) ?_
          repeat (go_big_quiet_step ((go_at_call 36; with_reducible exact since_call (low A2.out) _)))
          refine wpQuiet_nil ?_
          rintro w4 ⟨x, hw⟩
          have H' := H.below (hw ▸ x.2)
          have O' := O.below (hw ▸ x.2) O.inside
          clear hw x c1 c2 H O W
          go_wp2_with ((refine put rfl 28 (.tmp 4) _ rfl (g := g + 1 + 1) rfl rfl H'.res (by kernel_rfl) rfl (by simp [Value.oneCell']) H'.pt.old (by rw [H'.pt.base]; omega) ?_; intro w9 hR9 hB9 hs9 ho9))
          exact bodyPost_ret (two_time Try.results8 rfl rfl (t := T0) hR9) rfl (givesT hB9 rfl rfl)
        · exact absurd ov (by simp [rawT, overT]; omega)
  · rcases Int.lt_or_le 1048576 (t.e + p0) with s0 | s0
    · clear ov LU d1 d2 d3 d4
      have A0 := Lib.hid (add_over (a := t.e) (b := p0) (by omega) (by omega) (by omega) (by omega) s0)
      clear i j f1 f2 f3 f4 f5 f6 f7 f8 i1 i2 i3 i4 j1 j2 j3 j4
      go_enter Try.func8, Try.ntmps8
      go_wp2_with (first
        | (go_at_call 35; refine (C.out _).mono ?_; rintro e w1 ⟨rfl, b1⟩; have h1 := h0.below b1; clear b1 h0; generalize w.heap.size = g at h1 ⊢; have hg2 : g + 1 + 1 < w1.heap.size := h1.res.inside; have hg1 : g + 1 < w1.heap.size := h1.pt.two.inside; have hg0 : g < w1.heap.size := h1.pt.one.inside; obtain ⟨pc, pf⟩ := all_of h1.pt.one; obtain ⟨qc, qf⟩ := all_of h1.pt.two)
        | (go_at_call 36; refine (A0.out _).mono ?_; rintro e w2 ⟨rfl, rfl⟩)
        | (refine put rfl 28 (.tmp 4) _ rfl (g := g + 1 + 1) rfl rfl h1.res (by kernel_rfl) rfl (by simp [Value.oneCell']) h1.pt.old (by rw [h1.pt.base]; omega) ?_; intro w9 hR9 hB9 hs9 ho9))
      exact bodyPost_ret (two_time Try.results8 rfl rfl (t := T0) hR9) rfl (givesT hB9 rfl rfl)
    · rcases Int.lt_or_le 1048576 (t.a + p1) with s1 | s1
      · clear ov LU d1 d2 d3 d4
        have A0 := Lib.hid (add_ok (a := t.e) (b := p0) (by omega) (by omega) (by omega) (by omega) s0)
        have A1 := Lib.hid (add_over (a := t.a) (b := p1) (by omega) (by omega) (by omega) (by omega) s1)
        clear i j f1 f2 f3 f4 f5 f6 f7 f8 i1 i2 i3 i4 j1 j2 j3 j4
        go_enter Try.func8, Try.ntmps8
        go_wp2_with (first
          | (go_at_call 35; refine (C.out _).mono ?_; rintro e w1 ⟨rfl, b1⟩; have h1 := h0.below b1; clear b1 h0; generalize w.heap.size = g at h1 ⊢; have hg2 : g + 1 + 1 < w1.heap.size := h1.res.inside; have hg1 : g + 1 < w1.heap.size := h1.pt.two.inside; have hg0 : g < w1.heap.size := h1.pt.one.inside; obtain ⟨pc, pf⟩ := all_of h1.pt.one; obtain ⟨qc, qf⟩ := all_of h1.pt.two)
          | (go_at_call 36; refine (A0.out _).mono ?_; rintro e w2 ⟨rfl, rfl⟩))
        have H : PTR w (w1.alloc (.cells #[.int .u32 (t.e + p0), .int .i64 (3 + u), .int .u32 0, .int .u32 0, .int .u32 0] 28)) g _ t := ⟨h1.pt.alloc _, h1.res.alloc _⟩
        have O := Whole.fresh w1 28 #[.int .u32 (t.e + p0), .int .i64 (3 + u), .int .u32 0, .int .u32 0, .int .u32 0]
        clear h1 hg1 hg0 pc pf qc qf
        have hn : g + 1 + 1 < w1.heap.size := hg2
        clear hg2
        generalize w1.alloc (.cells #[.int .u32 (t.e + p0), .int .i64 (3 + u), .int .u32 0, .int .u32 0, .int .u32 0] 28) = W at H O ⊢
        generalize w1.heap.size = n at H O hn ⊢
        clear w1
        refine wp_loop_rounds 4 ?_
        rw [rounds_succ]
        go_wp2_with fail
        have c1 : ∀ (x : Since W) (i : Nat), x.1.cell? ⟨g, i, none⟩ = _ := fun x i => (H.pt.one.below x.2 H.pt.one.inside).read i
        have c2 : ∀ (x : Since W) (i : Nat), x.1.cell? ⟨g + 1, i, none⟩ = _ := fun x i => (H.pt.two.below x.2 H.pt.two.inside).read i
        refine region_since W (by kernel_rfl) (by kernel_rfl) (Below.refl _ _) ?_
        repeat (go_big_quiet_step ((go_at_call 36; with_reducible exact since_call (low A1.out) _)))
        refine wpQuiet_nil ?_
        rintro w4 ⟨x, hw⟩
        have H' := H.below (hw ▸ x.2)
        have O' := O.below (hw ▸ x.2) O.inside
        clear hw x c1 c2 H O W
        go_wp2_with ((refine put rfl 28 (.tmp 4) _ rfl (g := g + 1 + 1) rfl rfl H'.res (by kernel_rfl) rfl (by simp [Value.oneCell']) H'.pt.old (by rw [H'.pt.base]; omega) ?_; intro w9 hR9 hB9 hs9 ho9))
        exact bodyPost_ret (two_time Try.results8 rfl rfl (t := T0) hR9) rfl (givesT hB9 rfl rfl)
      · rcases Int.lt_or_le 1048576 (t.b + p2) with s2 | s2
        · clear ov LU d1 d2 d3 d4
          have A0 := Lib.hid (add_ok (a := t.e) (b := p0) (by omega) (by omega) (by omega) (by omega) s0)
          have A1 := Lib.hid (add_ok (a := t.a) (b := p1) (by omega) (by omega) (by omega) (by omega) s1)
          have A2 := Lib.hid (add_over (a := t.b) (b := p2) (by omega) (by omega) (by omega) (by omega) s2)
          clear i j f1 f2 f3 f4 f5 f6 f7 f8 i1 i2 i3 i4 j1 j2 j3 j4
          go_enter Try.func8, Try.ntmps8
          go_wp2_with (first
            | (go_at_call 35; refine (C.out _).mono ?_; rintro e w1 ⟨rfl, b1⟩; have h1 := h0.below b1; clear b1 h0; generalize w.heap.size = g at h1 ⊢; have hg2 : g + 1 + 1 < w1.heap.size := h1.res.inside; have hg1 : g + 1 < w1.heap.size := h1.pt.two.inside; have hg0 : g < w1.heap.size := h1.pt.one.inside; obtain ⟨pc, pf⟩ := all_of h1.pt.one; obtain ⟨qc, qf⟩ := all_of h1.pt.two)
            | (go_at_call 36; refine (A0.out _).mono ?_; rintro e w2 ⟨rfl, rfl⟩))
          have H : PTR w (w1.alloc (.cells #[.int .u32 (t.e + p0), .int .i64 (3 + u), .int .u32 0, .int .u32 0, .int .u32 0] 28)) g _ t := ⟨h1.pt.alloc _, h1.res.alloc _⟩
          have O := Whole.fresh w1 28 #[.int .u32 (t.e + p0), .int .i64 (3 + u), .int .u32 0, .int .u32 0, .int .u32 0]
          clear h1 hg1 hg0 pc pf qc qf
          have hn : g + 1 + 1 < w1.heap.size := hg2
          clear hg2
          generalize w1.alloc (.cells #[.int .u32 (t.e + p0), .int .i64 (3 + u), .int .u32 0, .int .u32 0, .int .u32 0] 28) = W at H O ⊢
          generalize w1.heap.size = n at H O hn ⊢
          clear w1
          refine wp_loop_rounds 4 ?_
          rw [rounds_succ]
          go_wp2_with fail
          have c1 : ∀ (x : Since W) (i : Nat), x.1.cell? ⟨g, i, none⟩ = _ := fun x i => (H.pt.one.below x.2 H.pt.one.inside).read i
          have c2 : ∀ (x : Since W) (i : Nat), x.1.cell? ⟨g + 1, i, none⟩ = _ := fun x i => (H.pt.two.below x.2 H.pt.two.inside).read i
          refine region_since W (by kernel_rfl) (by kernel_rfl) (Below.refl _ _) ?_
          repeat (go_big_quiet_step ((go_at_call 36; with_reducible exact since_call (low A1.out) _)))
          refine wpQuiet_nil ?_
          rintro w4 ⟨x, hw⟩
          have H' := H.below (hw ▸ x.2)
          have O' := O.below (hw ▸ x.2) O.inside
          clear hw x c1 c2 H O W
          have oc := O'.read 2
          have of := O'.soft 2
          go_wp2_with fail
          have H := H'.aside (i := 2) hn (.int .u32 (t.a + p1))
          have O : Whole (w4.setCell ⟨n, 2, none⟩ (.int .u32 (t.a + p1))) n 28 #[.int .u32 (t.e + p0), .int .i64 (3 + u), .int .u32 (t.a + p1), .int .u32 0, .int .u32 0] := by simpa using O'.store 2 (.int .u32 (t.a + p1))
          clear oc of H' O'
          generalize w4.setCell ⟨n, 2, none⟩ (.int .u32 (t.a + p1)) = W at H O ⊢
          clear w4
          rw [rounds_succ]
          go_wp2_with fail
          have c1 : ∀ (x : Since W) (i : Nat), x.1.cell? ⟨g, i, none⟩ = _ := fun x i => (H.pt.one.below x.2 H.pt.one.inside).read i
          have c2 : ∀ (x : Since W) (i : Nat), x.1.cell? ⟨g + 1, i, none⟩ = _ := fun x i => (H.pt.two.below x.2 H.pt.two.inside).read i
          refine region_since W (by kernel_rfl) (by kernel_rfl) (Below.refl _ _) ?_
          repeat (go_big_quiet_step ((go_at_call 36; with_reducible exact since_call (low A2.out) _)))
          refine wpQuiet_nil ?_
          rintro w4 ⟨x, hw⟩
          have H' := H.below (hw ▸ x.2)
          have O' := O.below (hw ▸ x.2) O.inside
          clear hw x c1 c2 H O W
          go_wp2_with ((refine put rfl 28 (.tmp 4) _ rfl (g := g + 1 + 1) rfl rfl H'.res (by kernel_rfl) rfl (by simp [Value.oneCell']) H'.pt.old (by rw [H'.pt.base]; omega) ?_; intro w9 hR9 hB9 hs9 ho9))
          exact bodyPost_ret (two_time Try.results8 rfl rfl (t := T0) hR9) rfl (givesT hB9 rfl rfl)
        · rcases Int.lt_or_le 1048576 (t.c + p3) with s3 | s3
          · clear ov LU d1 d2 d3 d4
            have A0 := Lib.hid (add_ok (a := t.e) (b := p0) (by omega) (by omega) (by omega) (by omega) s0)
            have A1 := Lib.hid (add_ok (a := t.a) (b := p1) (by omega) (by omega) (by omega) (by omega) s1)
            have A2 := Lib.hid (add_ok (a := t.b) (b := p2) (by omega) (by omega) (by omega) (by omega) s2)
            have A3 := Lib.hid (add_over (a := t.c) (b := p3) (by omega) (by omega) (by omega) (by omega) s3)
            clear i j f1 f2 f3 f4 f5 f6 f7 f8 i1 i2 i3 i4 j1 j2 j3 j4
            go_enter Try.func8, Try.ntmps8
            go_wp2_with (first
              | (go_at_call 35; refine (C.out _).mono ?_; rintro e w1 ⟨rfl, b1⟩; have h1 := h0.below b1; clear b1 h0; generalize w.heap.size = g at h1 ⊢; have hg2 : g + 1 + 1 < w1.heap.size := h1.res.inside; have hg1 : g + 1 < w1.heap.size := h1.pt.two.inside; have hg0 : g < w1.heap.size := h1.pt.one.inside; obtain ⟨pc, pf⟩ := all_of h1.pt.one; obtain ⟨qc, qf⟩ := all_of h1.pt.two)
              | (go_at_call 36; refine (A0.out _).mono ?_; rintro e w2 ⟨rfl, rfl⟩))
            have H : PTR w (w1.alloc (.cells #[.int .u32 (t.e + p0), .int .i64 (3 + u), .int .u32 0, .int .u32 0, .int .u32 0] 28)) g _ t := ⟨h1.pt.alloc _, h1.res.alloc _⟩
            have O := Whole.fresh w1 28 #[.int .u32 (t.e + p0), .int .i64 (3 + u), .int .u32 0, .int .u32 0, .int .u32 0]
            clear h1 hg1 hg0 pc pf qc qf
            have hn : g + 1 + 1 < w1.heap.size := hg2
            clear hg2
            generalize w1.alloc (.cells #[.int .u32 (t.e + p0), .int .i64 (3 + u), .int .u32 0, .int .u32 0, .int .u32 0] 28) = W at H O ⊢
            generalize w1.heap.size = n at H O hn ⊢
            clear w1
            refine wp_loop_rounds 4 ?_
            rw [rounds_succ]
            go_wp2_with fail
            have c1 : ∀ (x : Since W) (i : Nat), x.1.cell? ⟨g, i, none⟩ = _ := fun x i => (H.pt.one.below x.2 H.pt.one.inside).read i
            have c2 : ∀ (x : Since W) (i : Nat), x.1.cell? ⟨g + 1, i, none⟩ = _ := fun x i => (H.pt.two.below x.2 H.pt.two.inside).read i
            refine region_since W (by kernel_rfl) (by kernel_rfl) (Below.refl _ _) ?_
            repeat (go_big_quiet_step ((go_at_call 36; with_reducible exact since_call (low A1.out) _)))
            refine wpQuiet_nil ?_
            rintro w4 ⟨x, hw⟩
            have H' := H.below (hw ▸ x.2)
            have O' := O.below (hw ▸ x.2) O.inside
            clear hw x c1 c2 H O W
            have oc := O'.read 2
            have of := O'.soft 2
            go_wp2_with fail
            have H := H'.aside (i := 2) hn (.int .u32 (t.a + p1))
            have O : Whole (w4.setCell ⟨n, 2, none⟩ (.int .u32 (t.a + p1))) n 28 #[.int .u32 (t.e + p0), .int .i64 (3 + u), .int .u32 (t.a + p1), .int .u32 0, .int .u32 0] := by simpa using O'.store 2 (.int .u32 (t.a + p1))
            clear oc of H' O'
            generalize w4.setCell ⟨n, 2, none⟩ (.int .u32 (t.a + p1)) = W at H O ⊢
            clear w4
            rw [rounds_succ]
            go_wp2_with fail
            have c1 : ∀ (x : Since W) (i : Nat), x.1.cell? ⟨g, i, none⟩ = _ := fun x i => (H.pt.one.below x.2 H.pt.one.inside).read i
            have c2 : ∀ (x : Since W) (i : Nat), x.1.cell? ⟨g + 1, i, none⟩ = _ := fun x i => (H.pt.two.below x.2 H.pt.two.inside).read i
            refine region_since W (by kernel_rfl) (by kernel_rfl) (Below.refl _ _) ?_
            repeat (go_big_quiet_step ((go_at_call 36; with_reducible exact since_call (low A2.out) _)))
            refine wpQuiet_nil ?_
            rintro w4 ⟨x, hw⟩
            have H' := H.below (hw ▸ x.2)
            have O' := O.below (hw ▸ x.2) O.inside
            clear hw x c1 c2 H O W
            have oc := O'.read 3
            have of := O'.soft 3
            go_wp2_with fail
            have H := H'.aside (i := 3) hn (.int .u32 (t.b + p2))
            have O : Whole (w4.setCell ⟨n, 3, none⟩ (.int .u32 (t.b + p2))) n 28 #[.int .u32 (t.e + p0), .int .i64 (3 + u), .int .u32 (t.a + p1), .int .u32 (t.b + p2), .int .u32 0] := by simpa using O'.store 3 (.int .u32 (t.b + p2))
            clear oc of H' O'
            generalize w4.setCell ⟨n, 3, none⟩ (.int .u32 (t.b + p2)) = W at H O ⊢
            clear w4
            rw [rounds_succ]
            go_wp2_with fail
            have c1 : ∀ (x : Since W) (i : Nat), x.1.cell? ⟨g, i, none⟩ = _ := fun x i => (H.pt.one.below x.2 H.pt.one.inside).read i
            have c2 : ∀ (x : Since W) (i : Nat), x.1.cell? ⟨g + 1, i, none⟩ = _ := fun x i => (H.pt.two.below x.2 H.pt.two.inside).read i
            refine region_since W (by kernel_rfl) (by kernel_rfl) (Below.refl _ _) ?_
            repeat (go_big_quiet_step ((go_at_call 36; with_reducible exact since_call (low A3.out) _)))
            refine wpQuiet_nil ?_
            rintro w4 ⟨x, hw⟩
            have H' := H.below (hw ▸ x.2)
            have O' := O.below (hw ▸ x.2) O.inside
            clear hw x c1 c2 H O W
            go_wp2_with ((refine put rfl 28 (.tmp 4) _ rfl (g := g + 1 + 1) rfl rfl H'.res (by kernel_rfl) rfl (by simp [Value.oneCell']) H'.pt.old (by rw [H'.pt.base]; omega) ?_; intro w9 hR9 hB9 hs9 ho9))
            exact bodyPost_ret (two_time Try.results8 rfl rfl (t := T0) hR9) rfl (givesT hB9 rfl rfl)
          · exact absurd ov (by simp [rawT, overT]; omega)
end Go.Proofs.Ytilkdpobkcocoaa.path
