/-
  The contract of path.Then, at any two paths.
-/
import Derived.Test.YtilkdpobkcocoaaAp2
namespace Go.Proofs.Ytilkdpobkcocoaa.path
open Go.ChangeShapes Go.WideShapes Go.ChangeAt Go.RowKit
open Go.Proofs.Ytilkdpobkcocoaa.tm Go.Proofs.Ytilkdpobkcocoaa.opened Go.Proofs.Ytilkdpobkcocoaa.block Go.Proofs.Ytilkdpobkcocoaa.stamp Go.Proofs.Ytilkdpobkcocoaa.pa

theorem run_min64 (ts : Array TypeId) (t : TypeId) (x y : Int) (w : World) : (Builtin.min_ ts t #[.int .i64 x, .int .i64 y]).run Try.prog w = .ok (.int .i64 (minI x y)) w := run_min_int2 w ts t .i64 .i64 x y
/-- Two paths are known, and the block for what is handed back; nothing older has turned. -/
structure PQR (w wr : World) (g : Nat) (tp : TypeId) (p q : Pa) : Prop where
  one : Whole wr g tp #[.int .i64 p.f, .int .i64 p.k, .int .u32 p.p0, .int .u32 p.p1, .int .u32 p.p2, .int .u32 p.p3, .int .i64 p.u, .int .u32 p.l0, .int .u32 p.l1, .int .u32 p.l2]
  two : Whole wr (g + 1) tp #[.int .i64 q.f, .int .i64 q.k, .int .u32 q.p0, .int .u32 q.p1, .int .u32 q.p2, .int .u32 q.p3, .int .i64 q.u, .int .u32 q.l0, .int .u32 q.l1, .int .u32 q.l2]
  res : Whole wr (g + 1 + 1) tp #[.int .i64 P0.f, .int .i64 P0.k, .int .u32 P0.p0, .int .u32 P0.p1, .int .u32 P0.p2, .int .u32 P0.p3, .int .i64 P0.u, .int .u32 P0.l0, .int .u32 P0.l1, .int .u32 P0.l2]
  old : Below w.heap.size w wr
  base : w.heap.size = g
theorem PQR.below {w wr w1 : World} {g : Nat} {tp : TypeId} {p q : Pa} (h : PQR w wr g tp p q) (k : Below wr.heap.size wr w1) : PQR w w1 g tp p q :=
  ⟨h.one.below k h.one.inside, h.two.below k h.two.inside, h.res.below k h.res.inside, h.old.trans (k.mono h.old.size), h.base⟩
theorem PQR.fresh (w : World) (tp : TypeId) (p q : Pa) : PQR w (((w.alloc (.cells #[.int .i64 p.f, .int .i64 p.k, .int .u32 p.p0, .int .u32 p.p1, .int .u32 p.p2, .int .u32 p.p3, .int .i64 p.u, .int .u32 p.l0, .int .u32 p.l1, .int .u32 p.l2] tp)).alloc (.cells #[.int .i64 q.f, .int .i64 q.k, .int .u32 q.p0, .int .u32 q.p1, .int .u32 q.p2, .int .u32 q.p3, .int .i64 q.u, .int .u32 q.l0, .int .u32 q.l1, .int .u32 q.l2] tp)).alloc (.cells #[.int .i64 P0.f, .int .i64 P0.k, .int .u32 P0.p0, .int .u32 P0.p1, .int .u32 P0.p2, .int .u32 P0.p3, .int .i64 P0.u, .int .u32 P0.l0, .int .u32 P0.l1, .int .u32 P0.l2] tp)) w.heap.size tp p q := by
  refine ⟨((Whole.fresh w tp _).alloc _).alloc _, ?_, ?_, (fresh2 _ _ _).alloc (by simp; omega) _, rfl⟩
  · have k := Whole.fresh (w.alloc (.cells #[.int .i64 p.f, .int .i64 p.k, .int .u32 p.p0, .int .u32 p.p1, .int .u32 p.p2, .int .u32 p.p3, .int .i64 p.u, .int .u32 p.l0, .int .u32 p.l1, .int .u32 p.l2] tp)) tp #[.int .i64 q.f, .int .i64 q.k, .int .u32 q.p0, .int .u32 q.p1, .int .u32 q.p2, .int .u32 q.p3, .int .i64 q.u, .int .u32 q.l0, .int .u32 q.l1, .int .u32 q.l2]
    rw [World.size_alloc] at k
    exact k.alloc _
  · have k := Whole.fresh ((w.alloc (.cells #[.int .i64 p.f, .int .i64 p.k, .int .u32 p.p0, .int .u32 p.p1, .int .u32 p.p2, .int .u32 p.p3, .int .i64 p.u, .int .u32 p.l0, .int .u32 p.l1, .int .u32 p.l2] tp)).alloc (.cells #[.int .i64 q.f, .int .i64 q.k, .int .u32 q.p0, .int .u32 q.p1, .int .u32 q.p2, .int .u32 q.p3, .int .i64 q.u, .int .u32 q.l0, .int .u32 q.l1, .int .u32 q.l2] tp)) tp #[.int .i64 P0.f, .int .i64 P0.k, .int .u32 P0.p0, .int .u32 P0.p1, .int .u32 P0.p2, .int .u32 P0.p3, .int .i64 P0.u, .int .u32 P0.l0, .int .u32 P0.l1, .int .u32 P0.l2]
    rw [World.size_alloc, World.size_alloc] at k
    exact k
theorem PQR.alloc {w wr : World} {g : Nat} {tp : TypeId} {p q : Pa} (h : PQR w wr g tp p q) (o : Obj) : PQR w (wr.alloc o) g tp p q :=
  ⟨h.one.alloc o, h.two.alloc o, h.res.alloc o, h.old.alloc h.old.size _, h.base⟩
theorem PQR.upto {w wr w1 : World} {g n : Nat} {tp : TypeId} {p q : Pa} (h : PQR w wr g tp p q) (k : Below n wr w1) (hn : g + 1 + 1 < n) : PQR w w1 g tp p q :=
  ⟨h.one.below k (by omega), h.two.below k (by omega), h.res.below k (by omega), h.old.trans (k.mono (by have := h.base; omega)), h.base⟩
/-- Behind the first step, what is wrong is what Apply tells of the second one. -/
theorem then_apply {p q : Pa} (h : chkP p = 0) : thenE p q = applyE q (fstT p) := by
  unfold thenE applyE startE
  rw [if_pos h, fst_chk h, fst_d]
  by_cases hq : chkP q = 0
  · rw [if_pos hq, if_pos hq]
    by_cases hd : p.k + p.u = q.f
    · simp [hd]
    · simp [hd]
  · rw [if_neg hq, if_neg hq, if_neg hq]
theorem min_min (x y : Int) : minI x y = minI' x y := by unfold minI minI'; split <;> split <;> omega
theorem then_bad1 (p q : Pa) (i : p.In) (h : chkP p ≠ 0) (w : World) : Calls Try.prog 11 #[.agg #[.int .i64 p.f, .int .i64 p.k, .int .u32 p.p0, .int .u32 p.p1, .int .u32 p.p2, .int .u32 p.p3, .int .i64 p.u, .int .u32 p.l0, .int .u32 p.l1, .int .u32 p.l2], .agg #[.int .i64 q.f, .int .i64 q.k, .int .u32 q.p0, .int .u32 q.p1, .int .u32 q.p2, .int .u32 q.p3, .int .i64 q.u, .int .u32 q.l0, .int .u32 q.l1, .int .u32 q.l2]] w (Gives P0 (chkP p) w) := by
  have A := Lib.hid (first_any p i)
  rw [show fstV p = T0 by unfold fstV; rw [if_neg h]] at A
  generalize chkP p = x at A h ⊢
  have hx : (x != 0) = true := by simpa using h
  clear h i
  have h0 := PQR.fresh w 32 p q
  go_enter Try.func11, Try.ntmps11
  go_wp2_with (first
    | (go_at_call 39; refine (A.out _).mono ?_; rintro e w1 ⟨rfl, b1⟩; have h1 := h0.below b1; clear b1 h0; generalize w.heap.size = g at h1 ⊢; have hg2 : g + 1 + 1 < w1.heap.size := h1.res.inside; have hg1 : g + 1 < w1.heap.size := h1.two.inside; have hg0 : g < w1.heap.size := h1.one.inside; obtain ⟨qc, qf⟩ := all_of h1.two)
    | (refine put rfl 32 (.tmp 4) _ rfl (g := g + 1 + 1) rfl rfl (h1.alloc _).res (by kernel_rfl) rfl (by simp [Value.oneCell']) (h1.alloc _).old (by rw [h1.base]; omega) ?_; intro w9 hR9 hB9 hs9 ho9))
  exact bodyPost_ret (two_path Try.results11 rfl rfl (P := P0) hR9) rfl (gives hB9 rfl rfl)
set_option maxHeartbeats 1000000 in
theorem then_bad2 (p q : Pa) (i : p.In) (j : q.In) (z : (fstT p).In) (h : chkP p = 0) (h' : applyE q (fstT p) ≠ 0) (w : World) : Calls Try.prog 11 #[.agg #[.int .i64 p.f, .int .i64 p.k, .int .u32 p.p0, .int .u32 p.p1, .int .u32 p.p2, .int .u32 p.p3, .int .i64 p.u, .int .u32 p.l0, .int .u32 p.l1, .int .u32 p.l2], .agg #[.int .i64 q.f, .int .i64 q.k, .int .u32 q.p0, .int .u32 q.p1, .int .u32 q.p2, .int .u32 q.p3, .int .i64 q.u, .int .u32 q.l0, .int .u32 q.l1, .int .u32 q.l2]] w (Gives P0 (applyE q (fstT p)) w) := by
  have A := Lib.hid (first_any p i)
  rw [show fstV p = fstT p by unfold fstV; rw [if_pos h], h] at A
  have B := Lib.hid (apply_any q (fstT p) j z)
  rw [show applyV q (fstT p) = T0 by unfold applyV; rw [if_neg h']] at B
  generalize applyE q (fstT p) = x at B h' ⊢
  generalize fstT p = V at A B
  have hx : (x != 0) = true := by simpa using h'
  clear h h' i j z
  have h0 := PQR.fresh w 32 p q
  go_enter Try.func11, Try.ntmps11
  go_wp2_with (first
    | (go_at_call 39; refine (A.out _).mono ?_; rintro e w1 ⟨rfl, b1⟩; have h1 := h0.below b1; clear b1 h0; generalize w.heap.size = g at h1 ⊢; have hg2 : g + 1 + 1 < w1.heap.size := h1.res.inside; have hg1 : g + 1 < w1.heap.size := h1.two.inside; have hg0 : g < w1.heap.size := h1.one.inside; obtain ⟨qc, qf⟩ := all_of h1.two)
    | (go_at_call 8; refine (B.out _).mono ?_; rintro e w2 ⟨rfl, b2⟩; have h2 := (h1.alloc _).below b2; have O2 := (Whole.fresh w1 28 _).below b2 (by simp); have hz2 := b2.size; rw [World.size_alloc] at hz2; clear b2 h1 qc qf; generalize w1.heap.size = n at *)
    | (refine put rfl 28 (.tmp 6) _ rfl (g := n) rfl rfl O2 (by kernel_rfl) rfl (by simp [Value.oneCell']) h2.old (by rw [h2.base]; omega) ?_; intro w3 O3 hB3 hs3 ho3; have h3 : PQR w w3 g 32 p q := ⟨ho3 h2.one (by omega), ho3 h2.two (by omega), ho3 h2.res (by omega), hB3, h2.base⟩; have hz3 : n + 1 ≤ w3.heap.size := (by omega); clear h2 O2 hB3 hs3 ho3 hz2)
    | (refine put rfl 32 (.tmp 4) _ rfl (g := g + 1 + 1) rfl rfl h3.res (by kernel_rfl) rfl (by simp [Value.oneCell']) h3.old (by rw [h3.base]; omega) ?_; intro w9 hR9 hB9 hs9 ho9))
  exact bodyPost_ret (two_path Try.results11 rfl rfl (P := P0) hR9) rfl (gives hB9 rfl rfl)
set_option maxHeartbeats 4000000 in
theorem then_good (p q : Pa) (i : p.In) (j : q.In) (z : (fstT p).In) (h : chkP p = 0) (hq : chkP q = 0) (h' : applyE q (fstT p) = 0) (w : World) : Calls Try.prog 11 #[.agg #[.int .i64 p.f, .int .i64 p.k, .int .u32 p.p0, .int .u32 p.p1, .int .u32 p.p2, .int .u32 p.p3, .int .i64 p.u, .int .u32 p.l0, .int .u32 p.l1, .int .u32 p.l2], .agg #[.int .i64 q.f, .int .i64 q.k, .int .u32 q.p0, .int .u32 q.p1, .int .u32 q.p2, .int .u32 q.p3, .int .i64 q.u, .int .u32 q.l0, .int .u32 q.l1, .int .u32 q.l2]] w (Gives (cutP p.f (minI' p.k q.k) (applyV q (fstT p))) 0 w) := by
  have A := Lib.hid (first_any p i)
  rw [show fstV p = fstT p by unfold fstV; rw [if_pos h], h] at A
  have B := Lib.hid (apply_any q (fstT p) j z)
  rw [h'] at B
  have hd : 0 ≤ (applyV q (fstT p)).d ∧ (applyV q (fstT p)).d ≤ 3 := by
    obtain ⟨a, b, c, d⟩ := apply_zero h'
    rw [(apply_of a b c d).2]
    have e := chkP_open a
    show 0 ≤ q.k + q.u ∧ q.k + q.u ≤ 3
    omega
  generalize applyV q (fstT p) = T at B hd ⊢
  generalize fstT p = V at A B
  obtain ⟨hd0, hd1⟩ := hd
  have hm := run_min64
  have hk : 0 ≤ minI' p.k q.k ∧ minI' p.k q.k ≤ 3 := by
    have a := chkP_open h
    have b := chkP_open hq
    have c := min_le p.k q.k
    omega
  have hmk := min_min p.k q.k
  generalize minI' p.k q.k = K at hk hmk ⊢
  clear h hq h' i j z
  have h0 := PQR.fresh w 32 p q
  obtain ⟨e, d, a, b, c⟩ := T
  dsimp only at hd0 hd1
  obtain ⟨hk0, hk1⟩ := hk
  rcases four hk0 hk1 with rfl | rfl | rfl | rfl
  · go_enter Try.func11, Try.ntmps11
    go_wp2_with (first
      | (go_at_call 39; refine (A.out _).mono ?_; rintro e w1 ⟨rfl, b1⟩; have h1 := h0.below b1; clear b1 h0; generalize w.heap.size = g at h1 ⊢; have hg2 : g + 1 + 1 < w1.heap.size := h1.res.inside; have hg1 : g + 1 < w1.heap.size := h1.two.inside; have hg0 : g < w1.heap.size := h1.one.inside; obtain ⟨qc, qf⟩ := all_of h1.two)
      | (go_at_call 8; refine (B.out _).mono ?_; rintro e w2 ⟨rfl, b2⟩; have h2 := (h1.alloc _).below b2; have O2 := (Whole.fresh w1 28 _).below b2 (by simp); have hz2 := b2.size; rw [World.size_alloc] at hz2; clear b2 h1 qc qf; generalize w1.heap.size = n at *)
      | (refine put rfl 28 (.tmp 6) _ rfl (g := n) rfl rfl O2 (by kernel_rfl) rfl (by simp [Value.oneCell']) h2.old (by rw [h2.base]; omega) ?_; intro w3 O3 hB3 hs3 ho3; have h3 : PQR w w3 g 32 p q := ⟨ho3 h2.one (by omega), ho3 h2.two (by omega), ho3 h2.res (by omega), hB3, h2.base⟩; have hz3 : n + 1 ≤ w3.heap.size := (by omega); clear h2 O2 hB3 hs3 ho3 hz2; obtain ⟨pc, pf⟩ := all_of h3.one; obtain ⟨qc, qf⟩ := all_of h3.two; obtain ⟨tc, tf⟩ := all_of O3; have hg2 : g + 1 + 1 < w3.heap.size := (by omega); have hg1 : g + 1 < w3.heap.size := (by omega); have hg0 : g < w3.heap.size := (by omega); have hgn : n < w3.heap.size := (by omega)))
    have h4 := h3.alloc (.cells #[.int .i64 p.f, .int .i64 0, .int .u32 e, .int .u32 0, .int .u32 0, .int .u32 0, .int .i64 d, .int .u32 0, .int .u32 0, .int .u32 0] 32)
    have O := Whole.fresh w3 32 #[.int .i64 p.f, .int .i64 0, .int .u32 e, .int .u32 0, .int .u32 0, .int .u32 0, .int .i64 d, .int .u32 0, .int .u32 0, .int .u32 0]
    have O4 := O3.alloc (.cells #[.int .i64 p.f, .int .i64 0, .int .u32 e, .int .u32 0, .int .u32 0, .int .u32 0, .int .i64 d, .int .u32 0, .int .u32 0, .int .u32 0] 32)
    clear pc pf qc qf tc tf h3 O3
    have O3 := O4
    clear O4
    generalize w3.alloc (.cells #[.int .i64 p.f, .int .i64 0, .int .u32 e, .int .u32 0, .int .u32 0, .int .u32 0, .int .i64 d, .int .u32 0, .int .u32 0, .int .u32 0] 32) = W at h4 O O3 ⊢
    generalize w3.heap.size = m at *
    go_region_law (refine step_copy_splice rfl (.tmp 47) (.tmp 50) 60 60 rfl 22 Try.underlying60 (by kernel_rfl) (some ⟨m, 3, none⟩) (some ⟨n, 2, none⟩) 3 3 0 3 (by simp [Act.eval, Act.put]) (by simp [Act.eval, Act.put]) m 3 [.int .i64 p.f, .int .i64 0, .int .u32 e, .int .u32 0, .int .u32 0, .int .u32 0, .int .i64 d, .int .u32 0, .int .u32 0, .int .u32 0] 32 O [] rfl (fun h => absurd h (by simp)) (by simp) (by simp [Value.oneCell']) m W ((Below.refl m W).drew) (Nat.le_refl _) ?_; intro w5 hg5 hb5)
    all_goals (
      have O5 : Whole w5 m 32 #[.int .i64 p.f, .int .i64 0, .int .u32 e, .int .u32 0, .int .u32 0, .int .u32 0, .int .i64 d, .int .u32 0, .int .u32 0, .int .u32 0] := by
        have := hg5.out
        simpa [Whole, splice] using this
      have h5 := h4.upto hb5 (by omega)
      have O6 := O3.below hb5 (by omega)
      clear hg5 hb5 h4 O O3 W
      have O := O5
      have O3 := O6
      clear O5 O6
      generalize w5 = W at *
      go_wp2_with fail
      go_region_law (refine step_copy_splice rfl (.tmp 53) (.tmp 56) 60 60 rfl 22 Try.underlying60 (by kernel_rfl) (some ⟨m, 7, none⟩) (some ⟨n, 2, none⟩) 3 3 3 3 (by simp [Act.eval, Act.put]) (by simp [Act.eval, Act.put]) m 7 [.int .i64 p.f, .int .i64 0, .int .u32 e, .int .u32 0, .int .u32 0, .int .u32 0, .int .i64 d, .int .u32 0, .int .u32 0, .int .u32 0] 32 O [.int .u32 a, .int .u32 b, .int .u32 c] rfl (fun _ => ⟨rfl, _, rfl, fun j v hj => by match j, hj with | 0, hj => exact (show _ = _ from O3.read 2).trans (by simpa using hj) | 1, hj => exact (show _ = _ from O3.read 3).trans (by simpa using hj) | 2, hj => exact (show _ = _ from O3.read 4).trans (by simpa using hj) | _ + 3, hj => simp at hj⟩) (by simp) (by simp [Value.oneCell']) m W ((Below.refl m W).drew) (Nat.le_refl _) ?_; intro w5 hg5 hb5)
      all_goals (
        have O5 : Whole w5 m 32 #[.int .i64 p.f, .int .i64 0, .int .u32 e, .int .u32 0, .int .u32 0, .int .u32 0, .int .i64 d, .int .u32 a, .int .u32 b, .int .u32 c] := by
          have := hg5.out
          simpa [Whole, splice] using this
        have h6 := h5.upto hb5 (by omega)
        clear hg5 hb5 h5 O O3 W
        obtain ⟨oc, of⟩ := all_of O5
        go_wp2_with ((refine put rfl 32 (.tmp 4) _ rfl (g := g + 1 + 1) rfl rfl h6.res (by kernel_rfl) rfl (by simp [Value.oneCell']) h6.old (by rw [h6.base]; omega) ?_; intro w9 hR9 hB9 hs9 ho9))
        exact bodyPost_ret (two_path Try.results11 rfl rfl (P := Pa.mk p.f 0 e 0 0 0 d a b c) hR9) rfl (gives hB9 (by simp [cutP, nth]) rfl)))
  · go_enter Try.func11, Try.ntmps11
    go_wp2_with (first
      | (go_at_call 39; refine (A.out _).mono ?_; rintro e w1 ⟨rfl, b1⟩; have h1 := h0.below b1; clear b1 h0; generalize w.heap.size = g at h1 ⊢; have hg2 : g + 1 + 1 < w1.heap.size := h1.res.inside; have hg1 : g + 1 < w1.heap.size := h1.two.inside; have hg0 : g < w1.heap.size := h1.one.inside; obtain ⟨qc, qf⟩ := all_of h1.two)
      | (go_at_call 8; refine (B.out _).mono ?_; rintro e w2 ⟨rfl, b2⟩; have h2 := (h1.alloc _).below b2; have O2 := (Whole.fresh w1 28 _).below b2 (by simp); have hz2 := b2.size; rw [World.size_alloc] at hz2; clear b2 h1 qc qf; generalize w1.heap.size = n at *)
      | (refine put rfl 28 (.tmp 6) _ rfl (g := n) rfl rfl O2 (by kernel_rfl) rfl (by simp [Value.oneCell']) h2.old (by rw [h2.base]; omega) ?_; intro w3 O3 hB3 hs3 ho3; have h3 : PQR w w3 g 32 p q := ⟨ho3 h2.one (by omega), ho3 h2.two (by omega), ho3 h2.res (by omega), hB3, h2.base⟩; have hz3 : n + 1 ≤ w3.heap.size := (by omega); clear h2 O2 hB3 hs3 ho3 hz2; obtain ⟨pc, pf⟩ := all_of h3.one; obtain ⟨qc, qf⟩ := all_of h3.two; obtain ⟨tc, tf⟩ := all_of O3; have hg2 : g + 1 + 1 < w3.heap.size := (by omega); have hg1 : g + 1 < w3.heap.size := (by omega); have hg0 : g < w3.heap.size := (by omega); have hgn : n < w3.heap.size := (by omega)))
    have h4 := h3.alloc (.cells #[.int .i64 p.f, .int .i64 1, .int .u32 e, .int .u32 0, .int .u32 0, .int .u32 0, .int .i64 (d - 1), .int .u32 0, .int .u32 0, .int .u32 0] 32)
    have O := Whole.fresh w3 32 #[.int .i64 p.f, .int .i64 1, .int .u32 e, .int .u32 0, .int .u32 0, .int .u32 0, .int .i64 (d - 1), .int .u32 0, .int .u32 0, .int .u32 0]
    have O4 := O3.alloc (.cells #[.int .i64 p.f, .int .i64 1, .int .u32 e, .int .u32 0, .int .u32 0, .int .u32 0, .int .i64 (d - 1), .int .u32 0, .int .u32 0, .int .u32 0] 32)
    clear pc pf qc qf tc tf h3 O3
    have O3 := O4
    clear O4
    generalize w3.alloc (.cells #[.int .i64 p.f, .int .i64 1, .int .u32 e, .int .u32 0, .int .u32 0, .int .u32 0, .int .i64 (d - 1), .int .u32 0, .int .u32 0, .int .u32 0] 32) = W at h4 O O3 ⊢
    generalize w3.heap.size = m at *
    go_region_law (refine step_copy_splice rfl (.tmp 47) (.tmp 50) 60 60 rfl 22 Try.underlying60 (by kernel_rfl) (some ⟨m, 3, none⟩) (some ⟨n, 2, none⟩) 3 3 1 3 (by simp [Act.eval, Act.put]) (by simp [Act.eval, Act.put]) m 3 [.int .i64 p.f, .int .i64 1, .int .u32 e, .int .u32 0, .int .u32 0, .int .u32 0, .int .i64 (d - 1), .int .u32 0, .int .u32 0, .int .u32 0] 32 O [.int .u32 a] rfl (fun _ => ⟨rfl, _, rfl, fun j v hj => by match j, hj with | 0, hj => exact (show _ = _ from O3.read 2).trans (by simpa using hj) | _ + 1, hj => simp at hj⟩) (by simp) (by simp [Value.oneCell']) m W ((Below.refl m W).drew) (Nat.le_refl _) ?_; intro w5 hg5 hb5)
    all_goals (
      have O5 : Whole w5 m 32 #[.int .i64 p.f, .int .i64 1, .int .u32 e, .int .u32 a, .int .u32 0, .int .u32 0, .int .i64 (d - 1), .int .u32 0, .int .u32 0, .int .u32 0] := by
        have := hg5.out
        simpa [Whole, splice] using this
      have h5 := h4.upto hb5 (by omega)
      have O6 := O3.below hb5 (by omega)
      clear hg5 hb5 h4 O O3 W
      have O := O5
      have O3 := O6
      clear O5 O6
      generalize w5 = W at *
      go_wp2_with fail
      go_region_law (refine step_copy_splice rfl (.tmp 53) (.tmp 56) 60 60 rfl 22 Try.underlying60 (by kernel_rfl) (some ⟨m, 7, none⟩) (some ⟨n, 3, none⟩) 3 3 2 2 (by simp [Act.eval, Act.put]) (by simp [Act.eval, Act.put]) m 7 [.int .i64 p.f, .int .i64 1, .int .u32 e, .int .u32 a, .int .u32 0, .int .u32 0, .int .i64 (d - 1), .int .u32 0, .int .u32 0, .int .u32 0] 32 O [.int .u32 b, .int .u32 c] rfl (fun _ => ⟨rfl, _, rfl, fun j v hj => by match j, hj with | 0, hj => exact (show _ = _ from O3.read 3).trans (by simpa using hj) | 1, hj => exact (show _ = _ from O3.read 4).trans (by simpa using hj) | _ + 2, hj => simp at hj⟩) (by simp) (by simp [Value.oneCell']) m W ((Below.refl m W).drew) (Nat.le_refl _) ?_; intro w5 hg5 hb5)
      all_goals (
        have O5 : Whole w5 m 32 #[.int .i64 p.f, .int .i64 1, .int .u32 e, .int .u32 a, .int .u32 0, .int .u32 0, .int .i64 (d - 1), .int .u32 b, .int .u32 c, .int .u32 0] := by
          have := hg5.out
          simpa [Whole, splice] using this
        have h6 := h5.upto hb5 (by omega)
        clear hg5 hb5 h5 O O3 W
        obtain ⟨oc, of⟩ := all_of O5
        go_wp2_with ((refine put rfl 32 (.tmp 4) _ rfl (g := g + 1 + 1) rfl rfl h6.res (by kernel_rfl) rfl (by simp [Value.oneCell']) h6.old (by rw [h6.base]; omega) ?_; intro w9 hR9 hB9 hs9 ho9))
        exact bodyPost_ret (two_path Try.results11 rfl rfl (P := Pa.mk p.f 1 e a 0 0 (d - 1) b c 0) hR9) rfl (gives hB9 (by simp [cutP, nth]) rfl)))
  · go_enter Try.func11, Try.ntmps11
    go_wp2_with (first
      | (go_at_call 39; refine (A.out _).mono ?_; rintro e w1 ⟨rfl, b1⟩; have h1 := h0.below b1; clear b1 h0; generalize w.heap.size = g at h1 ⊢; have hg2 : g + 1 + 1 < w1.heap.size := h1.res.inside; have hg1 : g + 1 < w1.heap.size := h1.two.inside; have hg0 : g < w1.heap.size := h1.one.inside; obtain ⟨qc, qf⟩ := all_of h1.two)
      | (go_at_call 8; refine (B.out _).mono ?_; rintro e w2 ⟨rfl, b2⟩; have h2 := (h1.alloc _).below b2; have O2 := (Whole.fresh w1 28 _).below b2 (by simp); have hz2 := b2.size; rw [World.size_alloc] at hz2; clear b2 h1 qc qf; generalize w1.heap.size = n at *)
      | (refine put rfl 28 (.tmp 6) _ rfl (g := n) rfl rfl O2 (by kernel_rfl) rfl (by simp [Value.oneCell']) h2.old (by rw [h2.base]; omega) ?_; intro w3 O3 hB3 hs3 ho3; have h3 : PQR w w3 g 32 p q := ⟨ho3 h2.one (by omega), ho3 h2.two (by omega), ho3 h2.res (by omega), hB3, h2.base⟩; have hz3 : n + 1 ≤ w3.heap.size := (by omega); clear h2 O2 hB3 hs3 ho3 hz2; obtain ⟨pc, pf⟩ := all_of h3.one; obtain ⟨qc, qf⟩ := all_of h3.two; obtain ⟨tc, tf⟩ := all_of O3; have hg2 : g + 1 + 1 < w3.heap.size := (by omega); have hg1 : g + 1 < w3.heap.size := (by omega); have hg0 : g < w3.heap.size := (by omega); have hgn : n < w3.heap.size := (by omega)))
    have h4 := h3.alloc (.cells #[.int .i64 p.f, .int .i64 2, .int .u32 e, .int .u32 0, .int .u32 0, .int .u32 0, .int .i64 (d - 2), .int .u32 0, .int .u32 0, .int .u32 0] 32)
    have O := Whole.fresh w3 32 #[.int .i64 p.f, .int .i64 2, .int .u32 e, .int .u32 0, .int .u32 0, .int .u32 0, .int .i64 (d - 2), .int .u32 0, .int .u32 0, .int .u32 0]
    have O4 := O3.alloc (.cells #[.int .i64 p.f, .int .i64 2, .int .u32 e, .int .u32 0, .int .u32 0, .int .u32 0, .int .i64 (d - 2), .int .u32 0, .int .u32 0, .int .u32 0] 32)
    clear pc pf qc qf tc tf h3 O3
    have O3 := O4
    clear O4
    generalize w3.alloc (.cells #[.int .i64 p.f, .int .i64 2, .int .u32 e, .int .u32 0, .int .u32 0, .int .u32 0, .int .i64 (d - 2), .int .u32 0, .int .u32 0, .int .u32 0] 32) = W at h4 O O3 ⊢
    generalize w3.heap.size = m at *
    go_region_law (refine step_copy_splice rfl (.tmp 47) (.tmp 50) 60 60 rfl 22 Try.underlying60 (by kernel_rfl) (some ⟨m, 3, none⟩) (some ⟨n, 2, none⟩) 3 3 2 3 (by simp [Act.eval, Act.put]) (by simp [Act.eval, Act.put]) m 3 [.int .i64 p.f, .int .i64 2, .int .u32 e, .int .u32 0, .int .u32 0, .int .u32 0, .int .i64 (d - 2), .int .u32 0, .int .u32 0, .int .u32 0] 32 O [.int .u32 a, .int .u32 b] rfl (fun _ => ⟨rfl, _, rfl, fun j v hj => by match j, hj with | 0, hj => exact (show _ = _ from O3.read 2).trans (by simpa using hj) | 1, hj => exact (show _ = _ from O3.read 3).trans (by simpa using hj) | _ + 2, hj => simp at hj⟩) (by simp) (by simp [Value.oneCell']) m W ((Below.refl m W).drew) (Nat.le_refl _) ?_; intro w5 hg5 hb5)
    all_goals (
      have O5 : Whole w5 m 32 #[.int .i64 p.f, .int .i64 2, .int .u32 e, .int .u32 a, .int .u32 b, .int .u32 0, .int .i64 (d - 2), .int .u32 0, .int .u32 0, .int .u32 0] := by
        have := hg5.out
        simpa [Whole, splice] using this
      have h5 := h4.upto hb5 (by omega)
      have O6 := O3.below hb5 (by omega)
      clear hg5 hb5 h4 O O3 W
      have O := O5
      have O3 := O6
      clear O5 O6
      generalize w5 = W at *
      go_wp2_with fail
      go_region_law (refine step_copy_splice rfl (.tmp 53) (.tmp 56) 60 60 rfl 22 Try.underlying60 (by kernel_rfl) (some ⟨m, 7, none⟩) (some ⟨n, 4, none⟩) 3 3 1 1 (by simp [Act.eval, Act.put]) (by simp [Act.eval, Act.put]) m 7 [.int .i64 p.f, .int .i64 2, .int .u32 e, .int .u32 a, .int .u32 b, .int .u32 0, .int .i64 (d - 2), .int .u32 0, .int .u32 0, .int .u32 0] 32 O [.int .u32 c] rfl (fun _ => ⟨rfl, _, rfl, fun j v hj => by match j, hj with | 0, hj => exact (show _ = _ from O3.read 4).trans (by simpa using hj) | _ + 1, hj => simp at hj⟩) (by simp) (by simp [Value.oneCell']) m W ((Below.refl m W).drew) (Nat.le_refl _) ?_; intro w5 hg5 hb5)
      all_goals (
        have O5 : Whole w5 m 32 #[.int .i64 p.f, .int .i64 2, .int .u32 e, .int .u32 a, .int .u32 b, .int .u32 0, .int .i64 (d - 2), .int .u32 c, .int .u32 0, .int .u32 0] := by
          have := hg5.out
          simpa [Whole, splice] using this
        have h6 := h5.upto hb5 (by omega)
        clear hg5 hb5 h5 O O3 W
        obtain ⟨oc, of⟩ := all_of O5
        go_wp2_with ((refine put rfl 32 (.tmp 4) _ rfl (g := g + 1 + 1) rfl rfl h6.res (by kernel_rfl) rfl (by simp [Value.oneCell']) h6.old (by rw [h6.base]; omega) ?_; intro w9 hR9 hB9 hs9 ho9))
        exact bodyPost_ret (two_path Try.results11 rfl rfl (P := Pa.mk p.f 2 e a b 0 (d - 2) c 0 0) hR9) rfl (gives hB9 (by simp [cutP, nth]) rfl)))
  · go_enter Try.func11, Try.ntmps11
    go_wp2_with (first
      | (go_at_call 39; refine (A.out _).mono ?_; rintro e w1 ⟨rfl, b1⟩; have h1 := h0.below b1; clear b1 h0; generalize w.heap.size = g at h1 ⊢; have hg2 : g + 1 + 1 < w1.heap.size := h1.res.inside; have hg1 : g + 1 < w1.heap.size := h1.two.inside; have hg0 : g < w1.heap.size := h1.one.inside; obtain ⟨qc, qf⟩ := all_of h1.two)
      | (go_at_call 8; refine (B.out _).mono ?_; rintro e w2 ⟨rfl, b2⟩; have h2 := (h1.alloc _).below b2; have O2 := (Whole.fresh w1 28 _).below b2 (by simp); have hz2 := b2.size; rw [World.size_alloc] at hz2; clear b2 h1 qc qf; generalize w1.heap.size = n at *)
      | (refine put rfl 28 (.tmp 6) _ rfl (g := n) rfl rfl O2 (by kernel_rfl) rfl (by simp [Value.oneCell']) h2.old (by rw [h2.base]; omega) ?_; intro w3 O3 hB3 hs3 ho3; have h3 : PQR w w3 g 32 p q := ⟨ho3 h2.one (by omega), ho3 h2.two (by omega), ho3 h2.res (by omega), hB3, h2.base⟩; have hz3 : n + 1 ≤ w3.heap.size := (by omega); clear h2 O2 hB3 hs3 ho3 hz2; obtain ⟨pc, pf⟩ := all_of h3.one; obtain ⟨qc, qf⟩ := all_of h3.two; obtain ⟨tc, tf⟩ := all_of O3; have hg2 : g + 1 + 1 < w3.heap.size := (by omega); have hg1 : g + 1 < w3.heap.size := (by omega); have hg0 : g < w3.heap.size := (by omega); have hgn : n < w3.heap.size := (by omega)))
    have h4 := h3.alloc (.cells #[.int .i64 p.f, .int .i64 3, .int .u32 e, .int .u32 0, .int .u32 0, .int .u32 0, .int .i64 (d - 3), .int .u32 0, .int .u32 0, .int .u32 0] 32)
    have O := Whole.fresh w3 32 #[.int .i64 p.f, .int .i64 3, .int .u32 e, .int .u32 0, .int .u32 0, .int .u32 0, .int .i64 (d - 3), .int .u32 0, .int .u32 0, .int .u32 0]
    have O4 := O3.alloc (.cells #[.int .i64 p.f, .int .i64 3, .int .u32 e, .int .u32 0, .int .u32 0, .int .u32 0, .int .i64 (d - 3), .int .u32 0, .int .u32 0, .int .u32 0] 32)
    clear pc pf qc qf tc tf h3 O3
    have O3 := O4
    clear O4
    generalize w3.alloc (.cells #[.int .i64 p.f, .int .i64 3, .int .u32 e, .int .u32 0, .int .u32 0, .int .u32 0, .int .i64 (d - 3), .int .u32 0, .int .u32 0, .int .u32 0] 32) = W at h4 O O3 ⊢
    generalize w3.heap.size = m at *
    go_region_law (refine step_copy_splice rfl (.tmp 47) (.tmp 50) 60 60 rfl 22 Try.underlying60 (by kernel_rfl) (some ⟨m, 3, none⟩) (some ⟨n, 2, none⟩) 3 3 3 3 (by simp [Act.eval, Act.put]) (by simp [Act.eval, Act.put]) m 3 [.int .i64 p.f, .int .i64 3, .int .u32 e, .int .u32 0, .int .u32 0, .int .u32 0, .int .i64 (d - 3), .int .u32 0, .int .u32 0, .int .u32 0] 32 O [.int .u32 a, .int .u32 b, .int .u32 c] rfl (fun _ => ⟨rfl, _, rfl, fun j v hj => by match j, hj with | 0, hj => exact (show _ = _ from O3.read 2).trans (by simpa using hj) | 1, hj => exact (show _ = _ from O3.read 3).trans (by simpa using hj) | 2, hj => exact (show _ = _ from O3.read 4).trans (by simpa using hj) | _ + 3, hj => simp at hj⟩) (by simp) (by simp [Value.oneCell']) m W ((Below.refl m W).drew) (Nat.le_refl _) ?_; intro w5 hg5 hb5)
    all_goals (
      have O5 : Whole w5 m 32 #[.int .i64 p.f, .int .i64 3, .int .u32 e, .int .u32 a, .int .u32 b, .int .u32 c, .int .i64 (d - 3), .int .u32 0, .int .u32 0, .int .u32 0] := by
        have := hg5.out
        simpa [Whole, splice] using this
      have h5 := h4.upto hb5 (by omega)
      have O6 := O3.below hb5 (by omega)
      clear hg5 hb5 h4 O O3 W
      have O := O5
      have O3 := O6
      clear O5 O6
      generalize w5 = W at *
      go_wp2_with fail
      go_region_law (refine step_copy_splice rfl (.tmp 53) (.tmp 56) 60 60 rfl 22 Try.underlying60 (by kernel_rfl) (some ⟨m, 7, none⟩) (some ⟨n, 2, none⟩) 3 3 0 0 (by simp [Act.eval, Act.put]) (by simp [Act.eval, Act.put]) m 7 [.int .i64 p.f, .int .i64 3, .int .u32 e, .int .u32 a, .int .u32 b, .int .u32 c, .int .i64 (d - 3), .int .u32 0, .int .u32 0, .int .u32 0] 32 O [] rfl (fun h => absurd h (by simp)) (by simp) (by simp [Value.oneCell']) m W ((Below.refl m W).drew) (Nat.le_refl _) ?_; intro w5 hg5 hb5)
      all_goals (
        have O5 : Whole w5 m 32 #[.int .i64 p.f, .int .i64 3, .int .u32 e, .int .u32 a, .int .u32 b, .int .u32 c, .int .i64 (d - 3), .int .u32 0, .int .u32 0, .int .u32 0] := by
          have := hg5.out
          simpa [Whole, splice] using this
        have h6 := h5.upto hb5 (by omega)
        clear hg5 hb5 h5 O O3 W
        obtain ⟨oc, of⟩ := all_of O5
        go_wp2_with ((refine put rfl 32 (.tmp 4) _ rfl (g := g + 1 + 1) rfl rfl h6.res (by kernel_rfl) rfl (by simp [Value.oneCell']) h6.old (by rw [h6.base]; omega) ?_; intro w9 hR9 hB9 hs9 ho9))
        exact bodyPost_ret (two_path Try.results11 rfl rfl (P := Pa.mk p.f 3 e a b c (d - 3) 0 0 0) hR9) rfl (gives hB9 (by simp [cutP, nth]) rfl)))
theorem then_any (p q : Pa) (i : p.In) (j : q.In) (w : World) : Calls Try.prog 11 #[.agg #[.int .i64 p.f, .int .i64 p.k, .int .u32 p.p0, .int .u32 p.p1, .int .u32 p.p2, .int .u32 p.p3, .int .i64 p.u, .int .u32 p.l0, .int .u32 p.l1, .int .u32 p.l2], .agg #[.int .i64 q.f, .int .i64 q.k, .int .u32 q.p0, .int .u32 q.p1, .int .u32 q.p2, .int .u32 q.p3, .int .i64 q.u, .int .u32 q.l0, .int .u32 q.l1, .int .u32 q.l2]] w (Gives (thenV p q) (thenE p q) w) := by
  by_cases h : chkP p = 0
  · have z := in_fst i h
    have e := then_apply (q := q) h
    by_cases h' : applyE q (fstT p) = 0
    · have hq : chkP q = 0 := (apply_zero h').1
      rw [e, h', show thenV p q = cutP p.f (minI' p.k q.k) (applyV q (fstT p)) by unfold thenV; rw [e, if_pos h', show applyV q (fstT p) = rawT q (fstT p) by unfold applyV; rw [if_pos h']]]
      exact then_good p q i j z h hq h' w
    · rw [show thenV p q = P0 by unfold thenV; rw [e, if_neg h'], e]
      exact then_bad2 p q i j z h h' w
  · rw [show thenE p q = chkP p by unfold thenE; rw [if_neg h], show thenV p q = P0 by unfold thenV thenE; rw [if_neg h, if_neg h]]
    exact then_bad1 p q i h w
end Go.Proofs.Ytilkdpobkcocoaa.path
