/-
  The contract of watershedref05.Then where it is refused at once.
-/
import Derived.Test.YtilkdpobkcocoaaApR0
import Derived.Test.YtilkdpobkcocoaaTh
namespace Go.Proofs.Ytilkdpobkcocoaa.path
open Go.ChangeShapes Go.WideShapes Go.ChangeAt Go.RowKit
open Go.Proofs.Ytilkdpobkcocoaa.tm Go.Proofs.Ytilkdpobkcocoaa.opened Go.Proofs.Ytilkdpobkcocoaa.block Go.Proofs.Ytilkdpobkcocoaa.stamp Go.Proofs.Ytilkdpobkcocoaa.pa

theorem PQR.since2 {w W : World} {g : Nat} {tp : TypeId} {p q : Pa} (h : PQR w W g tp p q) : (∀ (x : Since W) (i : Nat), x.1.cell? ⟨g, i, none⟩ = (#[.int .i64 p.f, .int .i64 p.k, .int .u32 p.p0, .int .u32 p.p1, .int .u32 p.p2, .int .u32 p.p3, .int .i64 p.u, .int .u32 p.l0, .int .u32 p.l1, .int .u32 p.l2] : Array Value)[i]?) ∧ (∀ (x : Since W) (i : Nat), x.1.cell? ⟨g + 1, i, none⟩ = (#[.int .i64 q.f, .int .i64 q.k, .int .u32 q.p0, .int .u32 q.p1, .int .u32 q.p2, .int .u32 q.p3, .int .i64 q.u, .int .u32 q.l0, .int .u32 q.l1, .int .u32 q.l2] : Array Value)[i]?) :=
  ⟨fun x i => (h.one.below x.2 h.one.inside).read i, fun x i => (h.two.below x.2 h.two.inside).read i⟩
theorem PQR.drew {w W : World} {g : Nat} {tp : TypeId} {p q : Pa} (h : PQR w W g tp p q) : PQR w W.drew g tp p q := ⟨h.one, h.two, h.res, h.old.drew, h.base⟩
theorem PQR.aside {w wr : World} {g : Nat} {tp : TypeId} {p q : Pa} (h : PQR w wr g tp p q) {n i : Nat} (hn : g + 1 + 1 < n) (v : Value) : PQR w (wr.setCell ⟨n, i, none⟩ v) g tp p q :=
  ⟨h.one.aside (by simp; omega) v, h.two.aside (by simp; omega) v, h.res.aside (by simp; omega) v, h.old.setCell (by have := h.base; simp; omega) v, h.base⟩
set_option maxHeartbeats 1000000 in
theorem thenR_bad1 (p q : Pa) (i : p.In) (h : chkP p ≠ 0) (w : World) : Calls Try.prog 12 #[.agg #[.int .i64 p.f, .int .i64 p.k, .int .u32 p.p0, .int .u32 p.p1, .int .u32 p.p2, .int .u32 p.p3, .int .i64 p.u, .int .u32 p.l0, .int .u32 p.l1, .int .u32 p.l2], .agg #[.int .i64 q.f, .int .i64 q.k, .int .u32 q.p0, .int .u32 q.p1, .int .u32 q.p2, .int .u32 q.p3, .int .i64 q.u, .int .u32 q.l0, .int .u32 q.l1, .int .u32 q.l2]] w (Gives P0 (chkP p) w) := by
  have A := Lib.hid (chkPR_any p i)
  have h0 := PQR.fresh w 26 p q
  have e1 : (chkP p == 0) = false := by simpa using h
  have e2 : (chkP p != 0) = true := by simpa using h
  generalize chkP p = x at A e1 e2 ⊢
  clear h i
  go_enter Try.func12, Try.ntmps12
  go_wp2_with fail
  refine (A.out _).mono ?_
  rintro e w1 ⟨rfl, b1⟩
  have h1 := h0.below b1
  clear b1 h0
  generalize w.heap.size = g at h1 ⊢
  go_upto_region 4 with fail
  obtain ⟨s1, s2⟩ := h1.since2
  refine region_since w1 (by kernel_rfl) (by kernel_rfl) (Below.refl _ _) ?_
  repeat (go_big_quiet_step (fail))
  refine wpQuiet_nil ?_
  rintro w3 ⟨x', hw⟩
  have h3 := h1.below (hw ▸ x'.2)
  clear hw x' s1 s2 h1
  go_wp2_with ((refine put rfl 26 (.tmp 4) _ rfl (g := g + 1 + 1) rfl rfl h3.res (by kernel_rfl) rfl (by simp [Value.oneCell']) h3.old (by rw [h3.base]; omega) ?_; intro w9 hR9 hB9 hs9 ho9))
  exact bodyPost_ret (two_pathR Try.results12 rfl rfl (P := P0) hR9) rfl (gives hB9 rfl rfl)
set_option maxHeartbeats 1000000 in
theorem thenR_bad2 (p q : Pa) (i : p.In) (j : q.In) (z : chkP p = 0) (h : chkP q ≠ 0) (w : World) : Calls Try.prog 12 #[.agg #[.int .i64 p.f, .int .i64 p.k, .int .u32 p.p0, .int .u32 p.p1, .int .u32 p.p2, .int .u32 p.p3, .int .i64 p.u, .int .u32 p.l0, .int .u32 p.l1, .int .u32 p.l2], .agg #[.int .i64 q.f, .int .i64 q.k, .int .u32 q.p0, .int .u32 q.p1, .int .u32 q.p2, .int .u32 q.p3, .int .i64 q.u, .int .u32 q.l0, .int .u32 q.l1, .int .u32 q.l2]] w (Gives P0 (chkP q) w) := by
  have A := Lib.hid (chkPR_any p i)
  rw [z] at A
  have B := Lib.hid (chkPR_any q j)
  have h0 := PQR.fresh w 26 p q
  have e1 : (chkP q == 0) = false := by simpa using h
  have e2 : (chkP q != 0) = true := by simpa using h
  generalize chkP q = x at B e1 e2 ⊢
  clear h i j z
  go_enter Try.func12, Try.ntmps12
  go_wp2_with fail
  refine (A.out _).mono ?_
  rintro e w1 ⟨rfl, b1⟩
  have h1 := h0.below b1
  clear b1 h0
  generalize w.heap.size = g at h1 ⊢
  obtain ⟨qc, qf'⟩ := all_of h1.two
  go_wp2_with fail
  refine (B.out _).mono ?_
  rintro e w2 ⟨rfl, b2⟩
  have h2 := h1.below b2
  clear b2 h1 qc qf'
  go_upto_region 4 with fail
  obtain ⟨s1, s2⟩ := h2.since2
  refine region_since w2 (by kernel_rfl) (by kernel_rfl) (Below.refl _ _) ?_
  repeat (go_big_quiet_step (fail))
  refine wpQuiet_nil ?_
  rintro w3 ⟨x', hw⟩
  have h3 := h2.below (hw ▸ x'.2)
  clear hw x' s1 s2 h2
  go_wp2_with ((refine put rfl 26 (.tmp 4) _ rfl (g := g + 1 + 1) rfl rfl h3.res (by kernel_rfl) rfl (by simp [Value.oneCell']) h3.old (by rw [h3.base]; omega) ?_; intro w9 hR9 hB9 hs9 ho9))
  exact bodyPost_ret (two_pathR Try.results12 rfl rfl (P := P0) hR9) rfl (gives hB9 rfl rfl)
set_option maxHeartbeats 1000000 in
theorem thenR_bad3 (p q : Pa) (i : p.In) (j : q.In) (z : chkP p = 0) (y : chkP q = 0) (h : p.k + p.u ≠ q.f) (w : World) : Calls Try.prog 12 #[.agg #[.int .i64 p.f, .int .i64 p.k, .int .u32 p.p0, .int .u32 p.p1, .int .u32 p.p2, .int .u32 p.p3, .int .i64 p.u, .int .u32 p.l0, .int .u32 p.l1, .int .u32 p.l2], .agg #[.int .i64 q.f, .int .i64 q.k, .int .u32 q.p0, .int .u32 q.p1, .int .u32 q.p2, .int .u32 q.p3, .int .i64 q.u, .int .u32 q.l0, .int .u32 q.l1, .int .u32 q.l2]] w (Gives P0 10 w) := by
  have A := Lib.hid (chkPR_any p i)
  rw [z] at A
  have B := Lib.hid (chkPR_any q j)
  rw [y] at B
  have T := Lib.hid (toR_any p i)
  rw [show toV p = p.k + p.u by unfold toV; rw [if_pos z]] at T
  have h0 := PQR.fresh w 26 p q
  generalize p.k + p.u = d at T h
  have e1 : (d != q.f) = true := by simpa using h
  clear h i j z y
  go_enter Try.func12, Try.ntmps12
  go_wp2_with fail
  refine (A.out _).mono ?_
  rintro e w1 ⟨rfl, b1⟩
  have h1 := h0.below b1
  clear b1 h0
  generalize w.heap.size = g at h1 ⊢
  obtain ⟨qc, qf'⟩ := all_of h1.two
  go_wp2_with fail
  refine (B.out _).mono ?_
  rintro e w2 ⟨rfl, b2⟩
  have h2 := h1.below b2
  clear b2 h1 qc qf'
  go_upto_region 4 with fail
  obtain ⟨s1, s2⟩ := h2.since2
  refine region_since w2 (by kernel_rfl) (by kernel_rfl) (Below.refl _ _) ?_
  repeat (go_big_quiet_step ((go_at_call 40; with_reducible exact since_call T.out _)))
  refine wpQuiet_nil ?_
  rintro w3 ⟨x', hw⟩
  have h3 := h2.below (hw ▸ x'.2)
  clear hw x' s1 s2 h2
  go_wp2_with ((refine put rfl 26 (.tmp 4) _ rfl (g := g + 1 + 1) rfl rfl h3.res (by kernel_rfl) rfl (by simp [Value.oneCell']) h3.old (by rw [h3.base]; omega) ?_; intro w9 hR9 hB9 hs9 ho9))
  exact bodyPost_ret (two_pathR Try.results12 rfl rfl (P := P0) hR9) rfl (gives hB9 rfl rfl)
end Go.Proofs.Ytilkdpobkcocoaa.path
