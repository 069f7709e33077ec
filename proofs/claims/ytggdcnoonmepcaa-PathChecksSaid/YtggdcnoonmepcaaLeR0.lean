/-
  The contract of watershedref05.LE, at any two paths.
-/
import Derived.Test.YtggdcnoonmepcaaRf
import Derived.Test.YtggdcnoonmepcaaLe2
import Derived.Test.YtggdcnoonmepcaaPl
import Derived.Deep.QuietTactic
import Derived.BigQuiet
namespace Go.Proofs.Ytggdcnoonmepcaa.path
open Go.ChangeShapes Go.WideShapes Go.ChangeAt Go.RowKit
open Go.Proofs.Ytggdcnoonmepcaa.tm Go.Proofs.Ytggdcnoonmepcaa.opened Go.Proofs.Ytggdcnoonmepcaa.block Go.Proofs.Ytggdcnoonmepcaa.stamp Go.Proofs.Ytggdcnoonmepcaa.pa

theorem PQ.drewN {w wr : World} {g : Nat} {tp : TypeId} {p q : Pa} (h : PQ w wr g tp p q) (n : Nat) : PQ w (wr.drewN n) g tp p q := ⟨h.one, h.two, below_drewN h.old n, h.base⟩
theorem PQ.since {w W : World} {g : Nat} {tp : TypeId} {p q : Pa} (h : PQ w W g tp p q) : (∀ (x : Since W) (i : Nat), x.1.cell? ⟨g, i, none⟩ = #[.int .i64 p.f, .int .i64 p.k, .int .u32 p.p0, .int .u32 p.p1, .int .u32 p.p2, .int .u32 p.p3, .int .i64 p.u, .int .u32 p.l0, .int .u32 p.l1, .int .u32 p.l2][i]?) ∧ (∀ (x : Since W) (i : Nat), x.1.cell? ⟨g + 1, i, none⟩ = #[.int .i64 q.f, .int .i64 q.k, .int .u32 q.p0, .int .u32 q.p1, .int .u32 q.p2, .int .u32 q.p3, .int .i64 q.u, .int .u32 q.l0, .int .u32 q.l1, .int .u32 q.l2][i]?) :=
  ⟨fun x i => (h.one.below x.2 h.one.inside).read i, fun x i => (h.two.below x.2 h.two.inside).read i⟩
set_option maxHeartbeats 1000000 in
theorem leR_no1 (p q : Pa) (i : p.In) (j : q.In) (h : chkP p ≠ 0) (w : World) : Calls Try.prog 30 #[.agg #[.int .i64 p.f, .int .i64 p.k, .int .u32 p.p0, .int .u32 p.p1, .int .u32 p.p2, .int .u32 p.p3, .int .i64 p.u, .int .u32 p.l0, .int .u32 p.l1, .int .u32 p.l2], .agg #[.int .i64 q.f, .int .i64 q.k, .int .u32 q.p0, .int .u32 q.p1, .int .u32 q.p2, .int .u32 q.p3, .int .i64 q.u, .int .u32 q.l0, .int .u32 q.l1, .int .u32 q.l2]] w fun e w' => e = .returned (.bool false) ∧ Below w.heap.size w w' := by
  have A := Lib.hid (chkPR_any p i)
  have B := Lib.hid (chkPR_any q j)
  have C := Lib.hid (toR_any p i)
  have D := Lib.hid (toR_any q j)
  generalize chkP p = x at A h
  have hx : (x != 0) = true := by simpa using h
  clear h i j
  have h0 := PQ.fresh w 30 p q
  go_enter Try.func30, Try.ntmps30
  go_wp2_with fail
  generalize (w.alloc (.cells #[.int .i64 p.f, .int .i64 p.k, .int .u32 p.p0, .int .u32 p.p1, .int .u32 p.p2, .int .u32 p.p3, .int .i64 p.u, .int .u32 p.l0, .int .u32 p.l1, .int .u32 p.l2] 30)).alloc (.cells #[.int .i64 q.f, .int .i64 q.k, .int .u32 q.p0, .int .u32 q.p1, .int .u32 q.p2, .int .u32 q.p3, .int .i64 q.u, .int .u32 q.l0, .int .u32 q.l1, .int .u32 q.l2] 30) = W at h0 ⊢
  generalize w.heap.size = g at h0 ⊢
  obtain ⟨c1, c2⟩ := h0.since
  refine region_since W (by kernel_rfl) (by kernel_rfl) (Below.refl _ _) ?_
  repeat (go_big_quiet_step ((first | (go_at_call 24; with_reducible exact since_call A.out _) | (go_at_call 24; with_reducible exact since_call B.out _) | (go_at_call 26; with_reducible exact since_call C.out _) | (go_at_call 26; with_reducible exact since_call D.out _))))
  refine wpQuiet_nil ?_
  rintro w2 ⟨x, hw⟩
  have H := h0.below (hw ▸ x.2)
  clear hw x c1 c2 h0 W
  go_wp2_with fail
  go_ret
  exact ⟨rfl, H.old⟩
set_option maxHeartbeats 1000000 in
theorem leR_no2 (p q : Pa) (i : p.In) (j : q.In) (h : chkP p = 0) (h2 : chkP q ≠ 0) (w : World) : Calls Try.prog 30 #[.agg #[.int .i64 p.f, .int .i64 p.k, .int .u32 p.p0, .int .u32 p.p1, .int .u32 p.p2, .int .u32 p.p3, .int .i64 p.u, .int .u32 p.l0, .int .u32 p.l1, .int .u32 p.l2], .agg #[.int .i64 q.f, .int .i64 q.k, .int .u32 q.p0, .int .u32 q.p1, .int .u32 q.p2, .int .u32 q.p3, .int .i64 q.u, .int .u32 q.l0, .int .u32 q.l1, .int .u32 q.l2]] w fun e w' => e = .returned (.bool false) ∧ Below w.heap.size w w' := by
  have A := Lib.hid (chkPR_any p i)
  have B := Lib.hid (chkPR_any q j)
  have C := Lib.hid (toR_any p i)
  have D := Lib.hid (toR_any q j)
  rw [h] at A
  generalize chkP q = x at B h2
  have hx : (x != 0) = true := by simpa using h2
  clear h h2 i j
  have h0 := PQ.fresh w 30 p q
  go_enter Try.func30, Try.ntmps30
  go_wp2_with fail
  generalize (w.alloc (.cells #[.int .i64 p.f, .int .i64 p.k, .int .u32 p.p0, .int .u32 p.p1, .int .u32 p.p2, .int .u32 p.p3, .int .i64 p.u, .int .u32 p.l0, .int .u32 p.l1, .int .u32 p.l2] 30)).alloc (.cells #[.int .i64 q.f, .int .i64 q.k, .int .u32 q.p0, .int .u32 q.p1, .int .u32 q.p2, .int .u32 q.p3, .int .i64 q.u, .int .u32 q.l0, .int .u32 q.l1, .int .u32 q.l2] 30) = W at h0 ⊢
  generalize w.heap.size = g at h0 ⊢
  obtain ⟨c1, c2⟩ := h0.since
  refine region_since W (by kernel_rfl) (by kernel_rfl) (Below.refl _ _) ?_
  repeat (go_big_quiet_step ((first | (go_at_call 24; with_reducible exact since_call A.out _) | (go_at_call 24; with_reducible exact since_call B.out _) | (go_at_call 26; with_reducible exact since_call C.out _) | (go_at_call 26; with_reducible exact since_call D.out _))))
  refine wpQuiet_nil ?_
  rintro w2 ⟨x, hw⟩
  have H := h0.below (hw ▸ x.2)
  clear hw x c1 c2 h0 W
  go_wp2_with fail
  go_ret
  exact ⟨rfl, H.old⟩
set_option maxHeartbeats 1000000 in
theorem leR_no3 (p q : Pa) (i : p.In) (j : q.In) (h : chkP p = 0) (h2 : chkP q = 0) (h3 : p.f ≠ q.f) (w : World) : Calls Try.prog 30 #[.agg #[.int .i64 p.f, .int .i64 p.k, .int .u32 p.p0, .int .u32 p.p1, .int .u32 p.p2, .int .u32 p.p3, .int .i64 p.u, .int .u32 p.l0, .int .u32 p.l1, .int .u32 p.l2], .agg #[.int .i64 q.f, .int .i64 q.k, .int .u32 q.p0, .int .u32 q.p1, .int .u32 q.p2, .int .u32 q.p3, .int .i64 q.u, .int .u32 q.l0, .int .u32 q.l1, .int .u32 q.l2]] w fun e w' => e = .returned (.bool false) ∧ Below w.heap.size w w' := by
  have A := Lib.hid (chkPR_any p i)
  have B := Lib.hid (chkPR_any q j)
  have C := Lib.hid (toR_any p i)
  have D := Lib.hid (toR_any q j)
  rw [h] at A
  rw [h2] at B
  have hx : (p.f != q.f) = true := by simpa using h3
  clear h h2 h3 i j
  have h0 := PQ.fresh w 30 p q
  go_enter Try.func30, Try.ntmps30
  go_wp2_with fail
  generalize (w.alloc (.cells #[.int .i64 p.f, .int .i64 p.k, .int .u32 p.p0, .int .u32 p.p1, .int .u32 p.p2, .int .u32 p.p3, .int .i64 p.u, .int .u32 p.l0, .int .u32 p.l1, .int .u32 p.l2] 30)).alloc (.cells #[.int .i64 q.f, .int .i64 q.k, .int .u32 q.p0, .int .u32 q.p1, .int .u32 q.p2, .int .u32 q.p3, .int .i64 q.u, .int .u32 q.l0, .int .u32 q.l1, .int .u32 q.l2] 30) = W at h0 ⊢
  generalize w.heap.size = g at h0 ⊢
  obtain ⟨c1, c2⟩ := h0.since
  refine region_since W (by kernel_rfl) (by kernel_rfl) (Below.refl _ _) ?_
  repeat (go_big_quiet_step ((first | (go_at_call 24; with_reducible exact since_call A.out _) | (go_at_call 24; with_reducible exact since_call B.out _) | (go_at_call 26; with_reducible exact since_call C.out _) | (go_at_call 26; with_reducible exact since_call D.out _))))
  refine wpQuiet_nil ?_
  rintro w2 ⟨x, hw⟩
  have H := h0.below (hw ▸ x.2)
  clear hw x c1 c2 h0 W
  go_wp2_with fail
  go_ret
  exact ⟨rfl, H.old⟩
set_option maxHeartbeats 1000000 in
theorem leR_no4 (p q : Pa) (i : p.In) (j : q.In) (h : chkP p = 0) (h2 : chkP q = 0) (h3 : p.f = q.f) (h4 : toV p ≠ toV q) (w : World) : Calls Try.prog 30 #[.agg #[.int .i64 p.f, .int .i64 p.k, .int .u32 p.p0, .int .u32 p.p1, .int .u32 p.p2, .int .u32 p.p3, .int .i64 p.u, .int .u32 p.l0, .int .u32 p.l1, .int .u32 p.l2], .agg #[.int .i64 q.f, .int .i64 q.k, .int .u32 q.p0, .int .u32 q.p1, .int .u32 q.p2, .int .u32 q.p3, .int .i64 q.u, .int .u32 q.l0, .int .u32 q.l1, .int .u32 q.l2]] w fun e w' => e = .returned (.bool false) ∧ Below w.heap.size w w' := by
  have A := Lib.hid (chkPR_any p i)
  have B := Lib.hid (chkPR_any q j)
  have C := Lib.hid (toR_any p i)
  have D := Lib.hid (toR_any q j)
  rw [h] at A
  rw [h2] at B
  have hx : (p.f != q.f) = false := by simp [h3]
  generalize toV p = y at C h4
  generalize toV q = z at D h4
  have hy : (y != z) = true := by simpa using h4
  clear h h2 h3 h4 i j
  have h0 := PQ.fresh w 30 p q
  go_enter Try.func30, Try.ntmps30
  go_wp2_with fail
  generalize (w.alloc (.cells #[.int .i64 p.f, .int .i64 p.k, .int .u32 p.p0, .int .u32 p.p1, .int .u32 p.p2, .int .u32 p.p3, .int .i64 p.u, .int .u32 p.l0, .int .u32 p.l1, .int .u32 p.l2] 30)).alloc (.cells #[.int .i64 q.f, .int .i64 q.k, .int .u32 q.p0, .int .u32 q.p1, .int .u32 q.p2, .int .u32 q.p3, .int .i64 q.u, .int .u32 q.l0, .int .u32 q.l1, .int .u32 q.l2] 30) = W at h0 ⊢
  generalize w.heap.size = g at h0 ⊢
  obtain ⟨c1, c2⟩ := h0.since
  refine region_since W (by kernel_rfl) (by kernel_rfl) (Below.refl _ _) ?_
  repeat (go_big_quiet_step ((first | (go_at_call 24; with_reducible exact since_call A.out _) | (go_at_call 24; with_reducible exact since_call B.out _) | (go_at_call 26; with_reducible exact since_call C.out _) | (go_at_call 26; with_reducible exact since_call D.out _))))
  refine wpQuiet_nil ?_
  rintro w2 ⟨x, hw⟩
  have H := h0.below (hw ▸ x.2)
  clear hw x c1 c2 h0 W
  go_wp2_with fail
  go_ret
  exact ⟨rfl, H.old⟩
set_option maxHeartbeats 1000000 in
theorem leR_no5 (p q : Pa) (i : p.In) (j : q.In) (h : chkP p = 0) (h2 : chkP q = 0) (h3 : p.f = q.f) (h4 : toV p = toV q) (h5 : q.k < p.k) (w : World) : Calls Try.prog 30 #[.agg #[.int .i64 p.f, .int .i64 p.k, .int .u32 p.p0, .int .u32 p.p1, .int .u32 p.p2, .int .u32 p.p3, .int .i64 p.u, .int .u32 p.l0, .int .u32 p.l1, .int .u32 p.l2], .agg #[.int .i64 q.f, .int .i64 q.k, .int .u32 q.p0, .int .u32 q.p1, .int .u32 q.p2, .int .u32 q.p3, .int .i64 q.u, .int .u32 q.l0, .int .u32 q.l1, .int .u32 q.l2]] w fun e w' => e = .returned (.bool false) ∧ Below w.heap.size w w' := by
  have A := Lib.hid (chkPR_any p i)
  have B := Lib.hid (chkPR_any q j)
  have C := Lib.hid (toR_any p i)
  have D := Lib.hid (toR_any q j)
  rw [h] at A
  rw [h2] at B
  have hx : (p.f != q.f) = false := by simp [h3]
  generalize toV p = y at C h4
  generalize toV q = z at D h4
  have hy : (y != z) = false := by simp [h4]
  clear h h2 h3 h4 i j
  have h0 := PQ.fresh w 30 p q
  go_enter Try.func30, Try.ntmps30
  go_wp2_with fail
  generalize (w.alloc (.cells #[.int .i64 p.f, .int .i64 p.k, .int .u32 p.p0, .int .u32 p.p1, .int .u32 p.p2, .int .u32 p.p3, .int .i64 p.u, .int .u32 p.l0, .int .u32 p.l1, .int .u32 p.l2] 30)).alloc (.cells #[.int .i64 q.f, .int .i64 q.k, .int .u32 q.p0, .int .u32 q.p1, .int .u32 q.p2, .int .u32 q.p3, .int .i64 q.u, .int .u32 q.l0, .int .u32 q.l1, .int .u32 q.l2] 30) = W at h0 ⊢
  generalize w.heap.size = g at h0 ⊢
  obtain ⟨c1, c2⟩ := h0.since
  refine region_since W (by kernel_rfl) (by kernel_rfl) (Below.refl _ _) ?_
  repeat (go_big_quiet_step ((first | (go_at_call 24; with_reducible exact since_call A.out _) | (go_at_call 24; with_reducible exact since_call B.out _) | (go_at_call 26; with_reducible exact since_call C.out _) | (go_at_call 26; with_reducible exact since_call D.out _))))
  refine wpQuiet_nil ?_
  rintro w2 ⟨x, hw⟩
  have H := h0.below (hw ▸ x.2)
  clear hw x c1 c2 h0 W
  go_wp2_with fail
  go_ret
  exact ⟨rfl, H.old⟩
end Go.Proofs.Ytggdcnoonmepcaa.path
