/-
  The contract of watershedref05.Apply where it is refused at once.
-/
import Derived.Test.YtilkdpobkcocoaaSt
import Derived.Test.YtilkdpobkcocoaaRf
import Derived.Test.YtilkdpobkcocoaaLe
import Derived.BigRegion
import Derived.Deep.QuietTactic
import Derived.BigQuiet
import Derived.Deep.Cut
namespace Go.Proofs.Ytilkdpobkcocoaa.path
open Go.ChangeShapes Go.WideShapes Go.ChangeAt Go.RowKit
open Go.Proofs.Ytilkdpobkcocoaa.tm Go.Proofs.Ytilkdpobkcocoaa.opened Go.Proofs.Ytilkdpobkcocoaa.block Go.Proofs.Ytilkdpobkcocoaa.stamp Go.Proofs.Ytilkdpobkcocoaa.pa

/-- Beside a path and a time, the block for what is handed back. -/
structure PTS (w wr : World) (g : Nat) (p : Pa) (t : Tm) : Prop where
  pt : PT w wr g 26 p t
  res : Whole wr (g + 1 + 1) 28 #[.int .u32 0, .int .i64 0, .int .u32 0, .int .u32 0, .int .u32 0]
theorem PTS.below {w wr w1 : World} {g : Nat} {p : Pa} {t : Tm} (h : PTS w wr g p t) (k : Below wr.heap.size wr w1) : PTS w w1 g p t := ⟨h.pt.below k, h.res.below k h.res.inside⟩
theorem PTS.fresh (w : World) (p : Pa) (t : Tm) : PTS w (((w.alloc (.cells #[.int .i64 p.f, .int .i64 p.k, .int .u32 p.p0, .int .u32 p.p1, .int .u32 p.p2, .int .u32 p.p3, .int .i64 p.u, .int .u32 p.l0, .int .u32 p.l1, .int .u32 p.l2] 26)).alloc (.cells #[.int .u32 t.e, .int .i64 t.d, .int .u32 t.a, .int .u32 t.b, .int .u32 t.c] 28)).alloc (.cells #[.int .u32 0, .int .i64 0, .int .u32 0, .int .u32 0, .int .u32 0] 28)) w.heap.size p t := by
  refine ⟨(PT.fresh w _ p t).alloc _, ?_⟩
  have k := Whole.fresh ((w.alloc (.cells #[.int .i64 p.f, .int .i64 p.k, .int .u32 p.p0, .int .u32 p.p1, .int .u32 p.p2, .int .u32 p.p3, .int .i64 p.u, .int .u32 p.l0, .int .u32 p.l1, .int .u32 p.l2] 26)).alloc (.cells #[.int .u32 t.e, .int .i64 t.d, .int .u32 t.a, .int .u32 t.b, .int .u32 t.c] 28)) 28 #[.int .u32 0, .int .i64 0, .int .u32 0, .int .u32 0, .int .u32 0]
  rw [World.size_alloc, World.size_alloc] at k
  exact k
theorem PTS.alloc {w wr : World} {g : Nat} {p : Pa} {t : Tm} (h : PTS w wr g p t) (o : Obj) : PTS w (wr.alloc o) g p t := ⟨h.pt.alloc o, h.res.alloc o⟩
theorem PTS.drew {w wr : World} {g : Nat} {p : Pa} {t : Tm} (h : PTS w wr g p t) : PTS w wr.drew g p t := ⟨⟨h.pt.one, h.pt.two, h.pt.old.drew, h.pt.base⟩, h.res⟩
theorem PTS.aside {w wr : World} {g : Nat} {p : Pa} {t : Tm} (h : PTS w wr g p t) {n i : Nat} (hn : g + 1 + 1 < n) (v : Value) : PTS w (wr.setCell ⟨n, i, none⟩ v) g p t :=
  ⟨⟨h.pt.one.aside (by simp; omega) v, h.pt.two.aside (by simp; omega) v, h.pt.old.setCell (by have := h.pt.base; simp; omega) v, h.pt.base⟩, h.res.aside (by simp; omega) v⟩
set_option maxHeartbeats 1000000 in
theorem applyR_bad1 (p : Pa) (t : Tm) (i : p.In) (h : chkP p ≠ 0) (w : World) : Calls Try.prog 10 #[.agg #[.int .i64 p.f, .int .i64 p.k, .int .u32 p.p0, .int .u32 p.p1, .int .u32 p.p2, .int .u32 p.p3, .int .i64 p.u, .int .u32 p.l0, .int .u32 p.l1, .int .u32 p.l2], .agg #[.int .u32 t.e, .int .i64 t.d, .int .u32 t.a, .int .u32 t.b, .int .u32 t.c]] w (GivesT T0 (chkP p) w) := by
  have C := Lib.hid (chkPR_any p i)
  have h0 := PTS.fresh w p t
  have e1 : (chkP p == 0) = false := by simpa using h
  have e2 : (chkP p != 0) = true := by simpa using h
  generalize chkP p = x at C e1 e2 ⊢
  clear h i
  go_enter Try.func10, Try.ntmps10
  go_wp2_with fail
  refine (C.out _).mono ?_
  rintro e w1 ⟨rfl, b1⟩
  have h1 := h0.below b1
  clear b1 h0
  generalize w.heap.size = g at h1 ⊢
  go_wp2_with ((refine put rfl 28 (.tmp 4) _ rfl (g := g + 1 + 1) rfl rfl h1.res (by kernel_rfl) rfl (by simp [Value.oneCell']) h1.pt.old (by rw [h1.pt.base]; omega) ?_; intro w9 hR9 hB9 hs9 ho9))
  exact bodyPost_ret (two_time Try.results10 rfl rfl (t := T0) hR9) rfl (givesT hB9 rfl rfl)
set_option maxHeartbeats 1000000 in
theorem applyR_bad2 (p : Pa) (t : Tm) (i : p.In) (j : t.In) (z : chkP p = 0) (h : chk t ≠ 0) (w : World) : Calls Try.prog 10 #[.agg #[.int .i64 p.f, .int .i64 p.k, .int .u32 p.p0, .int .u32 p.p1, .int .u32 p.p2, .int .u32 p.p3, .int .i64 p.u, .int .u32 p.l0, .int .u32 p.l1, .int .u32 p.l2], .agg #[.int .u32 t.e, .int .i64 t.d, .int .u32 t.a, .int .u32 t.b, .int .u32 t.c]] w (GivesT T0 (chk t) w) := by
  have C := Lib.hid (chkPR_any p i)
  rw [z] at C
  have K := Lib.hid (checkR_any t j)
  have h0 := PTS.fresh w p t
  have e1 : (chk t == 0) = false := by simpa using h
  have e2 : (chk t != 0) = true := by simpa using h
  generalize chk t = x at K e1 e2 ⊢
  clear h i j z
  go_enter Try.func10, Try.ntmps10
  go_wp2_with fail
  refine (C.out _).mono ?_
  rintro e w1 ⟨rfl, b1⟩
  have h1 := h0.below b1
  clear b1 h0
  generalize w.heap.size = g at h1 ⊢
  obtain ⟨qc, qf⟩ := all_of h1.pt.two
  go_wp2_with fail
  refine (K.out _).mono ?_
  rintro e w2 ⟨rfl, b2⟩
  have h2 := h1.below b2
  clear b2 h1 qc qf
  go_wp2_with ((refine put rfl 28 (.tmp 4) _ rfl (g := g + 1 + 1) rfl rfl h2.res (by kernel_rfl) rfl (by simp [Value.oneCell']) h2.pt.old (by rw [h2.pt.base]; omega) ?_; intro w9 hR9 hB9 hs9 ho9))
  exact bodyPost_ret (two_time Try.results10 rfl rfl (t := T0) hR9) rfl (givesT hB9 rfl rfl)
set_option maxHeartbeats 1000000 in
theorem applyR_bad3 (p : Pa) (t : Tm) (i : p.In) (j : t.In) (z : chkP p = 0) (y : chk t = 0) (h : t.d ≠ p.f) (w : World) : Calls Try.prog 10 #[.agg #[.int .i64 p.f, .int .i64 p.k, .int .u32 p.p0, .int .u32 p.p1, .int .u32 p.p2, .int .u32 p.p3, .int .i64 p.u, .int .u32 p.l0, .int .u32 p.l1, .int .u32 p.l2], .agg #[.int .u32 t.e, .int .i64 t.d, .int .u32 t.a, .int .u32 t.b, .int .u32 t.c]] w (GivesT T0 10 w) := by
  have C := Lib.hid (chkPR_any p i)
  rw [z] at C
  have K := Lib.hid (checkR_any t j)
  rw [y] at K
  have h0 := PTS.fresh w p t
  have e1 : (t.d != p.f) = true := by simpa using h
  clear h i j z y
  go_enter Try.func10, Try.ntmps10
  go_wp2_with fail
  refine (C.out _).mono ?_
  rintro e w1 ⟨rfl, b1⟩
  have h1 := h0.below b1
  clear b1 h0
  generalize w.heap.size = g at h1 ⊢
  obtain ⟨qc, qf⟩ := all_of h1.pt.two
  go_wp2_with fail
  refine (K.out _).mono ?_
  rintro e w2 ⟨rfl, b2⟩
  have h2 := h1.below b2
  clear b2 h1 qc qf
  obtain ⟨pc, pf⟩ := all_of h2.pt.one
  obtain ⟨qc, qf⟩ := all_of h2.pt.two
  go_wp2_with ((refine put rfl 28 (.tmp 4) _ rfl (g := g + 1 + 1) rfl rfl h2.res (by kernel_rfl) rfl (by simp [Value.oneCell']) h2.pt.old (by rw [h2.pt.base]; omega) ?_; intro w9 hR9 hB9 hs9 ho9))
  exact bodyPost_ret (two_time Try.results10 rfl rfl (t := T0) hR9) rfl (givesT hB9 rfl rfl)
end Go.Proofs.Ytilkdpobkcocoaa.path
