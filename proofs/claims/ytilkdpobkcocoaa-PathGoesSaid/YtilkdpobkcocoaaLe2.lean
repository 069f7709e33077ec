/-
  The contract of path.LE.
-/
import Derived.Test.YtilkdpobkcocoaaAp2
import Derived.Test.YtilkdpobkcocoaaLe
namespace Go.Proofs.Ytilkdpobkcocoaa.path
open Go.ChangeShapes Go.WideShapes Go.ChangeAt Go.RowKit
open Go.Proofs.Ytilkdpobkcocoaa.tm Go.Proofs.Ytilkdpobkcocoaa.opened Go.Proofs.Ytilkdpobkcocoaa.block Go.Proofs.Ytilkdpobkcocoaa.stamp Go.Proofs.Ytilkdpobkcocoaa.pa

/-- Two paths are known; nothing older has turned. -/
structure PQ (w wr : World) (g : Nat) (tp : TypeId) (p q : Pa) : Prop where
  one : Whole wr g tp #[.int .i64 p.f, .int .i64 p.k, .int .u32 p.p0, .int .u32 p.p1, .int .u32 p.p2, .int .u32 p.p3, .int .i64 p.u, .int .u32 p.l0, .int .u32 p.l1, .int .u32 p.l2]
  two : Whole wr (g + 1) tp #[.int .i64 q.f, .int .i64 q.k, .int .u32 q.p0, .int .u32 q.p1, .int .u32 q.p2, .int .u32 q.p3, .int .i64 q.u, .int .u32 q.l0, .int .u32 q.l1, .int .u32 q.l2]
  old : Below w.heap.size w wr
  base : w.heap.size = g
theorem PQ.below {w wr w1 : World} {g : Nat} {tp : TypeId} {p q : Pa} (h : PQ w wr g tp p q) (k : Below wr.heap.size wr w1) : PQ w w1 g tp p q :=
  ⟨h.one.below k h.one.inside, h.two.below k h.two.inside, h.old.trans (k.mono h.old.size), h.base⟩
theorem PQ.fresh (w : World) (tp : TypeId) (p q : Pa) : PQ w ((w.alloc (.cells #[.int .i64 p.f, .int .i64 p.k, .int .u32 p.p0, .int .u32 p.p1, .int .u32 p.p2, .int .u32 p.p3, .int .i64 p.u, .int .u32 p.l0, .int .u32 p.l1, .int .u32 p.l2] tp)).alloc (.cells #[.int .i64 q.f, .int .i64 q.k, .int .u32 q.p0, .int .u32 q.p1, .int .u32 q.p2, .int .u32 q.p3, .int .i64 q.u, .int .u32 q.l0, .int .u32 q.l1, .int .u32 q.l2] tp)) w.heap.size tp p q := by
  refine ⟨(Whole.fresh w tp _).alloc _, ?_, fresh2 _ _ _, rfl⟩
  have k := Whole.fresh (w.alloc (.cells #[.int .i64 p.f, .int .i64 p.k, .int .u32 p.p0, .int .u32 p.p1, .int .u32 p.p2, .int .u32 p.p3, .int .i64 p.u, .int .u32 p.l0, .int .u32 p.l1, .int .u32 p.l2] tp)) tp #[.int .i64 q.f, .int .i64 q.k, .int .u32 q.p0, .int .u32 q.p1, .int .u32 q.p2, .int .u32 q.p3, .int .i64 q.u, .int .u32 q.l0, .int .u32 q.l1, .int .u32 q.l2]
  rw [World.size_alloc] at k
  exact k
theorem PQ.alloc {w wr : World} {g : Nat} {tp : TypeId} {p q : Pa} (h : PQ w wr g tp p q) (o : Obj) : PQ w (wr.alloc o) g tp p q :=
  ⟨h.one.alloc o, h.two.alloc o, h.old.alloc h.old.size _, h.base⟩
theorem lep_bad1 (p q : Pa) (i : p.In) (h : chkP p ≠ 0) (w : World) : Calls Try.prog 18 #[.agg #[.int .i64 p.f, .int .i64 p.k, .int .u32 p.p0, .int .u32 p.p1, .int .u32 p.p2, .int .u32 p.p3, .int .i64 p.u, .int .u32 p.l0, .int .u32 p.l1, .int .u32 p.l2], .agg #[.int .i64 q.f, .int .i64 q.k, .int .u32 q.p0, .int .u32 q.p1, .int .u32 q.p2, .int .u32 q.p3, .int .i64 q.u, .int .u32 q.l0, .int .u32 q.l1, .int .u32 q.l2]] w fun e w' => e = .returned (.bool false) ∧ Below w.heap.size w w' := by
  have A := Lib.hid (first_any p i)
  generalize fstV p = V at A
  generalize chkP p = x at A h
  have hx : (x != 0) = true := by simpa using h
  clear h i
  have h0 := PQ.fresh w 32 p q
  go_enter Try.func18, Try.ntmps18
  go_wp2_with (go_at_call 39; refine (A.out _).mono ?_; rintro e w1 ⟨rfl, b1⟩; have h1 := (h0.below b1).alloc (.cells #[.int .u32 V.e, .int .i64 V.d, .int .u32 V.a, .int .u32 V.b, .int .u32 V.c] 28))
  go_ret
  exact ⟨rfl, h1.old⟩
theorem lep_bad2 (p q : Pa) (i : p.In) (j : q.In) (h : chkP p = 0) (h' : chkP q ≠ 0) (w : World) : Calls Try.prog 18 #[.agg #[.int .i64 p.f, .int .i64 p.k, .int .u32 p.p0, .int .u32 p.p1, .int .u32 p.p2, .int .u32 p.p3, .int .i64 p.u, .int .u32 p.l0, .int .u32 p.l1, .int .u32 p.l2], .agg #[.int .i64 q.f, .int .i64 q.k, .int .u32 q.p0, .int .u32 q.p1, .int .u32 q.p2, .int .u32 q.p3, .int .i64 q.u, .int .u32 q.l0, .int .u32 q.l1, .int .u32 q.l2]] w fun e w' => e = .returned (.bool false) ∧ Below w.heap.size w w' := by
  have A := Lib.hid (first_any p i)
  have B := Lib.hid (first_any q j)
  rw [h] at A
  generalize fstV p = V at A
  generalize fstV q = U at B
  generalize chkP q = x at B h'
  have hx : (x != 0) = true := by simpa using h'
  clear h h' i j
  have h0 := PQ.fresh w 32 p q
  go_enter Try.func18, Try.ntmps18
  go_wp2_with fail
  refine (A.out _).mono ?_
  rintro e w1 ⟨rfl, b1⟩
  have h1 := h0.below b1
  clear b1 h0
  generalize w.heap.size = g at h1 ⊢
  have hg1 : g + 1 < w1.heap.size := h1.two.inside
  obtain ⟨qc, qf⟩ := all_of h1.two
  go_wp2_with fail
  refine (B.out _).mono ?_
  rintro e w2 ⟨rfl, b2⟩
  have h2 := ((h1.alloc (.cells #[.int .u32 V.e, .int .i64 V.d, .int .u32 V.a, .int .u32 V.b, .int .u32 V.c] 28)).below b2).alloc (.cells #[.int .u32 U.e, .int .i64 U.d, .int .u32 U.a, .int .u32 U.b, .int .u32 U.c] 28)
  clear qc qf
  go_wp2_with fail
  go_ret
  exact ⟨rfl, h2.old⟩
set_option maxHeartbeats 1000000 in
theorem lep_good (p q : Pa) (i : p.In) (j : q.In) (h : chkP p = 0) (h' : chkP q = 0) (w : World) : Calls Try.prog 18 #[.agg #[.int .i64 p.f, .int .i64 p.k, .int .u32 p.p0, .int .u32 p.p1, .int .u32 p.p2, .int .u32 p.p3, .int .i64 p.u, .int .u32 p.l0, .int .u32 p.l1, .int .u32 p.l2], .agg #[.int .i64 q.f, .int .i64 q.k, .int .u32 q.p0, .int .u32 q.p1, .int .u32 q.p2, .int .u32 q.p3, .int .i64 q.u, .int .u32 q.l0, .int .u32 q.l1, .int .u32 q.l2]] w fun e w' => e = .returned (.bool (lePB p q)) ∧ Below w.heap.size w w' := by
  have A := Lib.hid (first_any p i)
  have B := Lib.hid (first_any q j)
  have C := Lib.hid (le_any (fstT p) (fstT q) (in_fst i h) (in_fst j h'))
  rw [h, show fstV p = fstT p by unfold fstV; rw [if_pos h]] at A
  rw [h', show fstV q = fstT q by unfold fstV; rw [if_pos h']] at B
  have hl : lePB p q = (decide (p.f = q.f) && (decide (p.k ≤ q.k) && leB (fstT p) (fstT q))) := by
    unfold lePB
    rw [Bool.eq_iff_iff]
    simp [h, h']
  generalize leB (fstT p) (fstT q) = v at C hl
  generalize fstT p = V at A C
  generalize fstT q = U at B C
  generalize lePB p q = r at hl ⊢
  clear h h' i j
  have h0 := PQ.fresh w 32 p q
  by_cases ef : p.f = q.f
  · by_cases ek : p.k ≤ q.k
    · have qf : (p.f == q.f) = true := by simp [ef]
      obtain rfl : r = v := by rw [hl]; simp [ef, ek]
      clear hl ef
      go_enter Try.func18, Try.ntmps18
      go_wp2_with fail
      refine (A.out _).mono ?_
      rintro e w1 ⟨rfl, b1⟩
      have h1 := h0.below b1
      clear b1 h0
      generalize w.heap.size = g at h1 ⊢
      have hg1 : g + 1 < w1.heap.size := h1.two.inside
      obtain ⟨qc, qd⟩ := all_of h1.two
      go_wp2_with fail
      refine (B.out _).mono ?_
      rintro e w2 ⟨rfl, b2⟩
      have h2 := (h1.alloc (.cells #[.int .u32 V.e, .int .i64 V.d, .int .u32 V.a, .int .u32 V.b, .int .u32 V.c] 28)).below b2
      have O2 := (Whole.fresh w1 28 _).below b2 (by simp)
      have hz2 := b2.size
      rw [World.size_alloc] at hz2
      clear qc qd b2 h1
      obtain ⟨qc, qd⟩ := all_of h2.two
      obtain ⟨pc, pd⟩ := all_of h2.one
      obtain ⟨oc, od⟩ := all_of O2
      generalize w1.heap.size = n at *
      have hg2 : g + 1 < w2.heap.size := by omega
      have hg0 : g < w2.heap.size := by omega
      have hn : n < w2.heap.size := by omega
      go_wp2_with fail
      refine (C.out _).mono ?_
      rintro e w3 ⟨rfl, b3⟩
      have h3 := (h2.alloc _).below b3
      clear qc qd pc pd oc od
      go_wp2_with fail
      go_ret
      exact ⟨rfl, h3.old⟩
    · have qf : (p.f == q.f) = true := by simp [ef]
      have qk : decide (p.k ≤ q.k) = false := decide_eq_false ek
      obtain rfl : r = false := by rw [hl]; simp [ek]
      clear hl ef ek
      go_enter Try.func18, Try.ntmps18
      go_wp2_with fail
      refine (A.out _).mono ?_
      rintro e w1 ⟨rfl, b1⟩
      have h1 := h0.below b1
      clear b1 h0
      generalize w.heap.size = g at h1 ⊢
      have hg1 : g + 1 < w1.heap.size := h1.two.inside
      obtain ⟨qc, qd⟩ := all_of h1.two
      go_wp2_with fail
      refine (B.out _).mono ?_
      rintro e w2 ⟨rfl, b2⟩
      have h2 := (h1.alloc (.cells #[.int .u32 V.e, .int .i64 V.d, .int .u32 V.a, .int .u32 V.b, .int .u32 V.c] 28)).below b2
      have hz2 := b2.size
      rw [World.size_alloc] at hz2
      have h3 := h2.alloc (.cells #[.int .u32 U.e, .int .i64 U.d, .int .u32 U.a, .int .u32 U.b, .int .u32 U.c] 28)
      clear qc qd b2 h1
      obtain ⟨qc, qd⟩ := all_of h2.two
      obtain ⟨pc, pd⟩ := all_of h2.one
      have hg2 : g + 1 < w2.heap.size := by omega
      have hg0 : g < w2.heap.size := by omega
      go_wp2_with fail
      go_ret
      exact ⟨rfl, h3.old⟩
  · have qf : (p.f == q.f) = false := by simp [ef]
    obtain rfl : r = false := by rw [hl]; simp [ef]
    clear hl ef
    go_enter Try.func18, Try.ntmps18
    go_wp2_with fail
    refine (A.out _).mono ?_
    rintro e w1 ⟨rfl, b1⟩
    have h1 := h0.below b1
    clear b1 h0
    generalize w.heap.size = g at h1 ⊢
    have hg1 : g + 1 < w1.heap.size := h1.two.inside
    obtain ⟨qc, qd⟩ := all_of h1.two
    go_wp2_with fail
    refine (B.out _).mono ?_
    rintro e w2 ⟨rfl, b2⟩
    have h2 := (h1.alloc (.cells #[.int .u32 V.e, .int .i64 V.d, .int .u32 V.a, .int .u32 V.b, .int .u32 V.c] 28)).below b2
    have hz2 := b2.size
    rw [World.size_alloc] at hz2
    have h3 := h2.alloc (.cells #[.int .u32 U.e, .int .i64 U.d, .int .u32 U.a, .int .u32 U.b, .int .u32 U.c] 28)
    clear qc qd b2 h1
    obtain ⟨qc, qd⟩ := all_of h2.two
    obtain ⟨pc, pd⟩ := all_of h2.one
    have hg2 : g + 1 < w2.heap.size := by omega
    have hg0 : g < w2.heap.size := by omega
    go_wp2_with fail
    go_ret
    exact ⟨rfl, h3.old⟩
theorem lep_any (p q : Pa) (i : p.In) (j : q.In) (w : World) : Calls Try.prog 18 #[.agg #[.int .i64 p.f, .int .i64 p.k, .int .u32 p.p0, .int .u32 p.p1, .int .u32 p.p2, .int .u32 p.p3, .int .i64 p.u, .int .u32 p.l0, .int .u32 p.l1, .int .u32 p.l2], .agg #[.int .i64 q.f, .int .i64 q.k, .int .u32 q.p0, .int .u32 q.p1, .int .u32 q.p2, .int .u32 q.p3, .int .i64 q.u, .int .u32 q.l0, .int .u32 q.l1, .int .u32 q.l2]] w fun e w' => e = .returned (.bool (lePB p q)) ∧ Below w.heap.size w w' := by
  by_cases h : chkP p = 0
  · by_cases h' : chkP q = 0
    · exact lep_good p q i j h h' w
    · rw [show lePB p q = false by unfold lePB; exact decide_eq_false (fun k => h' k.2.1)]
      exact lep_bad2 p q i j h h' w
  · rw [show lePB p q = false by unfold lePB; exact decide_eq_false (fun k => h k.1)]
    exact lep_bad1 p q i h w
end Go.Proofs.Ytilkdpobkcocoaa.path
