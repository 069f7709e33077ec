/-
  The contract of path.checkStart; sums; a time and what is wrong, handed back.
-/
import Derived.Test.YtilkdpobkcocoaaMk
import Derived.Test.YtilkdpobkcocoaaChkQ
import Derived.Test.YtilkdpobkcocoaaNum
import Derived.Test.YtilkdpobkcocoaaPl
namespace Go.Proofs.Ytilkdpobkcocoaa.path
open Go.ChangeShapes Go.WideShapes Go.ChangeAt Go.RowKit
open Go.Proofs.Ytilkdpobkcocoaa.tm Go.Proofs.Ytilkdpobkcocoaa.opened Go.Proofs.Ytilkdpobkcocoaa.block Go.Proofs.Ytilkdpobkcocoaa.stamp Go.Proofs.Ytilkdpobkcocoaa.pa

/-- A path and a time are known, in blocks of their own; nothing older has turned. -/
structure PT (w wr : World) (g : Nat) (tp : TypeId) (p : Pa) (t : Tm) : Prop where
  one : Whole wr g tp #[.int .i64 p.f, .int .i64 p.k, .int .u32 p.p0, .int .u32 p.p1, .int .u32 p.p2, .int .u32 p.p3, .int .i64 p.u, .int .u32 p.l0, .int .u32 p.l1, .int .u32 p.l2]
  two : Whole wr (g + 1) 28 #[.int .u32 t.e, .int .i64 t.d, .int .u32 t.a, .int .u32 t.b, .int .u32 t.c]
  old : Below w.heap.size w wr
  base : w.heap.size = g
theorem PT.below {w wr w1 : World} {g : Nat} {tp : TypeId} {p : Pa} {t : Tm} (h : PT w wr g tp p t) (k : Below wr.heap.size wr w1) : PT w w1 g tp p t :=
  ⟨h.one.below k h.one.inside, h.two.below k h.two.inside, h.old.trans (k.mono h.old.size), h.base⟩
theorem PT.fresh (w : World) (tp : TypeId) (p : Pa) (t : Tm) : PT w ((w.alloc (.cells #[.int .i64 p.f, .int .i64 p.k, .int .u32 p.p0, .int .u32 p.p1, .int .u32 p.p2, .int .u32 p.p3, .int .i64 p.u, .int .u32 p.l0, .int .u32 p.l1, .int .u32 p.l2] tp)).alloc (.cells #[.int .u32 t.e, .int .i64 t.d, .int .u32 t.a, .int .u32 t.b, .int .u32 t.c] 28)) w.heap.size tp p t := by
  refine ⟨(Whole.fresh w tp _).alloc _, ?_, fresh2 _ _ _, rfl⟩
  have k := Whole.fresh (w.alloc (.cells #[.int .i64 p.f, .int .i64 p.k, .int .u32 p.p0, .int .u32 p.p1, .int .u32 p.p2, .int .u32 p.p3, .int .i64 p.u, .int .u32 p.l0, .int .u32 p.l1, .int .u32 p.l2] tp)) 28 #[.int .u32 t.e, .int .i64 t.d, .int .u32 t.a, .int .u32 t.b, .int .u32 t.c]
  rw [World.size_alloc] at k
  exact k
theorem PT.alloc {w wr : World} {g : Nat} {tp : TypeId} {p : Pa} {t : Tm} (h : PT w wr g tp p t) (o : Obj) : PT w (wr.alloc o) g tp p t :=
  ⟨h.one.alloc o, h.two.alloc o, h.old.alloc h.old.size _, h.base⟩
theorem start_any (p : Pa) (t : Tm) (i : p.In) (j : t.In) (w : World) : Calls Try.prog 35 #[.agg #[.int .i64 p.f, .int .i64 p.k, .int .u32 p.p0, .int .u32 p.p1, .int .u32 p.p2, .int .u32 p.p3, .int .i64 p.u, .int .u32 p.l0, .int .u32 p.l1, .int .u32 p.l2], .agg #[.int .u32 t.e, .int .i64 t.d, .int .u32 t.a, .int .u32 t.b, .int .u32 t.c]] w fun e w' => e = .returned (.int .i64 (startE p t)) ∧ Below w.heap.size w w' := by
  unfold startE
  have h0 := PT.fresh w 32 p t
  have C := Lib.hid (chkP_any p i)
  have D := Lib.hid (check_any t j)
  clear i j
  generalize chkP p = x at C ⊢
  generalize chk t = y at D ⊢
  by_cases ex : x = 0
  · subst ex
    simp only [if_true]
    by_cases ey : y = 0
    · subst ey
      simp only [if_true]
      by_cases ed : t.d = p.f
      · have hd : (t.d != p.f) = false := by simp [ed]
        rw [if_pos ed]
        clear ed
        go_enter Try.func35, Try.ntmps35
        go_wp2_with (first
          | (go_at_call 15; refine (C.out _).mono ?_; rintro e w1 ⟨rfl, b1⟩; have h1 := h0.below b1; obtain ⟨p1, p2⟩ := all_of h1.one; obtain ⟨q1, q2⟩ := all_of h1.two)
          | (go_at_call 68; refine (D.out _).mono ?_; rintro e w2 ⟨rfl, b2⟩; have h2 := h1.below b2; clear p1 p2 q1 q2; obtain ⟨p1, p2⟩ := all_of h2.one; obtain ⟨q1, q2⟩ := all_of h2.two))
        go_ret
        exact ⟨rfl, h2.old⟩
      · have hd : (t.d != p.f) = true := by simp [ed]
        rw [if_neg ed]
        clear ed
        go_enter Try.func35, Try.ntmps35
        go_wp2_with (first
          | (go_at_call 15; refine (C.out _).mono ?_; rintro e w1 ⟨rfl, b1⟩; have h1 := h0.below b1; obtain ⟨p1, p2⟩ := all_of h1.one; obtain ⟨q1, q2⟩ := all_of h1.two)
          | (go_at_call 68; refine (D.out _).mono ?_; rintro e w2 ⟨rfl, b2⟩; have h2 := h1.below b2; clear p1 p2 q1 q2; obtain ⟨p1, p2⟩ := all_of h2.one; obtain ⟨q1, q2⟩ := all_of h2.two))
        go_ret
        exact ⟨rfl, h2.old⟩
    · have hy : (y != 0) = true := by simpa using ey
      rw [if_neg ey]
      clear ey
      go_enter Try.func35, Try.ntmps35
      go_wp2_with (first
        | (go_at_call 15; refine (C.out _).mono ?_; rintro e w1 ⟨rfl, b1⟩; have h1 := h0.below b1; obtain ⟨p1, p2⟩ := all_of h1.one; obtain ⟨q1, q2⟩ := all_of h1.two)
        | (go_at_call 68; refine (D.out _).mono ?_; rintro e w2 ⟨rfl, b2⟩; have h2 := h1.below b2; clear p1 p2 q1 q2; obtain ⟨p1, p2⟩ := all_of h2.one; obtain ⟨q1, q2⟩ := all_of h2.two))
      go_ret
      exact ⟨rfl, h2.old⟩
  · have hx : (x != 0) = true := by simpa using ex
    rw [if_neg ex]
    clear ex
    go_enter Try.func35, Try.ntmps35
    go_wp2_with (go_at_call 15; refine (C.out _).mono ?_; rintro e w1 ⟨rfl, b1⟩; have h1 := h0.below b1)
    go_ret
    exact ⟨rfl, h1.old⟩
theorem add_ok {a b : Int} (a0 : 0 ≤ a) (a1 : a ≤ 1048576) (b0 : 0 ≤ b) (b1 : b ≤ 1048576) (h : a + b ≤ 1048576) (w : World) : Calls Try.prog 36 #[.int .u32 a, .int .u32 b] w fun e w' => e = .returned (.tuple #[.int .u32 (a + b), .int .i64 0]) ∧ w = w' := by
  have k := num.add_any a b a0 (by omega) b0 (by omega) w
  rwa [show num.addV a b = a + b by unfold num.addV; rw [if_pos ⟨a1, b1, h⟩], show num.addE a b = 0 by unfold num.addE; rw [if_pos ⟨a1, b1⟩, if_pos h]] at k
theorem add_over {a b : Int} (a0 : 0 ≤ a) (a1 : a ≤ 1048576) (b0 : 0 ≤ b) (b1 : b ≤ 1048576) (h : 1048576 < a + b) (w : World) : Calls Try.prog 36 #[.int .u32 a, .int .u32 b] w fun e w' => e = .returned (.tuple #[.int .u32 0, .int .i64 9]) ∧ w = w' := by
  have k := num.add_any a b a0 (by omega) b0 (by omega) w
  rwa [show num.addV a b = 0 by unfold num.addV; rw [if_neg (by omega)], show num.addE a b = 9 by unfold num.addE; rw [if_pos ⟨a1, b1⟩, if_neg (by omega)]] at k
/-- A time and what is wrong, handed back. -/
def GivesT (t : Tm) (x : Int) (w : World) (e : Ending) (w' : World) : Prop := e = .returned (.tuple #[.agg #[.int .u32 t.e, .int .i64 t.d, .int .u32 t.a, .int .u32 t.b, .int .u32 t.c], .int .i64 x]) ∧ Below w.heap.size w w'
theorem givesT {s t : Tm} {x y : Int} {w w' : World} (hb : Below w.heap.size w w') (h : s = t) (k : y = x) : GivesT t x w (.returned (.tuple #[.agg #[.int .u32 s.e, .int .i64 s.d, .int .u32 s.a, .int .u32 s.b, .int .u32 s.c], .int .i64 y])) w' := by rw [h, k]; exact ⟨rfl, hb⟩
theorem size_time : (Try.prog.info? 28).map (·.size) = some 5 := by kernel_rfl
theorem two_time {fn : Func} {p q : Tmp} (h : fn.results = #[.cell p 28, .tmp q]) {tmps : Array Value} {w : World} {g : Nat} {ty : TypeId} {t : Tm} {x : Int}
    (hp : tmps[p]?.getD undef = .pointer (some ⟨g, 0, none⟩)) (hq : tmps[q]?.getD undef = .int .i64 x) (hw : Whole w g ty #[.int .u32 t.e, .int .i64 t.d, .int .u32 t.a, .int .u32 t.b, .int .u32 t.c]) : (results fn tmps).run Try.prog w = .ok (.tuple #[.agg #[.int .u32 t.e, .int .i64 t.d, .int .u32 t.a, .int .u32 t.b, .int .u32 t.c], .int .i64 x]) w := by
  simp [results, h, hp, hq, asAddr, loaded hw Try.underlying28 rfl size_time]
end Go.Proofs.Ytilkdpobkcocoaa.path
