/-
  Of any two times and any number: what stamp.Join, Meet, Enter, Leave, Next and Later answer is what the document's own functions answer; no condition.
-/
import Derived.Test.YtehcnnjhgiiehaaMv3
import Derived.Test.YtehcnnjhgiiehaaJoin
import Derived.Test.YtehcnnjhgiiehaaOpenT
import Derived.Test.YtehcnnjhgiiehaaEq
namespace Go.Proofs.Ytehcnnjhgiiehaa.stampMoves
open Go.ChangeShapes Go.WideShapes Go.ChangeAt Go.RowKit
open Go.Proofs.Ytehcnnjhgiiehaa.tm Go.Proofs.Ytehcnnjhgiiehaa.opened Go.Proofs.Ytehcnnjhgiiehaa.block Go.Proofs.Ytehcnnjhgiiehaa.stamp

theorem run_eq_yes (t : Tm) (w : World) : (binOp .eql 25 (.agg #[.int .u32 t.e, .int .i64 t.d, .int .u32 t.a, .int .u32 t.b, .int .u32 t.c]) (.agg #[.int .u32 t.e, .int .i64 t.d, .int .u32 t.a, .int .u32 t.b, .int .u32 t.c])).run Try.prog w = .ok (.bool true) w := by rw [run_eqT, eqT_self]
/-- Four blocks are known: the two arguments, and the two answers. -/
structure Four (wr : World) (g p q : Nat) (a b x y : Tm) : Prop where
  one : Whole wr g 25 #[.int .u32 a.e, .int .i64 a.d, .int .u32 a.a, .int .u32 a.b, .int .u32 a.c]
  two : Whole wr (g + 1) 25 #[.int .u32 b.e, .int .i64 b.d, .int .u32 b.a, .int .u32 b.b, .int .u32 b.c]
  ans : Whole wr p 25 #[.int .u32 x.e, .int .i64 x.d, .int .u32 x.a, .int .u32 x.b, .int .u32 x.c]
  ref : Whole wr q 25 #[.int .u32 y.e, .int .i64 y.d, .int .u32 y.a, .int .u32 y.b, .int .u32 y.c]
section
variable {wr w1 : World} {g p q : Nat} {a b x y : Tm}
theorem Four.below (h : Four wr g p q a b x y) (k : Below wr.heap.size wr w1) : Four w1 g p q a b x y := ⟨h.one.below k h.one.inside, h.two.below k h.two.inside, h.ans.below k h.ans.inside, h.ref.below k h.ref.inside⟩
theorem aside5 {w : World} {g k : Nat} {cs : Array Value} (h : Whole w g 25 cs) (hk : g ≠ k) (v0 v1 v2 v3 v4 : Value) :
    Whole (((((w.setCell ⟨k, 0, none⟩ v0).setCell ⟨k, 1, none⟩ v1).setCell ⟨k, 2, none⟩ v2).setCell ⟨k, 3, none⟩ v3).setCell ⟨k, 4, none⟩ v4) g 25 cs := ((((h.aside hk v0).aside hk v1).aside hk v2).aside hk v3).aside hk v4
theorem below5 {B : Nat} {w wr : World} {k : Nat} (h : Below B w wr) (hk : B ≤ k) (v0 v1 v2 v3 v4 : Value) :
    Below B w (((((wr.setCell ⟨k, 0, none⟩ v0).setCell ⟨k, 1, none⟩ v1).setCell ⟨k, 2, none⟩ v2).setCell ⟨k, 3, none⟩ v3).setCell ⟨k, 4, none⟩ v4) := ((((h.setCell hk v0).setCell hk v1).setCell hk v2).setCell hk v3).setCell hk v4
theorem Four.putX (h : Four wr g p q a b x y) (h1 : g ≠ p) (h2 : g + 1 ≠ p) (h3 : q ≠ p) (z : Tm) :
    Four (((((wr.setCell ⟨p, 0, none⟩ (.int .u32 z.e)).setCell ⟨p, 1, none⟩ (.int .i64 z.d)).setCell ⟨p, 2, none⟩ (.int .u32 z.a)).setCell ⟨p, 3, none⟩ (.int .u32 z.b)).setCell ⟨p, 4, none⟩ (.int .u32 z.c)) g p q a b z y :=
  ⟨aside5 h.one h1 _ _ _ _ _, aside5 h.two h2 _ _ _ _ _, five h.ans _ _ _ _ _, aside5 h.ref h3 _ _ _ _ _⟩
theorem Four.putY (h : Four wr g p q a b x y) (h1 : g ≠ q) (h2 : g + 1 ≠ q) (h3 : p ≠ q) (z : Tm) :
    Four (((((wr.setCell ⟨q, 0, none⟩ (.int .u32 z.e)).setCell ⟨q, 1, none⟩ (.int .i64 z.d)).setCell ⟨q, 2, none⟩ (.int .u32 z.a)).setCell ⟨q, 3, none⟩ (.int .u32 z.b)).setCell ⟨q, 4, none⟩ (.int .u32 z.c)) g p q a b x z :=
  ⟨aside5 h.one h1 _ _ _ _ _, aside5 h.two h2 _ _ _ _ _, aside5 h.ans h3 _ _ _ _ _, five h.ref _ _ _ _ _⟩
end
set_option maxRecDepth 100000 in
set_option maxHeartbeats 4000000 in
theorem walkT (a b : Tm) (n : Int) (i : a.In) (j : b.In) (n0 : 0 ≤ n) (n1 : n ≤ 4294967295) (w : World) : Calls Try.prog 4 #[.agg #[.int .u32 a.e, .int .i64 a.d, .int .u32 a.a, .int .u32 a.b, .int .u32 a.c], .agg #[.int .u32 b.e, .int .i64 b.d, .int .u32 b.a, .int .u32 b.b, .int .u32 b.c], .int .u32 n] w fun e w' => e = .returned (.bool true) ∧ Below w.heap.size w w' := by
  have he := run_eq_yes
  obtain ⟨J1, E1, A1, R1⟩ : ∃ (J : Tm) (E : Int), Hid (∀ W, Calls Try.prog 14 #[.agg #[.int .u32 a.e, .int .i64 a.d, .int .u32 a.a, .int .u32 a.b, .int .u32 a.c], .agg #[.int .u32 b.e, .int .i64 b.d, .int .u32 b.a, .int .u32 b.b, .int .u32 b.c]] W fun e w' => e = .returned (.tuple #[.agg #[.int .u32 J.e, .int .i64 J.d, .int .u32 J.a, .int .u32 J.b, .int .u32 J.c], .int .i64 E]) ∧ Below W.heap.size W w') ∧ Hid (∀ W, Calls Try.prog 15 #[.agg #[.int .u32 a.e, .int .i64 a.d, .int .u32 a.a, .int .u32 a.b, .int .u32 a.c], .agg #[.int .u32 b.e, .int .i64 b.d, .int .u32 b.a, .int .u32 b.b, .int .u32 b.c]] W fun e w' => e = .returned (.tuple #[.agg #[.int .u32 J.e, .int .i64 J.d, .int .u32 J.a, .int .u32 J.b, .int .u32 J.c], .int .i64 E]) ∧ Below W.heap.size W w') := ⟨_, _, Lib.hid (join_any a b i j), Lib.hid (joinR_any a b i j)⟩
  obtain ⟨J2, E2, A2, R2⟩ : ∃ (J : Tm) (E : Int), Hid (∀ W, Calls Try.prog 16 #[.agg #[.int .u32 a.e, .int .i64 a.d, .int .u32 a.a, .int .u32 a.b, .int .u32 a.c], .agg #[.int .u32 b.e, .int .i64 b.d, .int .u32 b.a, .int .u32 b.b, .int .u32 b.c]] W fun e w' => e = .returned (.tuple #[.agg #[.int .u32 J.e, .int .i64 J.d, .int .u32 J.a, .int .u32 J.b, .int .u32 J.c], .int .i64 E]) ∧ Below W.heap.size W w') ∧ Hid (∀ W, Calls Try.prog 17 #[.agg #[.int .u32 a.e, .int .i64 a.d, .int .u32 a.a, .int .u32 a.b, .int .u32 a.c], .agg #[.int .u32 b.e, .int .i64 b.d, .int .u32 b.a, .int .u32 b.b, .int .u32 b.c]] W fun e w' => e = .returned (.tuple #[.agg #[.int .u32 J.e, .int .i64 J.d, .int .u32 J.a, .int .u32 J.b, .int .u32 J.c], .int .i64 E]) ∧ Below W.heap.size W w') := ⟨_, _, Lib.hid (meet_any a b i j), Lib.hid (meetR_any a b i j)⟩
  obtain ⟨J3, E3, A3, R3⟩ : ∃ (J : Tm) (E : Int), Hid (∀ W, Calls Try.prog 18 #[.agg #[.int .u32 a.e, .int .i64 a.d, .int .u32 a.a, .int .u32 a.b, .int .u32 a.c]] W fun e w' => e = .returned (.tuple #[.agg #[.int .u32 J.e, .int .i64 J.d, .int .u32 J.a, .int .u32 J.b, .int .u32 J.c], .int .i64 E]) ∧ Below W.heap.size W w') ∧ Hid (∀ W, Calls Try.prog 19 #[.agg #[.int .u32 a.e, .int .i64 a.d, .int .u32 a.a, .int .u32 a.b, .int .u32 a.c]] W fun e w' => e = .returned (.tuple #[.agg #[.int .u32 J.e, .int .i64 J.d, .int .u32 J.a, .int .u32 J.b, .int .u32 J.c], .int .i64 E]) ∧ Below W.heap.size W w') := ⟨_, _, Lib.hid (enter_any a i), Lib.hid (enterR_any a i)⟩
  obtain ⟨J4, E4, A4, R4⟩ : ∃ (J : Tm) (E : Int), Hid (∀ W, Calls Try.prog 20 #[.agg #[.int .u32 a.e, .int .i64 a.d, .int .u32 a.a, .int .u32 a.b, .int .u32 a.c]] W fun e w' => e = .returned (.tuple #[.agg #[.int .u32 J.e, .int .i64 J.d, .int .u32 J.a, .int .u32 J.b, .int .u32 J.c], .int .i64 E]) ∧ Below W.heap.size W w') ∧ Hid (∀ W, Calls Try.prog 21 #[.agg #[.int .u32 a.e, .int .i64 a.d, .int .u32 a.a, .int .u32 a.b, .int .u32 a.c]] W fun e w' => e = .returned (.tuple #[.agg #[.int .u32 J.e, .int .i64 J.d, .int .u32 J.a, .int .u32 J.b, .int .u32 J.c], .int .i64 E]) ∧ Below W.heap.size W w') := ⟨_, _, Lib.hid (leave_any a i), Lib.hid (leaveR_any a i)⟩
  obtain ⟨J5, E5, A5, R5⟩ : ∃ (J : Tm) (E : Int), Hid (∀ W, Calls Try.prog 22 #[.agg #[.int .u32 a.e, .int .i64 a.d, .int .u32 a.a, .int .u32 a.b, .int .u32 a.c]] W fun e w' => e = .returned (.tuple #[.agg #[.int .u32 J.e, .int .i64 J.d, .int .u32 J.a, .int .u32 J.b, .int .u32 J.c], .int .i64 E]) ∧ Below W.heap.size W w') ∧ Hid (∀ W, Calls Try.prog 23 #[.agg #[.int .u32 a.e, .int .i64 a.d, .int .u32 a.a, .int .u32 a.b, .int .u32 a.c]] W fun e w' => e = .returned (.tuple #[.agg #[.int .u32 J.e, .int .i64 J.d, .int .u32 J.a, .int .u32 J.b, .int .u32 J.c], .int .i64 E]) ∧ Below W.heap.size W w') := ⟨_, _, Lib.hid (next_any a i), Lib.hid (nextR_any a i)⟩
  obtain ⟨J6, E6, A6, R6⟩ : ∃ (J : Tm) (E : Int), Hid (∀ W, Calls Try.prog 24 #[.agg #[.int .u32 a.e, .int .i64 a.d, .int .u32 a.a, .int .u32 a.b, .int .u32 a.c], .int .u32 n] W fun e w' => e = .returned (.tuple #[.agg #[.int .u32 J.e, .int .i64 J.d, .int .u32 J.a, .int .u32 J.b, .int .u32 J.c], .int .i64 E]) ∧ Below W.heap.size W w') ∧ Hid (∀ W, Calls Try.prog 25 #[.agg #[.int .u32 a.e, .int .i64 a.d, .int .u32 a.a, .int .u32 a.b, .int .u32 a.c], .int .u32 n] W fun e w' => e = .returned (.tuple #[.agg #[.int .u32 J.e, .int .i64 J.d, .int .u32 J.a, .int .u32 J.b, .int .u32 J.c], .int .i64 E]) ∧ Below W.heap.size W w') := ⟨_, _, Lib.hid (later_any a n i n0 n1), Lib.hid (laterR_any a n i n0 n1)⟩
  clear i j n0 n1
  go_enter Try.func4, Try.ntmps4
  go_wp2_with fail
  refine (A1.out _).mono ?_
  rintro e w1 ⟨rfl, b1⟩
  have hA : Whole w1 w.heap.size 25 #[.int .u32 a.e, .int .i64 a.d, .int .u32 a.a, .int .u32 a.b, .int .u32 a.c] := ((Whole.fresh w 25 _).alloc _).below b1 (by simp; omega)
  have hB : Whole w1 (w.heap.size + 1) 25 #[.int .u32 b.e, .int .i64 b.d, .int .u32 b.a, .int .u32 b.b, .int .u32 b.c] := by
    have k := Whole.fresh (w.alloc (.cells #[.int .u32 a.e, .int .i64 a.d, .int .u32 a.a, .int .u32 a.b, .int .u32 a.c] 25)) 25 #[.int .u32 b.e, .int .i64 b.d, .int .u32 b.a, .int .u32 b.b, .int .u32 b.c]
    rw [World.size_alloc] at k
    exact k.below b1 (by simp)
  have hW := over2 b1
  have hl : w.heap.size + 1 < w1.heap.size := hB.inside
  have hl0 : w.heap.size < w1.heap.size := by omega
  clear b1
  generalize hg : w.heap.size = g at hA hB hW hl hl0 ⊢
  have HG := Lib.hid hg
  clear hg
  obtain ⟨aa0, aa1, aa2, aa3, aa4, aaf0, aaf1, aaf2, aaf3, aaf4⟩ := facts5 hA
  obtain ⟨bb0, bb1, bb2, bb3, bb4, bbf0, bbf1, bbf2, bbf3, bbf4⟩ := facts5 hB
  go_wp2_with fail
  refine (R1.out _).mono ?_
  rintro e w2 ⟨rfl, b2⟩
  clear aa0 aa1 aa2 aa3 aa4 aaf0 aaf1 aaf2 aaf3 aaf4 bb0 bb1 bb2 bb3 bb4 bbf0 bbf1 bbf2 bbf3 bbf4
  have hA2 : Whole w2 g 25 #[.int .u32 a.e, .int .i64 a.d, .int .u32 a.a, .int .u32 a.b, .int .u32 a.c] := (hA.alloc _).below b2 (by simp; omega)
  have hB2 : Whole w2 (g + 1) 25 #[.int .u32 b.e, .int .i64 b.d, .int .u32 b.a, .int .u32 b.b, .int .u32 b.c] := (hB.alloc _).below b2 (by simp; omega)
  have hX2 : Whole w2 w1.heap.size 25 #[.int .u32 J1.e, .int .i64 J1.d, .int .u32 J1.a, .int .u32 J1.b, .int .u32 J1.c] := (Whole.fresh w1 25 _).below b2 (by simp)
  have hV : Below g w w2 := hW.trans ((over1 b2).mono (by omega))
  have hp : w1.heap.size < w2.heap.size := hX2.inside
  clear hA hB hW b2
  generalize w1.heap.size = p at hX2 hl hl0 hp ⊢
  have hp1 : g + 1 < w2.heap.size := by omega
  have hp0 : g < w2.heap.size := by omega
  obtain ⟨aa0, aa1, aa2, aa3, aa4, aaf0, aaf1, aaf2, aaf3, aaf4⟩ := facts5 hA2
  obtain ⟨bb0, bb1, bb2, bb3, bb4, bbf0, bbf1, bbf2, bbf3, bbf4⟩ := facts5 hB2
  obtain ⟨xx0, xx1, xx2, xx3, xx4, xxf0, xxf1, xxf2, xxf3, xxf4⟩ := facts5 hX2
  go_wp2_with fail
  refine (A2.out _).mono ?_
  rintro e w3 ⟨rfl, b3⟩
  clear aa0 aa1 aa2 aa3 aa4 aaf0 aaf1 aaf2 aaf3 aaf4 bb0 bb1 bb2 bb3 bb4 bbf0 bbf1 bbf2 bbf3 bbf4 xx0 xx1 xx2 xx3 xx4 xxf0 xxf1 xxf2 xxf3 xxf4
  have h3 : Four w3 g p w2.heap.size a b J1 J1 := (⟨hA2.alloc _, hB2.alloc _, hX2.alloc _, Whole.fresh w2 25 _⟩ : Four _ g p w2.heap.size a b J1 J1).below b3
  have v3 : Below g w w3 := hV.trans ((over1 b3).mono (by omega))
  clear b3 hA2 hB2 hX2 hV
  generalize w2.heap.size = q at h3 hp hp1 hp0
  have x1 : ¬ g = p := by omega
  have x2 : ¬ g + 1 = p := by omega
  have x3 : ¬ g = q := by omega
  have x4 : ¬ g + 1 = q := by omega
  have x5 : ¬ p = q := by omega
  have x6 : ¬ p = g := by omega
  have x7 : ¬ p = g + 1 := by omega
  have x8 : ¬ q = g := by omega
  have x9 : ¬ q = g + 1 := by omega
  have x10 : ¬ q = p := by omega
  have gp : g ≤ p := by omega
  have gq : g ≤ q := by omega
  clear hl hl0 hp hp1 hp0
  obtain ⟨aa0, aa1, aa2, aa3, aa4, aaf0, aaf1, aaf2, aaf3, aaf4⟩ := facts5 h3.one
  obtain ⟨bb0, bb1, bb2, bb3, bb4, bbf0, bbf1, bbf2, bbf3, bbf4⟩ := facts5 h3.two
  obtain ⟨xx0, xx1, xx2, xx3, xx4, xxf0, xxf1, xxf2, xxf3, xxf4⟩ := facts5 h3.ans
  obtain ⟨yy0, yy1, yy2, yy3, yy4, yyf0, yyf1, yyf2, yyf3, yyf4⟩ := facts5 h3.ref
  go_wp2_with fail
  refine (R2.out _).mono ?_
  rintro e w4 ⟨rfl, b4⟩
  clear aa0 aa1 aa2 aa3 aa4 aaf0 aaf1 aaf2 aaf3 aaf4 bb0 bb1 bb2 bb3 bb4 bbf0 bbf1 bbf2 bbf3 bbf4 xx0 xx1 xx2 xx3 xx4 xxf0 xxf1 xxf2 xxf3 xxf4 yy0 yy1 yy2 yy3 yy4 yyf0 yyf1 yyf2 yyf3 yyf4
  have h4 := (h3.putX x1 x2 x10 J2).below b4
  have v4 := (below5 v3 gp _ _ _ _ _).trans (b4.mono (by have := h3.one.inside; simp [World.setCell]; omega))
  clear b4 h3 v3
  obtain ⟨aa0, aa1, aa2, aa3, aa4, aaf0, aaf1, aaf2, aaf3, aaf4⟩ := facts5 h4.one
  obtain ⟨bb0, bb1, bb2, bb3, bb4, bbf0, bbf1, bbf2, bbf3, bbf4⟩ := facts5 h4.two
  obtain ⟨xx0, xx1, xx2, xx3, xx4, xxf0, xxf1, xxf2, xxf3, xxf4⟩ := facts5 h4.ans
  obtain ⟨yy0, yy1, yy2, yy3, yy4, yyf0, yyf1, yyf2, yyf3, yyf4⟩ := facts5 h4.ref
  obtain ⟨z0, z1, z2, z3, z4, -⟩ := facts5 (five h4.ref (.int .u32 J2.e) (.int .i64 J2.d) (.int .u32 J2.a) (.int .u32 J2.b) (.int .u32 J2.c))
  go_wp2_with fail
  refine (A3.out _).mono ?_
  rintro e w5 ⟨rfl, b5⟩
  clear aa0 aa1 aa2 aa3 aa4 aaf0 aaf1 aaf2 aaf3 aaf4 bb0 bb1 bb2 bb3 bb4 bbf0 bbf1 bbf2 bbf3 bbf4 xx0 xx1 xx2 xx3 xx4 xxf0 xxf1 xxf2 xxf3 xxf4 yy0 yy1 yy2 yy3 yy4 yyf0 yyf1 yyf2 yyf3 yyf4
  clear z0 z1 z2 z3 z4
  have h5 := (h4.putY x3 x4 x5 J2).below b5
  have v5 := (below5 v4 gq _ _ _ _ _).trans (b5.mono (by have := h4.one.inside; simp [World.setCell]; omega))
  clear b5 h4 v4
  obtain ⟨aa0, aa1, aa2, aa3, aa4, aaf0, aaf1, aaf2, aaf3, aaf4⟩ := facts5 h5.one
  obtain ⟨bb0, bb1, bb2, bb3, bb4, bbf0, bbf1, bbf2, bbf3, bbf4⟩ := facts5 h5.two
  obtain ⟨xx0, xx1, xx2, xx3, xx4, xxf0, xxf1, xxf2, xxf3, xxf4⟩ := facts5 h5.ans
  obtain ⟨yy0, yy1, yy2, yy3, yy4, yyf0, yyf1, yyf2, yyf3, yyf4⟩ := facts5 h5.ref
  go_wp2_with fail
  refine (R3.out _).mono ?_
  rintro e w6 ⟨rfl, b6⟩
  clear aa0 aa1 aa2 aa3 aa4 aaf0 aaf1 aaf2 aaf3 aaf4 bb0 bb1 bb2 bb3 bb4 bbf0 bbf1 bbf2 bbf3 bbf4 xx0 xx1 xx2 xx3 xx4 xxf0 xxf1 xxf2 xxf3 xxf4 yy0 yy1 yy2 yy3 yy4 yyf0 yyf1 yyf2 yyf3 yyf4
  have h6 := (h5.putX x1 x2 x10 J3).below b6
  have v6 := (below5 v5 gp _ _ _ _ _).trans (b6.mono (by have := h5.one.inside; simp [World.setCell]; omega))
  clear b6 h5 v5
  obtain ⟨aa0, aa1, aa2, aa3, aa4, aaf0, aaf1, aaf2, aaf3, aaf4⟩ := facts5 h6.one
  obtain ⟨bb0, bb1, bb2, bb3, bb4, bbf0, bbf1, bbf2, bbf3, bbf4⟩ := facts5 h6.two
  obtain ⟨xx0, xx1, xx2, xx3, xx4, xxf0, xxf1, xxf2, xxf3, xxf4⟩ := facts5 h6.ans
  obtain ⟨yy0, yy1, yy2, yy3, yy4, yyf0, yyf1, yyf2, yyf3, yyf4⟩ := facts5 h6.ref
  obtain ⟨z0, z1, z2, z3, z4, -⟩ := facts5 (five h6.ref (.int .u32 J3.e) (.int .i64 J3.d) (.int .u32 J3.a) (.int .u32 J3.b) (.int .u32 J3.c))
  go_wp2_with fail
  refine (A4.out _).mono ?_
  rintro e w7 ⟨rfl, b7⟩
  clear aa0 aa1 aa2 aa3 aa4 aaf0 aaf1 aaf2 aaf3 aaf4 bb0 bb1 bb2 bb3 bb4 bbf0 bbf1 bbf2 bbf3 bbf4 xx0 xx1 xx2 xx3 xx4 xxf0 xxf1 xxf2 xxf3 xxf4 yy0 yy1 yy2 yy3 yy4 yyf0 yyf1 yyf2 yyf3 yyf4
  clear z0 z1 z2 z3 z4
  have h7 := (h6.putY x3 x4 x5 J3).below b7
  have v7 := (below5 v6 gq _ _ _ _ _).trans (b7.mono (by have := h6.one.inside; simp [World.setCell]; omega))
  clear b7 h6 v6
  obtain ⟨aa0, aa1, aa2, aa3, aa4, aaf0, aaf1, aaf2, aaf3, aaf4⟩ := facts5 h7.one
  obtain ⟨bb0, bb1, bb2, bb3, bb4, bbf0, bbf1, bbf2, bbf3, bbf4⟩ := facts5 h7.two
  obtain ⟨xx0, xx1, xx2, xx3, xx4, xxf0, xxf1, xxf2, xxf3, xxf4⟩ := facts5 h7.ans
  obtain ⟨yy0, yy1, yy2, yy3, yy4, yyf0, yyf1, yyf2, yyf3, yyf4⟩ := facts5 h7.ref
  go_wp2_with fail
  refine (R4.out _).mono ?_
  rintro e w8 ⟨rfl, b8⟩
  clear aa0 aa1 aa2 aa3 aa4 aaf0 aaf1 aaf2 aaf3 aaf4 bb0 bb1 bb2 bb3 bb4 bbf0 bbf1 bbf2 bbf3 bbf4 xx0 xx1 xx2 xx3 xx4 xxf0 xxf1 xxf2 xxf3 xxf4 yy0 yy1 yy2 yy3 yy4 yyf0 yyf1 yyf2 yyf3 yyf4
  have h8 := (h7.putX x1 x2 x10 J4).below b8
  have v8 := (below5 v7 gp _ _ _ _ _).trans (b8.mono (by have := h7.one.inside; simp [World.setCell]; omega))
  clear b8 h7 v7
  obtain ⟨aa0, aa1, aa2, aa3, aa4, aaf0, aaf1, aaf2, aaf3, aaf4⟩ := facts5 h8.one
  obtain ⟨bb0, bb1, bb2, bb3, bb4, bbf0, bbf1, bbf2, bbf3, bbf4⟩ := facts5 h8.two
  obtain ⟨xx0, xx1, xx2, xx3, xx4, xxf0, xxf1, xxf2, xxf3, xxf4⟩ := facts5 h8.ans
  obtain ⟨yy0, yy1, yy2, yy3, yy4, yyf0, yyf1, yyf2, yyf3, yyf4⟩ := facts5 h8.ref
  obtain ⟨z0, z1, z2, z3, z4, -⟩ := facts5 (five h8.ref (.int .u32 J4.e) (.int .i64 J4.d) (.int .u32 J4.a) (.int .u32 J4.b) (.int .u32 J4.c))
  go_wp2_with fail
  refine (A5.out _).mono ?_
  rintro e w9 ⟨rfl, b9⟩
  clear aa0 aa1 aa2 aa3 aa4 aaf0 aaf1 aaf2 aaf3 aaf4 bb0 bb1 bb2 bb3 bb4 bbf0 bbf1 bbf2 bbf3 bbf4 xx0 xx1 xx2 xx3 xx4 xxf0 xxf1 xxf2 xxf3 xxf4 yy0 yy1 yy2 yy3 yy4 yyf0 yyf1 yyf2 yyf3 yyf4
  clear z0 z1 z2 z3 z4
  have h9 := (h8.putY x3 x4 x5 J4).below b9
  have v9 := (below5 v8 gq _ _ _ _ _).trans (b9.mono (by have := h8.one.inside; simp [World.setCell]; omega))
  clear b9 h8 v8
  obtain ⟨aa0, aa1, aa2, aa3, aa4, aaf0, aaf1, aaf2, aaf3, aaf4⟩ := facts5 h9.one
  obtain ⟨bb0, bb1, bb2, bb3, bb4, bbf0, bbf1, bbf2, bbf3, bbf4⟩ := facts5 h9.two
  obtain ⟨xx0, xx1, xx2, xx3, xx4, xxf0, xxf1, xxf2, xxf3, xxf4⟩ := facts5 h9.ans
  obtain ⟨yy0, yy1, yy2, yy3, yy4, yyf0, yyf1, yyf2, yyf3, yyf4⟩ := facts5 h9.ref
  go_wp2_with fail
  refine (R5.out _).mono ?_
  rintro e w10 ⟨rfl, b10⟩
  clear aa0 aa1 aa2 aa3 aa4 aaf0 aaf1 aaf2 aaf3 aaf4 bb0 bb1 bb2 bb3 bb4 bbf0 bbf1 bbf2 bbf3 bbf4 xx0 xx1 xx2 xx3 xx4 xxf0 xxf1 xxf2 xxf3 xxf4 yy0 yy1 yy2 yy3 yy4 yyf0 yyf1 yyf2 yyf3 yyf4
  have h10 := (h9.putX x1 x2 x10 J5).below b10
  have v10 := (below5 v9 gp _ _ _ _ _).trans (b10.mono (by have := h9.one.inside; simp [World.setCell]; omega))
  clear b10 h9 v9
  obtain ⟨aa0, aa1, aa2, aa3, aa4, aaf0, aaf1, aaf2, aaf3, aaf4⟩ := facts5 h10.one
  obtain ⟨bb0, bb1, bb2, bb3, bb4, bbf0, bbf1, bbf2, bbf3, bbf4⟩ := facts5 h10.two
  obtain ⟨xx0, xx1, xx2, xx3, xx4, xxf0, xxf1, xxf2, xxf3, xxf4⟩ := facts5 h10.ans
  obtain ⟨yy0, yy1, yy2, yy3, yy4, yyf0, yyf1, yyf2, yyf3, yyf4⟩ := facts5 h10.ref
  obtain ⟨z0, z1, z2, z3, z4, -⟩ := facts5 (five h10.ref (.int .u32 J5.e) (.int .i64 J5.d) (.int .u32 J5.a) (.int .u32 J5.b) (.int .u32 J5.c))
  go_wp2_with fail
  refine (A6.out _).mono ?_
  rintro e w11 ⟨rfl, b11⟩
  clear aa0 aa1 aa2 aa3 aa4 aaf0 aaf1 aaf2 aaf3 aaf4 bb0 bb1 bb2 bb3 bb4 bbf0 bbf1 bbf2 bbf3 bbf4 xx0 xx1 xx2 xx3 xx4 xxf0 xxf1 xxf2 xxf3 xxf4 yy0 yy1 yy2 yy3 yy4 yyf0 yyf1 yyf2 yyf3 yyf4
  clear z0 z1 z2 z3 z4
  have h11 := (h10.putY x3 x4 x5 J5).below b11
  have v11 := (below5 v10 gq _ _ _ _ _).trans (b11.mono (by have := h10.one.inside; simp [World.setCell]; omega))
  clear b11 h10 v10
  obtain ⟨aa0, aa1, aa2, aa3, aa4, aaf0, aaf1, aaf2, aaf3, aaf4⟩ := facts5 h11.one
  obtain ⟨bb0, bb1, bb2, bb3, bb4, bbf0, bbf1, bbf2, bbf3, bbf4⟩ := facts5 h11.two
  obtain ⟨xx0, xx1, xx2, xx3, xx4, xxf0, xxf1, xxf2, xxf3, xxf4⟩ := facts5 h11.ans
  obtain ⟨yy0, yy1, yy2, yy3, yy4, yyf0, yyf1, yyf2, yyf3, yyf4⟩ := facts5 h11.ref
  go_wp2_with fail
  refine (R6.out _).mono ?_
  rintro e w12 ⟨rfl, b12⟩
  clear aa0 aa1 aa2 aa3 aa4 aaf0 aaf1 aaf2 aaf3 aaf4 bb0 bb1 bb2 bb3 bb4 bbf0 bbf1 bbf2 bbf3 bbf4 xx0 xx1 xx2 xx3 xx4 xxf0 xxf1 xxf2 xxf3 xxf4 yy0 yy1 yy2 yy3 yy4 yyf0 yyf1 yyf2 yyf3 yyf4
  have h12 := (h11.putX x1 x2 x10 J6).below b12
  have v12 := (below5 v11 gp _ _ _ _ _).trans (b12.mono (by have := h11.one.inside; simp [World.setCell]; omega))
  clear b12 h11 v11
  obtain ⟨aa0, aa1, aa2, aa3, aa4, aaf0, aaf1, aaf2, aaf3, aaf4⟩ := facts5 h12.one
  obtain ⟨bb0, bb1, bb2, bb3, bb4, bbf0, bbf1, bbf2, bbf3, bbf4⟩ := facts5 h12.two
  obtain ⟨xx0, xx1, xx2, xx3, xx4, xxf0, xxf1, xxf2, xxf3, xxf4⟩ := facts5 h12.ans
  obtain ⟨yy0, yy1, yy2, yy3, yy4, yyf0, yyf1, yyf2, yyf3, yyf4⟩ := facts5 h12.ref
  obtain ⟨z0, z1, z2, z3, z4, -⟩ := facts5 (five h12.ref (.int .u32 J6.e) (.int .i64 J6.d) (.int .u32 J6.a) (.int .u32 J6.b) (.int .u32 J6.c))
  go_wp2_with fail
  go_ret
  exact ⟨rfl, by have := HG.out; subst this; exact below5 v12 gq _ _ _ _ _⟩
theorem walk (a b : Tm) (n : Int) (i : a.In) (j : b.In) (h : (Lit.int .u32 n).wf = true) (w : World) : Calls Try.prog 4 #[.agg #[.int .u32 a.e, .int .i64 a.d, .int .u32 a.a, .int .u32 a.b, .int .u32 a.c], .agg #[.int .u32 b.e, .int .i64 b.d, .int .u32 b.a, .int .u32 b.b, .int .u32 b.c], .int .u32 n] w fun e w' => e = .returned (.bool true) ∧ Below w.heap.size w w' :=
  walkT a b n i j (bounds_u32 h).1 (by have := (bounds_u32 h).2; omega) w
theorem told (W : World) (args : Array Value) (h : Fed Try.prog W [25, 25, 22] args) : Calls Try.prog 4 args W fun e W' => e = .returned (.bool true) ∧ Below W.heap.size W W' := by
  obtain ⟨v0, v1, v2, rfl⟩ := args3 h.count
  obtain ⟨⟨_, o0⟩, r0⟩ := h.each 0 25 v0 rfl rfl
  obtain ⟨⟨_, o1⟩, r1⟩ := h.each 1 25 v1 rfl rfl
  obtain ⟨⟨_, o2⟩, r2⟩ := h.each 2 22 v2 rfl rfl
  obtain ⟨a0, q0⟩ := r0 opens_time
  obtain ⟨t0, i0, rfl⟩ := top_time o0 q0
  obtain ⟨a1, q1⟩ := r1 opens_time
  obtain ⟨t1, i1, rfl⟩ := top_time o1 q1
  obtain ⟨a2, q2⟩ := r2 (opens_int Try.underlying22)
  obtain ⟨rfl, w2⟩ := top_int Try.underlying22 o2 q2
  exact walk t0 t1 a2 i0 i1 w2 W

/-! ### The row -/
theorem own : ownKnob Try.prog.godebug = none := by kernel_rfl
theorem laidOut : laidOutB Try.prog = true := by kernel_rfl
set_option maxRecDepth 100000 in
theorem lifted (os : Os) (started : os.Started) (H : Type) (enc : TypeId × Value → H) :
    ReturnsInHanded {} Try.checked os 4 .any (Rows.stampMovesSpec.pre6 enc Try.prog Try.f4 Rows.stampMovesRow.domain false) (Rows.stampMovesSpec.post enc Try.prog Try.f4 false true false false) :=
  lift (C := Try.checked) (fn := Try.f4) (tb := 4) (ts := [25, 25, 22]) own started (by kernel_rfl) Try.func4 laidOut (by kernel_rfl) (by kernel_rfl) (by kernel_rfl) Try.underlying4 rfl
    (fun ds h => by
      match ds, h with
      | [_, _, _], _ => rfl)
    (ChangeSpec.witness6 (enc := enc) (C := Try.checked) false ⟨#[], #[.agg #[.int .u32 0, .int .i64 0, .int .u32 0, .int .u32 0, .int .u32 0], .agg #[.int .u32 0, .int .i64 0, .int .u32 0, .int .u32 0, .int .u32 0], .int .u32 0], []⟩ 8 (by kernel_rfl) (by kernel_rfl) (by kernel_rfl) (by kernel_rfl)) told

theorem over : Rows.stampMovesRow.holds Try.pinned (OpenSpec.ofChange Rows.stampMovesSpec) :=
  OpenClaim.holds_of_wide 4 Try.f4 rfl rfl rfl rfl rfl rfl rfl ⟨rfl, rfl, rfl, rfl, rfl⟩ rfl rfl rfl rfl rfl (by kernel_rfl) Try.func4 (by kernel_rfl)
    (of_decide_eq_true (by kernel_rfl)) (by unfold Func.isWrapper; first | (rw [if_pos (by decide +kernel)]; kernel_rfl) | (rw [if_neg (by decide +kernel)]; exact ⟨rfl, rfl⟩))
    (fun os started H enc _ => lifted os started H enc)

theorem proved : Rows.StampMovesSaid := over
#print axioms proved
end Go.Proofs.Ytehcnnjhgiiehaa.stampMoves
