/-
  StampAlong: what is not behind stays so within a loop, outside of it, in the next round, and later; no condition.
-/
import Derived.Test.YtehcnnjhgiiehaaDoorLift
import Derived.Test.YtehcnnjhgiiehaaDoorWorks
import Derived.Test.YtehcnnjhgiiehaaDoorOk
import Derived.Test.YtehcnnjhgiiehaaDoorOrd
import Derived.Test.YtehcnnjhgiiehaaDoorLe
import Derived.Test.YtehcnnjhgiiehaaDoorAlM
import Derived.Test.YtehcnnjhgiiehaaDoorWh
import Derived.Test.YtehcnnjhgiiehaaDoorMv3
import Derived.Test.YtehcnnjhgiiehaaDoorTie
import Derived.Test.YtehcnnjhgiiehaaDoorCards
import Derived.Deep.Cut
import Derived.Deep.CutRange
namespace Go.Proofs.YtehcnnjhgiiehaaDoor.stampAlong
open Go.ChangeShapes Go.WideShapes Go.ChangeAt Go.RowKit
open Go.Proofs.YtehcnnjhgiiehaaDoor.tm Go.Proofs.YtehcnnjhgiiehaaDoor.opened Go.Proofs.YtehcnnjhgiiehaaDoor.block Go.Proofs.YtehcnnjhgiiehaaDoor.stamp

theorem all_of {w : World} {g : Nat} {t : TypeId} {cs : Array Value} (h : Whole w g t cs) : (∀ i, w.cell? ⟨g, i, none⟩ = cs[i]?) ∧ (∀ i, w.frozen? ⟨g, i, none⟩ = false) := ⟨h.read, h.soft⟩
/-- Two times are known, in blocks of their own; nothing older has turned. -/
structure Duo (w wr : World) (g : Nat) (a b : Tm) : Prop where
  one : Whole wr g 25 #[.int .u32 a.e, .int .i64 a.d, .int .u32 a.a, .int .u32 a.b, .int .u32 a.c]
  two : Whole wr (g + 1) 25 #[.int .u32 b.e, .int .i64 b.d, .int .u32 b.a, .int .u32 b.b, .int .u32 b.c]
  old : Below w.heap.size w wr
  base : w.heap.size = g
theorem Duo.below {w wr w1 : World} {g : Nat} {a b : Tm} (h : Duo w wr g a b) (k : Below wr.heap.size wr w1) : Duo w w1 g a b :=
  ⟨h.one.below k h.one.inside, h.two.below k h.two.inside, h.old.trans (k.mono h.old.size), h.base⟩
theorem Duo.fresh (w : World) (a b : Tm) : Duo w ((w.alloc (.cells #[.int .u32 a.e, .int .i64 a.d, .int .u32 a.a, .int .u32 a.b, .int .u32 a.c] 25)).alloc (.cells #[.int .u32 b.e, .int .i64 b.d, .int .u32 b.a, .int .u32 b.b, .int .u32 b.c] 25)) w.heap.size a b := by
  refine ⟨(Whole.fresh w 25 _).alloc _, ?_, fresh2 _ _ _, rfl⟩
  have k := Whole.fresh (w.alloc (.cells #[.int .u32 a.e, .int .i64 a.d, .int .u32 a.a, .int .u32 a.b, .int .u32 a.c] 25)) 25 #[.int .u32 b.e, .int .i64 b.d, .int .u32 b.a, .int .u32 b.b, .int .u32 b.c]
  rw [World.size_alloc] at k
  exact k
theorem Duo.alloc {w wr : World} {g : Nat} {a b : Tm} (h : Duo w wr g a b) (o : Obj) : Duo w (wr.alloc o) g a b := ⟨h.one.alloc o, h.two.alloc o, h.old.alloc h.old.size _, h.base⟩
/-- Beside them, two times that the law itself holds. -/
structure Quad (w wr : World) (g n m : Nat) (a b x y : Tm) : Prop where
  duo : Duo w wr g a b
  px : Whole wr n 25 #[.int .u32 x.e, .int .i64 x.d, .int .u32 x.a, .int .u32 x.b, .int .u32 x.c]
  py : Whole wr m 25 #[.int .u32 y.e, .int .i64 y.d, .int .u32 y.a, .int .u32 y.b, .int .u32 y.c]
  hn : g + 1 < n
  hm : n < m
theorem Quad.below {w wr w1 : World} {g n m : Nat} {a b x y : Tm} (h : Quad w wr g n m a b x y) (k : Below wr.heap.size wr w1) : Quad w w1 g n m a b x y :=
  ⟨h.duo.below k, h.px.below k h.px.inside, h.py.below k h.py.inside, h.hn, h.hm⟩
theorem le_of {s t : Tm} {v : Bool} (i : s.In) (j : t.In) (h : leB s t = v) : Hid (∀ W, Calls Tryd.prog 14 #[.agg #[.int .u32 s.e, .int .i64 s.d, .int .u32 s.a, .int .u32 s.b, .int .u32 s.c], .agg #[.int .u32 t.e, .int .i64 t.d, .int .u32 t.a, .int .u32 t.b, .int .u32 t.c]] W fun e w' => e = .returned (.bool v) ∧ Below W.heap.size W w') := Lib.hid (h ▸ le_any s t i j)
set_option maxRecDepth 100000 in
set_option maxHeartbeats 4000000 in
theorem walkT (a b : Tm) (c : Int) (i : a.In) (j : b.In) (c0 : 0 ≤ c) (c1 : c ≤ 4294967295) (w : World) (hE : Env w) : Calls Tryd.prog 7 #[.agg #[.int .u32 a.e, .int .i64 a.d, .int .u32 a.a, .int .u32 a.b, .int .u32 a.c], .agg #[.int .u32 b.e, .int .i64 b.d, .int .u32 b.a, .int .u32 b.b, .int .u32 b.c], .int .u32 c] w fun e w' => e = .returned (.bool true) ∧ Below w.heap.size w w' := by
  have h0 := Duo.fresh w a b
  go_enter Tryd.func7, Tryd.ntmps7
  go_wp2_with fail
  refine (works_any _ (hE.below h0.old)).mono ?_
  rintro e w1 ⟨rfl, b1⟩
  have h1 := h0.below b1
  clear b1 h0
  generalize w.heap.size = g at h1 ⊢
  obtain ⟨ac, ad⟩ := all_of h1.one
  obtain ⟨bc, bd⟩ := all_of h1.two
  by_cases o : okB a b b = true
  · have OK : Hid (∀ W, Calls Tryd.prog 16 #[.agg #[.int .u32 a.e, .int .i64 a.d, .int .u32 a.a, .int .u32 a.b, .int .u32 a.c], .agg #[.int .u32 b.e, .int .i64 b.d, .int .u32 b.a, .int .u32 b.b, .int .u32 b.c], .agg #[.int .u32 b.e, .int .i64 b.d, .int .u32 b.a, .int .u32 b.b, .int .u32 b.c]] W fun e w' => e = .returned (.bool true) ∧ Below W.heap.size W w') := Lib.hid (o ▸ ok_any a b b i j j)
    by_cases p : leB a b = true
    · have L1 := le_of i j p
      obtain ⟨ha, hb, -⟩ := okB_iff.1 o
      have F1 := Lib.hid (al_enter ha hb p)
      have F2 := Lib.hid (al_inn ha hb p)
      have F3 := Lib.hid (al_leave ha hb p)
      have F4 := Lib.hid (al_next ha hb p)
      have F5 := Lib.hid (al_later (n := c) ha hb p)
      have EA := Lib.hid (enter_any a i)
      have EB := Lib.hid (enter_any b j)
      have LA := Lib.hid (leave_any a i)
      have LB := Lib.hid (leave_any b j)
      have NA := Lib.hid (next_any a i)
      have NB := Lib.hid (next_any b j)
      have TA := Lib.hid (later_any a c i c0 c1)
      have TB := Lib.hid (later_any b c j c0 c1)
      have M1 := Lib.hid (le_any _ _ (in_enter i) (in_enter j))
      have M2 := Lib.hid (le_any _ _ (in_leave i) (in_leave j))
      have M3 := Lib.hid (le_any _ _ (in_next i) (in_next j))
      have M4 := Lib.hid (le_any _ _ (in_later i c0) (in_later j c0))
      clear o p ha hb i j c0 c1
      generalize enterV a = xa at *
      generalize enterV b = xb at *
      generalize enterE a = ea at *
      generalize enterE b = eb at *
      generalize leaveV a = ya at *
      generalize leaveV b = yb at *
      generalize inn a = fa at *
      generalize inn b = fb at *
      generalize nextV a = za at *
      generalize nextV b = zb at *
      generalize nextE a = ga at *
      generalize nextE b = gb at *
      generalize laterV a c = ua at *
      generalize laterV b c = ub at *
      generalize laterE a c = ka at *
      generalize laterE b c = kb at *
      obtain rfl : ea = eb := F1.out.1
      obtain rfl : fa = fb := F2.out
      go_wp2_with fail
      refine (OK.out _).mono ?_
      rintro e w2 ⟨rfl, b2⟩
      have h2 := h1.below b2
      clear ac ad bc bd b2 h1
      obtain ⟨ac, ad⟩ := all_of h2.one
      obtain ⟨bc, bd⟩ := all_of h2.two
      go_wp2_with fail
      refine (L1.out _).mono ?_
      rintro e w3 ⟨rfl, b3⟩
      have h3 := h2.below b3
      clear ac ad bc bd b3 h2
      obtain ⟨ac, ad⟩ := all_of h3.one
      go_wp2_with fail
      refine (EA.out _).mono ?_
      rintro e w4 ⟨rfl, b4⟩
      have h4 := h3.below b4
      clear ac ad b4 h3
      obtain ⟨bc, bd⟩ := all_of h4.two
      have g4 : g + 1 < w4.heap.size := h4.two.inside
      go_wp2_with fail
      refine (EB.out _).mono ?_
      rintro e w5 ⟨rfl, b5⟩
      have h5 := (h4.alloc (.cells #[.int .u32 xa.e, .int .i64 xa.d, .int .u32 xa.a, .int .u32 xa.b, .int .u32 xa.c] 25)).below b5
      have X5 := (Whole.fresh w4 25 #[.int .u32 xa.e, .int .i64 xa.d, .int .u32 xa.a, .int .u32 xa.b, .int .u32 xa.c]).below b5 (by simp)
      have s5 := b5.size
      rw [World.size_alloc] at s5
      clear bc bd b5 h4
      go_upto_region 7 with fail
      have Q : Quad w (w5.alloc (.cells #[.int .u32 xb.e, .int .i64 xb.d, .int .u32 xb.a, .int .u32 xb.b, .int .u32 xb.c] 25)) g w4.heap.size w5.heap.size a b xa xb := ⟨h5.alloc _, X5.alloc _, Whole.fresh w5 _ _, g4, by omega⟩
      clear h5 X5 s5 g4
      generalize w5.alloc (.cells #[.int .u32 xb.e, .int .i64 xb.d, .int .u32 xb.a, .int .u32 xb.b, .int .u32 xb.c] 25) = W at Q ⊢
      generalize w4.heap.size = n at Q ⊢
      generalize w5.heap.size = m at Q ⊢
      clear w4 w5
      go_cut [46] from 34 to 46 (fun s wx => s = .bool false ∧ Quad w wx g n m a b xa xb)
      case first =>
        obtain ⟨xc, xd⟩ := all_of Q.px
        obtain ⟨yc, yd⟩ := all_of Q.py
        by_cases e0 : ea = 0
        · have hm := F1.out.2 e0
          have LX := Lib.hid (hm ▸ M1.out)
          subst e0
          clear hm
          go_wp2_with fail
          refine (LX.out _).mono ?_
          rintro e w6 ⟨rfl, b6⟩
          have Q6 := Q.below b6
          clear xc xd yc yd
          go_wp2_with fail
          go_meet
          exact ⟨rfl, Q6⟩
        · have e1 : (ea == 0) = false := by simpa using e0
          clear e0
          go_wp2_with fail
          go_meet
          exact ⟨rfl, Q⟩
      clear Q
      obtain ⟨rfl, Q⟩ := hcut
      obtain ⟨ac, ad⟩ := all_of Q.duo.one
      go_wp2_with fail
      refine (LA.out _).mono ?_
      rintro e w8 ⟨rfl, b8⟩
      have Q8 := Q.below b8
      clear ac ad b8 Q
      go_wp2_with (refine put rfl 25 (.tmp 7) _ rfl (g := n) rfl rfl Q8.px (by kernel_rfl) rfl (by simp [Value.oneCell']) Q8.duo.old (by have := Q8.hn; rw [Q8.duo.base]; omega) ?_; intro w9 hR9 hB9 hs9 ho9; have Q9 : Quad w w9 g n m a b _ _ := ⟨⟨ho9 Q8.duo.one (by have := Q8.hn; omega), ho9 Q8.duo.two (by have := Q8.hn; omega), hB9, Q8.duo.base⟩, hR9, ho9 Q8.py (by have := Q8.hm; omega), Q8.hn, Q8.hm⟩; clear hR9 hB9 hs9 ho9 Q8; obtain ⟨bc, bd⟩ := all_of Q9.duo.two)
      refine (LB.out _).mono ?_
      rintro e w10 ⟨rfl, b10⟩
      have Q10 := Q9.below b10
      clear bc bd b10 Q9
      go_upto_region 11 with (refine put rfl 25 (.tmp 9) _ rfl (g := m) rfl rfl Q10.py (by kernel_rfl) rfl (by simp [Value.oneCell']) Q10.duo.old (by have := Q10.hn; have := Q10.hm; rw [Q10.duo.base]; omega) ?_; intro w11 hR9 hB9 hs9 ho9; have Q : Quad w w11 g n m a b _ _ := ⟨⟨ho9 Q10.duo.one (by have := Q10.hn; have := Q10.hm; omega), ho9 Q10.duo.two (by have := Q10.hn; have := Q10.hm; omega), hB9, Q10.duo.base⟩, ho9 Q10.px (by have := Q10.hm; omega), hR9, Q10.hn, Q10.hm⟩; clear hR9 hB9 hs9 ho9 Q10)
      go_cut [69] from 57 to 69 (fun s wx => s = .bool false ∧ Quad w wx g n m a b ya yb)
      case first =>
        obtain ⟨xc, xd⟩ := all_of Q.px
        obtain ⟨yc, yd⟩ := all_of Q.py
        by_cases e0 : fa = 0
        · have hm := F3.out e0
          have LX := Lib.hid (hm ▸ M2.out)
          subst e0
          clear hm
          go_wp2_with fail
          refine (LX.out _).mono ?_
          rintro e w6 ⟨rfl, b6⟩
          have Q6 := Q.below b6
          clear xc xd yc yd
          go_wp2_with fail
          go_meet
          exact ⟨rfl, Q6⟩
        · have e1 : (fa == 0) = false := by simpa using e0
          clear e0
          go_wp2_with fail
          go_meet
          exact ⟨rfl, Q⟩
      clear Q
      obtain ⟨rfl, Q⟩ := hcut
      obtain ⟨ac, ad⟩ := all_of Q.duo.one
      go_wp2_with fail
      refine (NA.out _).mono ?_
      rintro e w8 ⟨rfl, b8⟩
      have Q8 := Q.below b8
      clear ac ad b8 Q
      go_wp2_with (refine put rfl 25 (.tmp 7) _ rfl (g := n) rfl rfl Q8.px (by kernel_rfl) rfl (by simp [Value.oneCell']) Q8.duo.old (by have := Q8.hn; rw [Q8.duo.base]; omega) ?_; intro w9 hR9 hB9 hs9 ho9; have Q9 : Quad w w9 g n m a b _ _ := ⟨⟨ho9 Q8.duo.one (by have := Q8.hn; omega), ho9 Q8.duo.two (by have := Q8.hn; omega), hB9, Q8.duo.base⟩, hR9, ho9 Q8.py (by have := Q8.hm; omega), Q8.hn, Q8.hm⟩; clear hR9 hB9 hs9 ho9 Q8; obtain ⟨bc, bd⟩ := all_of Q9.duo.two)
      refine (NB.out _).mono ?_
      rintro e w10 ⟨rfl, b10⟩
      have Q10 := Q9.below b10
      clear bc bd b10 Q9
      go_upto_region 15 with (refine put rfl 25 (.tmp 9) _ rfl (g := m) rfl rfl Q10.py (by kernel_rfl) rfl (by simp [Value.oneCell']) Q10.duo.old (by have := Q10.hn; have := Q10.hm; rw [Q10.duo.base]; omega) ?_; intro w11 hR9 hB9 hs9 ho9; have Q : Quad w w11 g n m a b _ _ := ⟨⟨ho9 Q10.duo.one (by have := Q10.hn; have := Q10.hm; omega), ho9 Q10.duo.two (by have := Q10.hn; have := Q10.hm; omega), hB9, Q10.duo.base⟩, ho9 Q10.px (by have := Q10.hm; omega), hR9, Q10.hn, Q10.hm⟩; clear hR9 hB9 hs9 ho9 Q10)
      go_cut [91] from 80 to 91 (fun s wx => s = .bool false ∧ Quad w wx g n m a b za zb)
      case first =>
        obtain ⟨xc, xd⟩ := all_of Q.px
        obtain ⟨yc, yd⟩ := all_of Q.py
        by_cases e0 : gb = 0
        · obtain ⟨hg, hm⟩ := F4.out e0
          have LX := Lib.hid (hm ▸ M3.out)
          subst e0 hg
          clear hm
          go_wp2_with fail
          refine (LX.out _).mono ?_
          rintro e w6 ⟨rfl, b6⟩
          have Q6 := Q.below b6
          clear xc xd yc yd
          go_wp2_with fail
          go_meet
          exact ⟨rfl, Q6⟩
        · have e1 : (gb == 0) = false := by simpa using e0
          clear e0
          go_wp2_with fail
          go_meet
          exact ⟨rfl, Q⟩
      clear Q
      obtain ⟨rfl, Q⟩ := hcut
      obtain ⟨ac, ad⟩ := all_of Q.duo.one
      go_wp2_with fail
      refine (TA.out _).mono ?_
      rintro e w8 ⟨rfl, b8⟩
      have Q8 := Q.below b8
      clear ac ad b8 Q
      go_wp2_with (refine put rfl 25 (.tmp 7) _ rfl (g := n) rfl rfl Q8.px (by kernel_rfl) rfl (by simp [Value.oneCell']) Q8.duo.old (by have := Q8.hn; rw [Q8.duo.base]; omega) ?_; intro w9 hR9 hB9 hs9 ho9; have Q9 : Quad w w9 g n m a b _ _ := ⟨⟨ho9 Q8.duo.one (by have := Q8.hn; omega), ho9 Q8.duo.two (by have := Q8.hn; omega), hB9, Q8.duo.base⟩, hR9, ho9 Q8.py (by have := Q8.hm; omega), Q8.hn, Q8.hm⟩; clear hR9 hB9 hs9 ho9 Q8; obtain ⟨bc, bd⟩ := all_of Q9.duo.two)
      refine (TB.out _).mono ?_
      rintro e w10 ⟨rfl, b10⟩
      have Q10 := Q9.below b10
      clear bc bd b10 Q9
      go_upto_region 19 with (refine put rfl 25 (.tmp 9) _ rfl (g := m) rfl rfl Q10.py (by kernel_rfl) rfl (by simp [Value.oneCell']) Q10.duo.old (by have := Q10.hn; have := Q10.hm; rw [Q10.duo.base]; omega) ?_; intro w11 hR9 hB9 hs9 ho9; have Q : Quad w w11 g n m a b _ _ := ⟨⟨ho9 Q10.duo.one (by have := Q10.hn; have := Q10.hm; omega), ho9 Q10.duo.two (by have := Q10.hn; have := Q10.hm; omega), hB9, Q10.duo.base⟩, ho9 Q10.px (by have := Q10.hm; omega), hR9, Q10.hn, Q10.hm⟩; clear hR9 hB9 hs9 ho9 Q10)
      obtain ⟨xc, xd⟩ := all_of Q.px
      obtain ⟨yc, yd⟩ := all_of Q.py
      by_cases e0 : kb = 0
      · obtain ⟨hg, hm⟩ := F5.out e0
        have LX := Lib.hid (hm ▸ M4.out)
        subst e0 hg
        clear hm
        go_wp2_with fail
        refine (LX.out _).mono ?_
        rintro e w6 ⟨rfl, b6⟩
        have Q6 := Q.below b6
        clear xc xd yc yd
        go_wp2_with fail
        go_ret
        exact ⟨rfl, Q6.duo.old⟩
      · have e1 : (kb != 0) = true := by simpa using e0
        clear e0
        go_wp2_with fail
        go_ret
        exact ⟨rfl, Q.duo.old⟩
    · have L1 := le_of i j (Bool.eq_false_iff.2 p)
      clear o p i j
      go_wp2_with fail
      refine (OK.out _).mono ?_
      rintro e w2 ⟨rfl, b2⟩
      have h2 := h1.below b2
      clear ac ad bc bd b2 h1
      obtain ⟨ac, ad⟩ := all_of h2.one
      obtain ⟨bc, bd⟩ := all_of h2.two
      go_wp2_with fail
      refine (L1.out _).mono ?_
      rintro e w3 ⟨rfl, b3⟩
      have h3 := h2.below b3
      clear ac ad bc bd b3 h2
      go_wp2_with fail
      go_ret
      exact ⟨rfl, h3.old⟩
  · have OK : Hid (∀ W, Calls Tryd.prog 16 #[.agg #[.int .u32 a.e, .int .i64 a.d, .int .u32 a.a, .int .u32 a.b, .int .u32 a.c], .agg #[.int .u32 b.e, .int .i64 b.d, .int .u32 b.a, .int .u32 b.b, .int .u32 b.c], .agg #[.int .u32 b.e, .int .i64 b.d, .int .u32 b.a, .int .u32 b.b, .int .u32 b.c]] W fun e w' => e = .returned (.bool false) ∧ Below W.heap.size W w') := Lib.hid ((Bool.eq_false_iff.2 o) ▸ ok_any a b b i j j)
    clear o i j
    go_wp2_with fail
    refine (OK.out _).mono ?_
    rintro e w2 ⟨rfl, b2⟩
    have h2 := h1.below b2
    clear ac ad bc bd b2 h1
    go_wp2_with fail
    go_ret
    exact ⟨rfl, h2.old⟩
set_option maxRecDepth 100000 in
theorem told (W : World) (args : Array Value) (hE : Env W) (h : Fed Tryd.prog W [25, 25, 22] args) : Calls Tryd.prog 7 args W fun e W' => e = .returned (.bool true) ∧ Below W.heap.size W W' := by
  obtain ⟨v0, v1, v2, rfl⟩ := args3 h.count
  obtain ⟨⟨_, o0⟩, r0⟩ := h.each 0 25 v0 rfl rfl
  obtain ⟨⟨_, o1⟩, r1⟩ := h.each 1 25 v1 rfl rfl
  obtain ⟨⟨_, o2⟩, r2⟩ := h.each 2 22 v2 rfl rfl
  obtain ⟨a0, q0⟩ := r0 opens_time
  obtain ⟨t0, i0, rfl⟩ := top_time o0 q0
  obtain ⟨a1, q1⟩ := r1 opens_time
  obtain ⟨t1, i1, rfl⟩ := top_time o1 q1
  obtain ⟨a2, q2⟩ := r2 (opens_int Tryd.underlying22)
  obtain ⟨rfl, w2⟩ := top_int Tryd.underlying22 o2 q2
  obtain ⟨l2, u2⟩ := bounds_u32 w2
  exact walkT t0 t1 a2 i0 i1 l2 (by omega) W hE

/-! ### The row and the card -/
set_option maxRecDepth 100000 in
theorem lifted (os : Os) (started : os.Started) (H : Type) (enc : TypeId × Value → H) :
    ReturnsInHanded {} Tryd.checked os 7 .any (fun w args => (Rows.stampAlongSpec.pre enc Tryd.prog Tryd.f7 Rows.stampAlongRow.domain false w args ∧ laidMetH Tryd.prog Rows.stampAlongRow.laid w) ∧ sizedMet enc Tryd.prog Tryd.f7 (OpenSpec.ofChange Rows.stampAlongSpec) false w args) (Rows.stampAlongSpec.post enc Tryd.prog Tryd.f7 false true false false) :=
  liftL (ts := [25, 25, 22]) rfl started (by kernel_rfl) Tryd.func7 (by kernel_rfl) (by kernel_rfl) (by kernel_rfl) rfl
    (fun ds h => by
      match ds, h with
      | [_, _, _], _ => rfl)
    (ChangeSpec.witness_shaped (enc := enc) (C := Tryd.checked) (os := os) (X := fun w _ => laidMetH Tryd.prog laid7 w) false (Go.Proofs.YtehcnnjhgiiehaaDoor.stamp.start os) #[.agg #[.int .u32 0, .int .i64 0, .int .u32 0, .int .u32 0, .int .u32 0], .agg #[.int .u32 0, .int .i64 0, .int .u32 0, .int .u32 0, .int .u32 0], .int .u32 0] 8 (World.laidAll_os _ _ _)
      (World.shaped_of_ZipB (by kernel_rfl) (by kernel_rfl)) (by kernel_rfl) (by kernel_rfl) (by kernel_rfl) (start_met os _)) told

theorem over : Rows.StampAlongSaid :=
  OpenClaim.holds_of_wide 7 Tryd.f7 rfl rfl rfl rfl rfl rfl rfl ⟨rfl, rfl, rfl, rfl, rfl⟩ rfl rfl rfl rfl rfl (by kernel_rfl) Tryd.func7 (by kernel_rfl)
    (of_decide_eq_true (by kernel_rfl)) (by unfold Func.isWrapper; first | (rw [if_pos (by decide +kernel)]; kernel_rfl) | (rw [if_neg (by decide +kernel)]; exact ⟨rfl, rfl⟩))
    (fun os started H enc _ => lifted os started H enc)

theorem proved : Rows.StampAlongCardSaid :=
  Claim7.holds_tied_plain_at .later [] [.data, .data, .data, .data, .sentinel, .sentinel, .pinned] true (true, "aab9381282e9a48b52fda4b8d92f7b580332e7240df5507c556c7e28874478b6") true
    over (fun _ h => by cases h) (by kernel_rfl) (fun _ h => by cases h) stampAlong_row_tie rfl ⟨rfl, rfl⟩ (by kernel_rfl) rfl
    (fun f fn hf hfn => by
      obtain rfl : f = 7 := Option.some.inj ((show Tryd.prog.funcNamed "watershed/watershedlaw04.StampAlong" = some 7 by kernel_rfl).symm.trans hf) |>.symm
      obtain rfl : fn = Tryd.f7 := (Option.some.inj (Tryd.func7.symm.trans hfn)).symm
      exact ⟨by kernel_rfl, fun j t ht => by
        rw [Tryd.params7] at ht
        have hm : t ∈ [25, 25, 22] := by simpa using Array.mem_of_getElem? ht
        have hall : ([25, 25, 22].all fun u => !Tryd.prog.wantsStandIn u) = true := by kernel_rfl
        exact (show Tryd.prog.wantsStandIn t = false by simpa using List.all_eq_true.1 hall t hm)⟩)
    (by kernel_rfl)
#print axioms proved

end Go.Proofs.YtehcnnjhgiiehaaDoor.stampAlong
