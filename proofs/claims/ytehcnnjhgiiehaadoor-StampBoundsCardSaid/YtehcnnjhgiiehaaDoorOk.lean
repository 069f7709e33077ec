/-
  Are three times of one depth: what the laws' own helper answers; three times that came in, known in each world behind.
-/
import Derived.Test.YtehcnnjhgiiehaaDoorLift
import Derived.Test.YtehcnnjhgiiehaaDoorOpenT
import Derived.Test.YtehcnnjhgiiehaaDoorJoinR
import Derived.Test.YtehcnnjhgiiehaaDoorMv
namespace Go.Proofs.YtehcnnjhgiiehaaDoor.stamp
open Go.ChangeShapes Go.WideShapes Go.ChangeAt Go.RowKit
open Go.Proofs.YtehcnnjhgiiehaaDoor.tm Go.Proofs.YtehcnnjhgiiehaaDoor.opened Go.Proofs.YtehcnnjhgiiehaaDoor.block

/-- Three times are known, in blocks of their own; nothing older has turned. -/
structure Tri (w wr : World) (g : Nat) (a b c : Tm) : Prop where
  one : Whole wr g 25 #[.int .u32 a.e, .int .i64 a.d, .int .u32 a.a, .int .u32 a.b, .int .u32 a.c]
  two : Whole wr (g + 1) 25 #[.int .u32 b.e, .int .i64 b.d, .int .u32 b.a, .int .u32 b.b, .int .u32 b.c]
  tre : Whole wr (g + 1 + 1) 25 #[.int .u32 c.e, .int .i64 c.d, .int .u32 c.a, .int .u32 c.b, .int .u32 c.c]
  old : Below w.heap.size w wr
  base : w.heap.size = g
theorem Tri.below {w wr w1 : World} {g : Nat} {a b c : Tm} (h : Tri w wr g a b c) (k : Below wr.heap.size wr w1) : Tri w w1 g a b c :=
  ⟨h.one.below k h.one.inside, h.two.below k h.two.inside, h.tre.below k h.tre.inside, h.old.trans (k.mono h.old.size), h.base⟩
theorem Tri.fresh (w : World) (a b c : Tm) : Tri w (((w.alloc (.cells #[.int .u32 a.e, .int .i64 a.d, .int .u32 a.a, .int .u32 a.b, .int .u32 a.c] 25)).alloc (.cells #[.int .u32 b.e, .int .i64 b.d, .int .u32 b.a, .int .u32 b.b, .int .u32 b.c] 25)).alloc (.cells #[.int .u32 c.e, .int .i64 c.d, .int .u32 c.a, .int .u32 c.b, .int .u32 c.c] 25)) w.heap.size a b c := by
  refine ⟨((Whole.fresh w 25 _).alloc _).alloc _, ?_, ?_, ((fresh2 _ _ _).alloc (by simp; omega) _), rfl⟩
  · have k := Whole.fresh (w.alloc (.cells #[.int .u32 a.e, .int .i64 a.d, .int .u32 a.a, .int .u32 a.b, .int .u32 a.c] 25)) 25 #[.int .u32 b.e, .int .i64 b.d, .int .u32 b.a, .int .u32 b.b, .int .u32 b.c]
    rw [World.size_alloc] at k
    exact k.alloc _
  · have k := Whole.fresh ((w.alloc (.cells #[.int .u32 a.e, .int .i64 a.d, .int .u32 a.a, .int .u32 a.b, .int .u32 a.c] 25)).alloc (.cells #[.int .u32 b.e, .int .i64 b.d, .int .u32 b.a, .int .u32 b.b, .int .u32 b.c] 25)) 25 #[.int .u32 c.e, .int .i64 c.d, .int .u32 c.a, .int .u32 c.b, .int .u32 c.c]
    rw [World.size_alloc, World.size_alloc] at k
    exact k
/-- Are all three times of one depth? -/
def okB (a b c : Tm) : Bool := decide (chk a = 0 ∧ chk b = 0 ∧ chk c = 0 ∧ a.d = b.d ∧ b.d = c.d)
theorem okB_iff {a b c : Tm} : okB a b c = true ↔ (chk a = 0 ∧ chk b = 0 ∧ chk c = 0 ∧ a.d = b.d ∧ b.d = c.d) := by simp [okB]
theorem okB_no {a b c : Tm} (h : ¬ (chk a = 0 ∧ chk b = 0 ∧ chk c = 0 ∧ a.d = b.d ∧ b.d = c.d)) : okB a b c = false := by simp only [okB, decide_eq_false h]
theorem no_beq {x y : Int} (h : ¬ x = y) : (x == y) = false := by simp [h]
theorem fact_of {t : Tm} {x : Int} (i : t.In) (h : chk t = x) : Hid (∀ W, Calls Tryd.prog 13 #[.agg #[.int .u32 t.e, .int .i64 t.d, .int .u32 t.a, .int .u32 t.b, .int .u32 t.c]] W fun e w' => e = .returned (.int .i64 x) ∧ Below W.heap.size W w') := Lib.hid (h ▸ checkR_any t i)
set_option maxRecDepth 100000 in
set_option maxHeartbeats 1000000 in
theorem ok_any (a b c : Tm) (i : a.In) (j : b.In) (k : c.In) (w : World) : Calls Tryd.prog 16 #[.agg #[.int .u32 a.e, .int .i64 a.d, .int .u32 a.a, .int .u32 a.b, .int .u32 a.c], .agg #[.int .u32 b.e, .int .i64 b.d, .int .u32 b.a, .int .u32 b.b, .int .u32 b.c], .agg #[.int .u32 c.e, .int .i64 c.d, .int .u32 c.a, .int .u32 c.b, .int .u32 c.c]] w fun e w' => e = .returned (.bool (okB a b c)) ∧ Below w.heap.size w w' := by
  generalize hz : okB a b c = z
  have HZ := Lib.hid hz
  clear hz
  obtain ⟨x, hx⟩ : ∃ x, chk a = x := ⟨_, rfl⟩
  obtain ⟨y, hy⟩ : ∃ y, chk b = y := ⟨_, rfl⟩
  obtain ⟨u, hu⟩ : ∃ u, chk c = u := ⟨_, rfl⟩
  have CA := fact_of i hx
  have CB := fact_of j hy
  have CC := fact_of k hu
  have HX := Lib.hid hx
  have HY := Lib.hid hy
  have HU := Lib.hid hu
  clear hx hy hu
  go_enter Tryd.func16, Tryd.ntmps16
  have h0 := Tri.fresh w a b c
  go_wp2_with fail
  generalize ((w.alloc (.cells #[.int .u32 a.e, .int .i64 a.d, .int .u32 a.a, .int .u32 a.b, .int .u32 a.c] 25)).alloc (.cells #[.int .u32 b.e, .int .i64 b.d, .int .u32 b.a, .int .u32 b.b, .int .u32 b.c] 25)).alloc (.cells #[.int .u32 c.e, .int .i64 c.d, .int .u32 c.a, .int .u32 c.b, .int .u32 c.c] 25) = W at h0 ⊢
  have hg := h0.base
  generalize w.heap.size = g at h0 hg ⊢
  have HG := Lib.hid hg
  clear hg
  obtain ⟨aa0, aa1, aa2, aa3, aa4, aaf0, aaf1, aaf2, aaf3, aaf4⟩ := facts5 h0.one
  obtain ⟨bb0, bb1, bb2, bb3, bb4, bbf0, bbf1, bbf2, bbf3, bbf4⟩ := facts5 h0.two
  obtain ⟨cc0, cc1, cc2, cc3, cc4, ccf0, ccf1, ccf2, ccf3, ccf4⟩ := facts5 h0.tre
  by_cases ex : x = 0
  · subst ex
    refine (CA.out _).mono ?_
    rintro e w1 ⟨rfl, b1⟩
    clear aa0 aa1 aa2 aa3 aa4 aaf0 aaf1 aaf2 aaf3 aaf4 bb0 bb1 bb2 bb3 bb4 bbf0 bbf1 bbf2 bbf3 bbf4 cc0 cc1 cc2 cc3 cc4 ccf0 ccf1 ccf2 ccf3 ccf4
    have h1 := h0.below b1
    clear b1 h0
    obtain ⟨aa0, aa1, aa2, aa3, aa4, aaf0, aaf1, aaf2, aaf3, aaf4⟩ := facts5 h1.one
    obtain ⟨bb0, bb1, bb2, bb3, bb4, bbf0, bbf1, bbf2, bbf3, bbf4⟩ := facts5 h1.two
    obtain ⟨cc0, cc1, cc2, cc3, cc4, ccf0, ccf1, ccf2, ccf3, ccf4⟩ := facts5 h1.tre
    go_wp2_with fail
    by_cases ey : y = 0
    · subst ey
      refine (CB.out _).mono ?_
      rintro e w2 ⟨rfl, b2⟩
      clear aa0 aa1 aa2 aa3 aa4 aaf0 aaf1 aaf2 aaf3 aaf4 bb0 bb1 bb2 bb3 bb4 bbf0 bbf1 bbf2 bbf3 bbf4 cc0 cc1 cc2 cc3 cc4 ccf0 ccf1 ccf2 ccf3 ccf4
      have h2 := h1.below b2
      clear b2 h1
      obtain ⟨aa0, aa1, aa2, aa3, aa4, aaf0, aaf1, aaf2, aaf3, aaf4⟩ := facts5 h2.one
      obtain ⟨bb0, bb1, bb2, bb3, bb4, bbf0, bbf1, bbf2, bbf3, bbf4⟩ := facts5 h2.two
      obtain ⟨cc0, cc1, cc2, cc3, cc4, ccf0, ccf1, ccf2, ccf3, ccf4⟩ := facts5 h2.tre
      go_wp2_with fail
      by_cases eu : u = 0
      · subst eu
        refine (CC.out _).mono ?_
        rintro e w3 ⟨rfl, b3⟩
        clear aa0 aa1 aa2 aa3 aa4 aaf0 aaf1 aaf2 aaf3 aaf4 bb0 bb1 bb2 bb3 bb4 bbf0 bbf1 bbf2 bbf3 bbf4 cc0 cc1 cc2 cc3 cc4 ccf0 ccf1 ccf2 ccf3 ccf4
        have h3 := h2.below b3
        clear b3 h2
        obtain ⟨aa0, aa1, aa2, aa3, aa4, aaf0, aaf1, aaf2, aaf3, aaf4⟩ := facts5 h3.one
        obtain ⟨bb0, bb1, bb2, bb3, bb4, bbf0, bbf1, bbf2, bbf3, bbf4⟩ := facts5 h3.two
        obtain ⟨cc0, cc1, cc2, cc3, cc4, ccf0, ccf1, ccf2, ccf3, ccf4⟩ := facts5 h3.tre
        by_cases da : a.d = b.d
        · have qa : (a.d == b.d) = true := by simp [da]
          have DA := Lib.hid da
          clear da
          by_cases db : b.d = c.d
          · have qb : (b.d == c.d) = true := by simp [db]
            have DB := Lib.hid db
            clear db
            go_wp2_with fail
            have db := DB.out
            have da := DA.out
            go_ret
            have hv : okB a b c = true := okB_iff.2 (by rw [HX.out, HY.out, HU.out]; omega)
            rw [HZ.out] at hv
            subst hv
            exact ⟨rfl, h3.old⟩
          · have qb : (b.d == c.d) = false := no_beq db
            go_wp2_with fail
            have da := DA.out
            go_ret
            have hv : okB a b c = false := okB_no (by rw [HX.out, HY.out, HU.out]; omega)
            rw [HZ.out] at hv
            subst hv
            exact ⟨rfl, h3.old⟩
        · have qa : (a.d == b.d) = false := no_beq da
          go_wp2_with fail
          go_ret
          have hv : okB a b c = false := okB_no (by rw [HX.out, HY.out, HU.out]; omega)
          rw [HZ.out] at hv
          subst hv
          exact ⟨rfl, h3.old⟩
      · have ku := no_beq eu
        refine (CC.out _).mono ?_
        rintro e w3 ⟨rfl, b3⟩
        clear aa0 aa1 aa2 aa3 aa4 aaf0 aaf1 aaf2 aaf3 aaf4 bb0 bb1 bb2 bb3 bb4 bbf0 bbf1 bbf2 bbf3 bbf4 cc0 cc1 cc2 cc3 cc4 ccf0 ccf1 ccf2 ccf3 ccf4
        have h3 := h2.below b3
        clear b3 h2
        obtain ⟨aa0, aa1, aa2, aa3, aa4, aaf0, aaf1, aaf2, aaf3, aaf4⟩ := facts5 h3.one
        obtain ⟨bb0, bb1, bb2, bb3, bb4, bbf0, bbf1, bbf2, bbf3, bbf4⟩ := facts5 h3.two
        obtain ⟨cc0, cc1, cc2, cc3, cc4, ccf0, ccf1, ccf2, ccf3, ccf4⟩ := facts5 h3.tre
        go_wp2_with fail
        go_ret
        have hv : okB a b c = false := okB_no (by rw [HX.out, HY.out, HU.out]; omega)
        rw [HZ.out] at hv
        subst hv
        exact ⟨rfl, h3.old⟩
    · have ky := no_beq ey
      refine (CB.out _).mono ?_
      rintro e w2 ⟨rfl, b2⟩
      clear aa0 aa1 aa2 aa3 aa4 aaf0 aaf1 aaf2 aaf3 aaf4 bb0 bb1 bb2 bb3 bb4 bbf0 bbf1 bbf2 bbf3 bbf4 cc0 cc1 cc2 cc3 cc4 ccf0 ccf1 ccf2 ccf3 ccf4
      have h2 := h1.below b2
      clear b2 h1
      obtain ⟨aa0, aa1, aa2, aa3, aa4, aaf0, aaf1, aaf2, aaf3, aaf4⟩ := facts5 h2.one
      obtain ⟨bb0, bb1, bb2, bb3, bb4, bbf0, bbf1, bbf2, bbf3, bbf4⟩ := facts5 h2.two
      obtain ⟨cc0, cc1, cc2, cc3, cc4, ccf0, ccf1, ccf2, ccf3, ccf4⟩ := facts5 h2.tre
      go_wp2_with fail
      go_ret
      have hv : okB a b c = false := okB_no (by rw [HX.out, HY.out, HU.out]; omega)
      rw [HZ.out] at hv
      subst hv
      exact ⟨rfl, h2.old⟩
  · have kx := no_beq ex
    refine (CA.out _).mono ?_
    rintro e w1 ⟨rfl, b1⟩
    clear aa0 aa1 aa2 aa3 aa4 aaf0 aaf1 aaf2 aaf3 aaf4 bb0 bb1 bb2 bb3 bb4 bbf0 bbf1 bbf2 bbf3 bbf4 cc0 cc1 cc2 cc3 cc4 ccf0 ccf1 ccf2 ccf3 ccf4
    have h1 := h0.below b1
    clear b1 h0
    obtain ⟨aa0, aa1, aa2, aa3, aa4, aaf0, aaf1, aaf2, aaf3, aaf4⟩ := facts5 h1.one
    obtain ⟨bb0, bb1, bb2, bb3, bb4, bbf0, bbf1, bbf2, bbf3, bbf4⟩ := facts5 h1.two
    obtain ⟨cc0, cc1, cc2, cc3, cc4, ccf0, ccf1, ccf2, ccf3, ccf4⟩ := facts5 h1.tre
    go_wp2_with fail
    go_ret
    have hv : okB a b c = false := okB_no (by rw [HX.out, HY.out, HU.out]; omega)
    rw [HZ.out] at hv
    subst hv
    exact ⟨rfl, h1.old⟩
end Go.Proofs.YtehcnnjhgiiehaaDoor.stamp
