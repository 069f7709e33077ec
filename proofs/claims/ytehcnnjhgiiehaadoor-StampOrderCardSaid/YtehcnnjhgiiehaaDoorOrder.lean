/-
  StampOrder: LE is an order, Compare one of all times, and both go along.
-/
import Derived.Test.YtehcnnjhgiiehaaDoorLift
import Derived.Test.YtehcnnjhgiiehaaDoorWorks
import Derived.Test.YtehcnnjhgiiehaaDoorOk
import Derived.Test.YtehcnnjhgiiehaaDoorOrd
import Derived.Test.YtehcnnjhgiiehaaDoorLe
import Derived.Test.YtehcnnjhgiiehaaDoorCmp
import Derived.Test.YtehcnnjhgiiehaaDoorEq
import Derived.Test.YtehcnnjhgiiehaaDoorTie
import Derived.Test.YtehcnnjhgiiehaaDoorCards
namespace Go.Proofs.YtehcnnjhgiiehaaDoor.stampOrder
open Go.ChangeShapes Go.WideShapes Go.ChangeAt Go.RowKit
open Go.Proofs.YtehcnnjhgiiehaaDoor.tm Go.Proofs.YtehcnnjhgiiehaaDoor.opened Go.Proofs.YtehcnnjhgiiehaaDoor.block Go.Proofs.YtehcnnjhgiiehaaDoor.stamp

theorem le_of {s t : Tm} {v : Bool} (i : s.In) (j : t.In) (h : leB s t = v) : Hid (∀ W, Calls Tryd.prog 14 #[.agg #[.int .u32 s.e, .int .i64 s.d, .int .u32 s.a, .int .u32 s.b, .int .u32 s.c], .agg #[.int .u32 t.e, .int .i64 t.d, .int .u32 t.a, .int .u32 t.b, .int .u32 t.c]] W fun e w' => e = .returned (.bool v) ∧ Below W.heap.size W w') := Lib.hid (h ▸ le_any s t i j)
theorem cmp_of {s t : Tm} {v : Int} (i : s.In) (j : t.In) (h : cmpT s t = v) : Hid (∀ W, Calls Tryd.prog 15 #[.agg #[.int .u32 s.e, .int .i64 s.d, .int .u32 s.a, .int .u32 s.b, .int .u32 s.c], .agg #[.int .u32 t.e, .int .i64 t.d, .int .u32 t.a, .int .u32 t.b, .int .u32 t.c]] W fun e w' => e = .returned (.int .i64 v) ∧ Below W.heap.size W w') := Lib.hid (h ▸ compare_any s t i j)
theorem since_reads {W : World} {g : Nat} {a b c d e : Value} (h : Whole W g 25 #[a, b, c, d, e]) :
    (∀ x : Since W, x.1.cell? ⟨g, 0, none⟩ = some a) ∧ (∀ x : Since W, x.1.cell? ⟨g, 1, none⟩ = some b) ∧ (∀ x : Since W, x.1.cell? ⟨g, 2, none⟩ = some c) ∧ (∀ x : Since W, x.1.cell? ⟨g, 3, none⟩ = some d) ∧ (∀ x : Since W, x.1.cell? ⟨g, 4, none⟩ = some e) :=
  ⟨fun x => (h.below x.2 h.inside).read 0, fun x => (h.below x.2 h.inside).read 1, fun x => (h.below x.2 h.inside).read 2, fun x => (h.below x.2 h.inside).read 3, fun x => (h.below x.2 h.inside).read 4⟩
set_option maxRecDepth 100000 in
set_option maxHeartbeats 1000000 in
theorem walkT (a b c : Tm) (i : a.In) (j : b.In) (k : c.In) (w : World) (hE : Env w) : Calls Tryd.prog 4 #[.agg #[.int .u32 a.e, .int .i64 a.d, .int .u32 a.a, .int .u32 a.b, .int .u32 a.c], .agg #[.int .u32 b.e, .int .i64 b.d, .int .u32 b.a, .int .u32 b.b, .int .u32 b.c], .agg #[.int .u32 c.e, .int .i64 c.d, .int .u32 c.a, .int .u32 c.b, .int .u32 c.c]] w fun e w' => e = .returned (.bool true) ∧ Below w.heap.size w w' := by
  go_enter Tryd.func4, Tryd.ntmps4
  have h0 := Tri.fresh w a b c
  go_wp2_with fail
  refine (works_any _ (hE.below h0.old)).mono ?_
  rintro e w1 ⟨rfl, b1⟩
  have h1 := h0.below b1
  clear b1 h0
  have hg := h1.base
  generalize w.heap.size = g at h1 hg ⊢
  have HG := Lib.hid hg
  clear hg
  go_upto_region 3 with fail
  go_cut [17] from 7 to 17 (fun s wx => s = .bool false ∧ Tri w wx g a b c)
  case first =>
    obtain ⟨aa0, aa1, aa2, aa3, aa4, aaf0, aaf1, aaf2, aaf3, aaf4⟩ := facts5 h1.one
    obtain ⟨bb0, bb1, bb2, bb3, bb4, bbf0, bbf1, bbf2, bbf3, bbf4⟩ := facts5 h1.two
    obtain ⟨cc0, cc1, cc2, cc3, cc4, ccf0, ccf1, ccf2, ccf3, ccf4⟩ := facts5 h1.tre
    go_wp2_with fail
    by_cases ex : chk a = 0
    · have CA := fact_of i ex
      have LA := le_of i i (leB_refl ex)
      clear ex
      refine (CA.out _).mono ?_
      rintro e w2 ⟨rfl, b2⟩
      clear aa0 aa1 aa2 aa3 aa4 aaf0 aaf1 aaf2 aaf3 aaf4 bb0 bb1 bb2 bb3 bb4 bbf0 bbf1 bbf2 bbf3 bbf4 cc0 cc1 cc2 cc3 cc4 ccf0 ccf1 ccf2 ccf3 ccf4
      have h2 := h1.below b2
      clear b2 h1
      obtain ⟨aa0, aa1, aa2, aa3, aa4, aaf0, aaf1, aaf2, aaf3, aaf4⟩ := facts5 h2.one
      obtain ⟨bb0, bb1, bb2, bb3, bb4, bbf0, bbf1, bbf2, bbf3, bbf4⟩ := facts5 h2.two
      obtain ⟨cc0, cc1, cc2, cc3, cc4, ccf0, ccf1, ccf2, ccf3, ccf4⟩ := facts5 h2.tre
      go_wp2_with fail
      refine (LA.out _).mono ?_
      rintro e w3 ⟨rfl, b3⟩
      clear aa0 aa1 aa2 aa3 aa4 aaf0 aaf1 aaf2 aaf3 aaf4 bb0 bb1 bb2 bb3 bb4 bbf0 bbf1 bbf2 bbf3 bbf4 cc0 cc1 cc2 cc3 cc4 ccf0 ccf1 ccf2 ccf3 ccf4
      have h3 := h2.below b3
      clear b3 h2
      obtain ⟨aa0, aa1, aa2, aa3, aa4, aaf0, aaf1, aaf2, aaf3, aaf4⟩ := facts5 h3.one
      obtain ⟨bb0, bb1, bb2, bb3, bb4, bbf0, bbf1, bbf2, bbf3, bbf4⟩ := facts5 h3.two
      obtain ⟨cc0, cc1, cc2, cc3, cc4, ccf0, ccf1, ccf2, ccf3, ccf4⟩ := facts5 h3.tre
      go_wp2_with fail
      go_meet
      exact ⟨rfl, h3⟩
    · generalize hx : chk a = x at ex
      have CA := fact_of i hx
      clear hx
      have kx := no_beq ex
      refine (CA.out _).mono ?_
      rintro e w2 ⟨rfl, b2⟩
      clear aa0 aa1 aa2 aa3 aa4 aaf0 aaf1 aaf2 aaf3 aaf4 bb0 bb1 bb2 bb3 bb4 bbf0 bbf1 bbf2 bbf3 bbf4 cc0 cc1 cc2 cc3 cc4 ccf0 ccf1 ccf2 ccf3 ccf4
      have h2 := h1.below b2
      clear b2 h1
      obtain ⟨aa0, aa1, aa2, aa3, aa4, aaf0, aaf1, aaf2, aaf3, aaf4⟩ := facts5 h2.one
      obtain ⟨bb0, bb1, bb2, bb3, bb4, bbf0, bbf1, bbf2, bbf3, bbf4⟩ := facts5 h2.two
      obtain ⟨cc0, cc1, cc2, cc3, cc4, ccf0, ccf1, ccf2, ccf3, ccf4⟩ := facts5 h2.tre
      go_wp2_with fail
      go_meet
      exact ⟨rfl, h2⟩
  clear h1
  obtain ⟨rfl, h1⟩ := hcut
  go_upto_region 5 with fail
  go_cut [31] from 7 to 31 (fun s wx => s = .bool false ∧ Tri w wx g a b c)
  case first =>
    obtain ⟨aa0, aa1, aa2, aa3, aa4, aaf0, aaf1, aaf2, aaf3, aaf4⟩ := facts5 h1.one
    obtain ⟨bb0, bb1, bb2, bb3, bb4, bbf0, bbf1, bbf2, bbf3, bbf4⟩ := facts5 h1.two
    obtain ⟨cc0, cc1, cc2, cc3, cc4, ccf0, ccf1, ccf2, ccf3, ccf4⟩ := facts5 h1.tre
    go_wp2_with fail
    by_cases p1 : leB a b = true
    · by_cases p2 : leB b c = true
      · have L1 := le_of i j p1
        have L2 := le_of j k p2
        have L3 := le_of i k (leB_trans p1 p2)
        clear p1 p2
        refine (L1.out _).mono ?_
        rintro e w2 ⟨rfl, b2⟩
        clear aa0 aa1 aa2 aa3 aa4 aaf0 aaf1 aaf2 aaf3 aaf4 bb0 bb1 bb2 bb3 bb4 bbf0 bbf1 bbf2 bbf3 bbf4 cc0 cc1 cc2 cc3 cc4 ccf0 ccf1 ccf2 ccf3 ccf4
        have h2 := h1.below b2
        clear b2 h1
        obtain ⟨aa0, aa1, aa2, aa3, aa4, aaf0, aaf1, aaf2, aaf3, aaf4⟩ := facts5 h2.one
        obtain ⟨bb0, bb1, bb2, bb3, bb4, bbf0, bbf1, bbf2, bbf3, bbf4⟩ := facts5 h2.two
        obtain ⟨cc0, cc1, cc2, cc3, cc4, ccf0, ccf1, ccf2, ccf3, ccf4⟩ := facts5 h2.tre
        go_wp2_with fail
        refine (L2.out _).mono ?_
        rintro e w3 ⟨rfl, b3⟩
        clear aa0 aa1 aa2 aa3 aa4 aaf0 aaf1 aaf2 aaf3 aaf4 bb0 bb1 bb2 bb3 bb4 bbf0 bbf1 bbf2 bbf3 bbf4 cc0 cc1 cc2 cc3 cc4 ccf0 ccf1 ccf2 ccf3 ccf4
        have h3 := h2.below b3
        clear b3 h2
        obtain ⟨aa0, aa1, aa2, aa3, aa4, aaf0, aaf1, aaf2, aaf3, aaf4⟩ := facts5 h3.one
        obtain ⟨bb0, bb1, bb2, bb3, bb4, bbf0, bbf1, bbf2, bbf3, bbf4⟩ := facts5 h3.two
        obtain ⟨cc0, cc1, cc2, cc3, cc4, ccf0, ccf1, ccf2, ccf3, ccf4⟩ := facts5 h3.tre
        go_wp2_with fail
        refine (L3.out _).mono ?_
        rintro e w4 ⟨rfl, b4⟩
        clear aa0 aa1 aa2 aa3 aa4 aaf0 aaf1 aaf2 aaf3 aaf4 bb0 bb1 bb2 bb3 bb4 bbf0 bbf1 bbf2 bbf3 bbf4 cc0 cc1 cc2 cc3 cc4 ccf0 ccf1 ccf2 ccf3 ccf4
        have h4 := h3.below b4
        clear b4 h3
        obtain ⟨aa0, aa1, aa2, aa3, aa4, aaf0, aaf1, aaf2, aaf3, aaf4⟩ := facts5 h4.one
        obtain ⟨bb0, bb1, bb2, bb3, bb4, bbf0, bbf1, bbf2, bbf3, bbf4⟩ := facts5 h4.two
        obtain ⟨cc0, cc1, cc2, cc3, cc4, ccf0, ccf1, ccf2, ccf3, ccf4⟩ := facts5 h4.tre
        go_wp2_with fail
        go_meet
        exact ⟨rfl, h4⟩
      · have L1 := le_of i j p1
        have L2 := le_of j k (Bool.eq_false_iff.2 p2)
        clear p1 p2
        refine (L1.out _).mono ?_
        rintro e w2 ⟨rfl, b2⟩
        clear aa0 aa1 aa2 aa3 aa4 aaf0 aaf1 aaf2 aaf3 aaf4 bb0 bb1 bb2 bb3 bb4 bbf0 bbf1 bbf2 bbf3 bbf4 cc0 cc1 cc2 cc3 cc4 ccf0 ccf1 ccf2 ccf3 ccf4
        have h2 := h1.below b2
        clear b2 h1
        obtain ⟨aa0, aa1, aa2, aa3, aa4, aaf0, aaf1, aaf2, aaf3, aaf4⟩ := facts5 h2.one
        obtain ⟨bb0, bb1, bb2, bb3, bb4, bbf0, bbf1, bbf2, bbf3, bbf4⟩ := facts5 h2.two
        obtain ⟨cc0, cc1, cc2, cc3, cc4, ccf0, ccf1, ccf2, ccf3, ccf4⟩ := facts5 h2.tre
        go_wp2_with fail
        refine (L2.out _).mono ?_
        rintro e w3 ⟨rfl, b3⟩
        clear aa0 aa1 aa2 aa3 aa4 aaf0 aaf1 aaf2 aaf3 aaf4 bb0 bb1 bb2 bb3 bb4 bbf0 bbf1 bbf2 bbf3 bbf4 cc0 cc1 cc2 cc3 cc4 ccf0 ccf1 ccf2 ccf3 ccf4
        have h3 := h2.below b3
        clear b3 h2
        obtain ⟨aa0, aa1, aa2, aa3, aa4, aaf0, aaf1, aaf2, aaf3, aaf4⟩ := facts5 h3.one
        obtain ⟨bb0, bb1, bb2, bb3, bb4, bbf0, bbf1, bbf2, bbf3, bbf4⟩ := facts5 h3.two
        obtain ⟨cc0, cc1, cc2, cc3, cc4, ccf0, ccf1, ccf2, ccf3, ccf4⟩ := facts5 h3.tre
        go_wp2_with fail
        go_meet
        exact ⟨rfl, h3⟩
    · have L1 := le_of i j (Bool.eq_false_iff.2 p1)
      clear p1
      refine (L1.out _).mono ?_
      rintro e w2 ⟨rfl, b2⟩
      clear aa0 aa1 aa2 aa3 aa4 aaf0 aaf1 aaf2 aaf3 aaf4 bb0 bb1 bb2 bb3 bb4 bbf0 bbf1 bbf2 bbf3 bbf4 cc0 cc1 cc2 cc3 cc4 ccf0 ccf1 ccf2 ccf3 ccf4
      have h2 := h1.below b2
      clear b2 h1
      obtain ⟨aa0, aa1, aa2, aa3, aa4, aaf0, aaf1, aaf2, aaf3, aaf4⟩ := facts5 h2.one
      obtain ⟨bb0, bb1, bb2, bb3, bb4, bbf0, bbf1, bbf2, bbf3, bbf4⟩ := facts5 h2.two
      obtain ⟨cc0, cc1, cc2, cc3, cc4, ccf0, ccf1, ccf2, ccf3, ccf4⟩ := facts5 h2.tre
      go_wp2_with fail
      go_meet
      exact ⟨rfl, h2⟩
  clear h1
  obtain ⟨rfl, h1⟩ := hcut
  go_upto_region 7 with fail
  go_cut [47] from 7 to 47 (fun s wx => s = .bool false ∧ Tri w wx g a b c)
  case first =>
    obtain ⟨aa0, aa1, aa2, aa3, aa4, aaf0, aaf1, aaf2, aaf3, aaf4⟩ := facts5 h1.one
    obtain ⟨bb0, bb1, bb2, bb3, bb4, bbf0, bbf1, bbf2, bbf3, bbf4⟩ := facts5 h1.two
    obtain ⟨cc0, cc1, cc2, cc3, cc4, ccf0, ccf1, ccf2, ccf3, ccf4⟩ := facts5 h1.tre
    go_wp2_with fail
    have ht : cmpT a b ≤ 0 → cmpT b c ≤ 0 → cmpT a c ≤ 0 := cmpT_trans
    obtain ⟨x, hx⟩ : ∃ x, cmpT a b = x := ⟨_, rfl⟩
    obtain ⟨y, hy⟩ : ∃ y, cmpT b c = y := ⟨_, rfl⟩
    obtain ⟨u, hu⟩ : ∃ u, cmpT a c = u := ⟨_, rfl⟩
    rw [hx, hy, hu] at ht
    have L1 := cmp_of i j hx
    have L2 := cmp_of j k hy
    have L3 := cmp_of i k hu
    clear hx hy hu
    by_cases p1 : x ≤ 0
    · by_cases p2 : y ≤ 0
      · have p3 : ¬ 0 < u := by have := ht p1 p2; omega
        clear ht
        refine (L1.out _).mono ?_
        rintro e w2 ⟨rfl, b2⟩
        clear aa0 aa1 aa2 aa3 aa4 aaf0 aaf1 aaf2 aaf3 aaf4 bb0 bb1 bb2 bb3 bb4 bbf0 bbf1 bbf2 bbf3 bbf4 cc0 cc1 cc2 cc3 cc4 ccf0 ccf1 ccf2 ccf3 ccf4
        have h2 := h1.below b2
        clear b2 h1
        obtain ⟨aa0, aa1, aa2, aa3, aa4, aaf0, aaf1, aaf2, aaf3, aaf4⟩ := facts5 h2.one
        obtain ⟨bb0, bb1, bb2, bb3, bb4, bbf0, bbf1, bbf2, bbf3, bbf4⟩ := facts5 h2.two
        obtain ⟨cc0, cc1, cc2, cc3, cc4, ccf0, ccf1, ccf2, ccf3, ccf4⟩ := facts5 h2.tre
        go_wp2_with fail
        refine (L2.out _).mono ?_
        rintro e w3 ⟨rfl, b3⟩
        clear aa0 aa1 aa2 aa3 aa4 aaf0 aaf1 aaf2 aaf3 aaf4 bb0 bb1 bb2 bb3 bb4 bbf0 bbf1 bbf2 bbf3 bbf4 cc0 cc1 cc2 cc3 cc4 ccf0 ccf1 ccf2 ccf3 ccf4
        have h3 := h2.below b3
        clear b3 h2
        obtain ⟨aa0, aa1, aa2, aa3, aa4, aaf0, aaf1, aaf2, aaf3, aaf4⟩ := facts5 h3.one
        obtain ⟨bb0, bb1, bb2, bb3, bb4, bbf0, bbf1, bbf2, bbf3, bbf4⟩ := facts5 h3.two
        obtain ⟨cc0, cc1, cc2, cc3, cc4, ccf0, ccf1, ccf2, ccf3, ccf4⟩ := facts5 h3.tre
        go_wp2_with fail
        refine (L3.out _).mono ?_
        rintro e w4 ⟨rfl, b4⟩
        clear aa0 aa1 aa2 aa3 aa4 aaf0 aaf1 aaf2 aaf3 aaf4 bb0 bb1 bb2 bb3 bb4 bbf0 bbf1 bbf2 bbf3 bbf4 cc0 cc1 cc2 cc3 cc4 ccf0 ccf1 ccf2 ccf3 ccf4
        have h4 := h3.below b4
        clear b4 h3
        obtain ⟨aa0, aa1, aa2, aa3, aa4, aaf0, aaf1, aaf2, aaf3, aaf4⟩ := facts5 h4.one
        obtain ⟨bb0, bb1, bb2, bb3, bb4, bbf0, bbf1, bbf2, bbf3, bbf4⟩ := facts5 h4.two
        obtain ⟨cc0, cc1, cc2, cc3, cc4, ccf0, ccf1, ccf2, ccf3, ccf4⟩ := facts5 h4.tre
        go_wp2_with fail
        go_meet
        exact ⟨by first | rfl | simp [p3] | simp [decide_eq_false p3], h4⟩
      · clear ht
        refine (L1.out _).mono ?_
        rintro e w2 ⟨rfl, b2⟩
        clear aa0 aa1 aa2 aa3 aa4 aaf0 aaf1 aaf2 aaf3 aaf4 bb0 bb1 bb2 bb3 bb4 bbf0 bbf1 bbf2 bbf3 bbf4 cc0 cc1 cc2 cc3 cc4 ccf0 ccf1 ccf2 ccf3 ccf4
        have h2 := h1.below b2
        clear b2 h1
        obtain ⟨aa0, aa1, aa2, aa3, aa4, aaf0, aaf1, aaf2, aaf3, aaf4⟩ := facts5 h2.one
        obtain ⟨bb0, bb1, bb2, bb3, bb4, bbf0, bbf1, bbf2, bbf3, bbf4⟩ := facts5 h2.two
        obtain ⟨cc0, cc1, cc2, cc3, cc4, ccf0, ccf1, ccf2, ccf3, ccf4⟩ := facts5 h2.tre
        go_wp2_with fail
        refine (L2.out _).mono ?_
        rintro e w3 ⟨rfl, b3⟩
        clear aa0 aa1 aa2 aa3 aa4 aaf0 aaf1 aaf2 aaf3 aaf4 bb0 bb1 bb2 bb3 bb4 bbf0 bbf1 bbf2 bbf3 bbf4 cc0 cc1 cc2 cc3 cc4 ccf0 ccf1 ccf2 ccf3 ccf4
        have h3 := h2.below b3
        clear b3 h2
        obtain ⟨aa0, aa1, aa2, aa3, aa4, aaf0, aaf1, aaf2, aaf3, aaf4⟩ := facts5 h3.one
        obtain ⟨bb0, bb1, bb2, bb3, bb4, bbf0, bbf1, bbf2, bbf3, bbf4⟩ := facts5 h3.two
        obtain ⟨cc0, cc1, cc2, cc3, cc4, ccf0, ccf1, ccf2, ccf3, ccf4⟩ := facts5 h3.tre
        go_wp2_with fail
        go_meet
        exact ⟨rfl, h3⟩
    · clear ht
      refine (L1.out _).mono ?_
      rintro e w2 ⟨rfl, b2⟩
      clear aa0 aa1 aa2 aa3 aa4 aaf0 aaf1 aaf2 aaf3 aaf4 bb0 bb1 bb2 bb3 bb4 bbf0 bbf1 bbf2 bbf3 bbf4 cc0 cc1 cc2 cc3 cc4 ccf0 ccf1 ccf2 ccf3 ccf4
      have h2 := h1.below b2
      clear b2 h1
      obtain ⟨aa0, aa1, aa2, aa3, aa4, aaf0, aaf1, aaf2, aaf3, aaf4⟩ := facts5 h2.one
      obtain ⟨bb0, bb1, bb2, bb3, bb4, bbf0, bbf1, bbf2, bbf3, bbf4⟩ := facts5 h2.two
      obtain ⟨cc0, cc1, cc2, cc3, cc4, ccf0, ccf1, ccf2, ccf3, ccf4⟩ := facts5 h2.tre
      go_wp2_with fail
      go_meet
      exact ⟨rfl, h2⟩
  clear h1
  obtain ⟨rfl, h1⟩ := hcut
  go_upto_region 9 with fail
  go_cut [65] from 7 to 65 (fun s wx => s = .bool false ∧ Tri w wx g a b c)
  case first =>
    obtain ⟨x, hx⟩ : ∃ x, cmpT a b = x := ⟨_, rfl⟩
    have L1 := cmp_of i j hx
    have L2 := cmp_of j i (cmpT_neg a b)
    rw [hx] at L2
    have hb := cmpT_bound a b
    have hz : x = 0 ↔ a = b := hx ▸ cmpT_zero
    rw [hx] at hb
    clear hx
    have hw : IntKind.i64.wrap (- -x) = x := by
      have : x = -1 ∨ x = 0 ∨ x = 1 := by omega
      rcases this with rfl | rfl | rfl <;> rfl
    have hw2 : IntKind.i64.wrap x = x := by rw [Int.neg_neg] at hw; exact hw
    clear hb
    by_cases ex : x = 0
    · have hab := hz.1 ex
      clear hz
      subst ex
      have he : ∀ W, (binOp .eql 25 (.agg #[.int .u32 a.e, .int .i64 a.d, .int .u32 a.a, .int .u32 a.b, .int .u32 a.c]) (.agg #[.int .u32 b.e, .int .i64 b.d, .int .u32 b.a, .int .u32 b.b, .int .u32 b.c])).run Tryd.prog W = .ok (.bool true) W := fun W => by rw [run_eqT, eqT_iff.2 hab]
      clear hab hw hw2
      obtain ⟨p0, p1, p2, p3, p4⟩ := since_reads h1.one
      obtain ⟨q0, q1, q2, q3, q4⟩ := since_reads h1.two
      refine region_since _ (by kernel_rfl) (by kernel_rfl) (Below.refl _ _) ?_
      repeat (go_big_quiet_step ((first | (go_at_call 15; with_reducible exact since_call L1.out _) | (go_at_call 15; with_reducible exact since_call L2.out _))))
      refine wpQuiet_nil ?_
      rintro w4 ⟨x, hw⟩
      have h4 := h1.below (hw ▸ x.2)
      clear hw x
      go_wp2_with fail
      go_meet
      exact ⟨rfl, h4⟩
    · have hab : ¬ a = b := fun h => ex (hz.2 h)
      clear hz
      have kx := no_beq ex
      clear ex
      have he : ∀ W, (binOp .eql 25 (.agg #[.int .u32 a.e, .int .i64 a.d, .int .u32 a.a, .int .u32 a.b, .int .u32 a.c]) (.agg #[.int .u32 b.e, .int .i64 b.d, .int .u32 b.a, .int .u32 b.b, .int .u32 b.c])).run Tryd.prog W = .ok (.bool false) W := fun W => by rw [run_eqT, eqT_no hab]
      clear hab
      obtain ⟨p0, p1, p2, p3, p4⟩ := since_reads h1.one
      obtain ⟨q0, q1, q2, q3, q4⟩ := since_reads h1.two
      refine region_since _ (by kernel_rfl) (by kernel_rfl) (Below.refl _ _) ?_
      repeat (go_big_quiet_step ((first | (go_at_call 15; with_reducible exact since_call L1.out _) | (go_at_call 15; with_reducible exact since_call L2.out _))))
      refine wpQuiet_nil ?_
      rintro w4 ⟨x, hw⟩
      have h4 := h1.below (hw ▸ x.2)
      clear hw x
      go_wp2_with fail
      go_meet
      exact ⟨rfl, h4⟩
  clear h1
  obtain ⟨rfl, h1⟩ := hcut
  obtain ⟨aa0, aa1, aa2, aa3, aa4, aaf0, aaf1, aaf2, aaf3, aaf4⟩ := facts5 h1.one
  obtain ⟨bb0, bb1, bb2, bb3, bb4, bbf0, bbf1, bbf2, bbf3, bbf4⟩ := facts5 h1.two
  obtain ⟨cc0, cc1, cc2, cc3, cc4, ccf0, ccf1, ccf2, ccf3, ccf4⟩ := facts5 h1.tre
  go_wp2_with fail
  by_cases o : okB a b c = true
  · obtain ⟨ca, cb, -, -, -⟩ := okB_iff.1 o
    have OK : Hid (∀ W, Calls Tryd.prog 16 #[.agg #[.int .u32 a.e, .int .i64 a.d, .int .u32 a.a, .int .u32 a.b, .int .u32 a.c], .agg #[.int .u32 b.e, .int .i64 b.d, .int .u32 b.a, .int .u32 b.b, .int .u32 b.c], .agg #[.int .u32 c.e, .int .i64 c.d, .int .u32 c.a, .int .u32 c.b, .int .u32 c.c]] W fun e w' => e = .returned (.bool true) ∧ Below W.heap.size W w') := Lib.hid (o ▸ ok_any a b c i j k)
    clear o
    by_cases p1 : leB a b = true
    · have L1 := le_of i j p1
      have p3 := leB_cmp ca cb p1
      generalize hx : cmpT a b = x at p3
      have C1 := cmp_of i j hx
      clear hx
      by_cases p2 : leB b a = true
      · have L2 := le_of j i p2
        have he : ∀ W, (binOp .eql 25 (.agg #[.int .u32 a.e, .int .i64 a.d, .int .u32 a.a, .int .u32 a.b, .int .u32 a.c]) (.agg #[.int .u32 b.e, .int .i64 b.d, .int .u32 b.a, .int .u32 b.b, .int .u32 b.c])).run Tryd.prog W = .ok (.bool true) W := fun W => by rw [run_eqT, eqT_iff.2 (leB_anti ca cb p1 p2)]
        clear p1 p2 ca cb
        refine (OK.out _).mono ?_
        rintro e w2 ⟨rfl, b2⟩
        clear aa0 aa1 aa2 aa3 aa4 aaf0 aaf1 aaf2 aaf3 aaf4 bb0 bb1 bb2 bb3 bb4 bbf0 bbf1 bbf2 bbf3 bbf4 cc0 cc1 cc2 cc3 cc4 ccf0 ccf1 ccf2 ccf3 ccf4
        have h2 := h1.below b2
        clear b2 h1
        obtain ⟨aa0, aa1, aa2, aa3, aa4, aaf0, aaf1, aaf2, aaf3, aaf4⟩ := facts5 h2.one
        obtain ⟨bb0, bb1, bb2, bb3, bb4, bbf0, bbf1, bbf2, bbf3, bbf4⟩ := facts5 h2.two
        obtain ⟨cc0, cc1, cc2, cc3, cc4, ccf0, ccf1, ccf2, ccf3, ccf4⟩ := facts5 h2.tre
        go_wp2_with fail
        refine (L1.out _).mono ?_
        rintro e w3 ⟨rfl, b3⟩
        clear aa0 aa1 aa2 aa3 aa4 aaf0 aaf1 aaf2 aaf3 aaf4 bb0 bb1 bb2 bb3 bb4 bbf0 bbf1 bbf2 bbf3 bbf4 cc0 cc1 cc2 cc3 cc4 ccf0 ccf1 ccf2 ccf3 ccf4
        have h3 := h2.below b3
        clear b3 h2
        obtain ⟨aa0, aa1, aa2, aa3, aa4, aaf0, aaf1, aaf2, aaf3, aaf4⟩ := facts5 h3.one
        obtain ⟨bb0, bb1, bb2, bb3, bb4, bbf0, bbf1, bbf2, bbf3, bbf4⟩ := facts5 h3.two
        obtain ⟨cc0, cc1, cc2, cc3, cc4, ccf0, ccf1, ccf2, ccf3, ccf4⟩ := facts5 h3.tre
        go_wp2_with fail
        refine (L2.out _).mono ?_
        rintro e w4 ⟨rfl, b4⟩
        clear aa0 aa1 aa2 aa3 aa4 aaf0 aaf1 aaf2 aaf3 aaf4 bb0 bb1 bb2 bb3 bb4 bbf0 bbf1 bbf2 bbf3 bbf4 cc0 cc1 cc2 cc3 cc4 ccf0 ccf1 ccf2 ccf3 ccf4
        have h4 := h3.below b4
        clear b4 h3
        obtain ⟨aa0, aa1, aa2, aa3, aa4, aaf0, aaf1, aaf2, aaf3, aaf4⟩ := facts5 h4.one
        obtain ⟨bb0, bb1, bb2, bb3, bb4, bbf0, bbf1, bbf2, bbf3, bbf4⟩ := facts5 h4.two
        obtain ⟨cc0, cc1, cc2, cc3, cc4, ccf0, ccf1, ccf2, ccf3, ccf4⟩ := facts5 h4.tre
        go_wp2_with fail
        refine (L1.out _).mono ?_
        rintro e w5 ⟨rfl, b5⟩
        clear aa0 aa1 aa2 aa3 aa4 aaf0 aaf1 aaf2 aaf3 aaf4 bb0 bb1 bb2 bb3 bb4 bbf0 bbf1 bbf2 bbf3 bbf4 cc0 cc1 cc2 cc3 cc4 ccf0 ccf1 ccf2 ccf3 ccf4
        have h5 := h4.below b5
        clear b5 h4
        obtain ⟨aa0, aa1, aa2, aa3, aa4, aaf0, aaf1, aaf2, aaf3, aaf4⟩ := facts5 h5.one
        obtain ⟨bb0, bb1, bb2, bb3, bb4, bbf0, bbf1, bbf2, bbf3, bbf4⟩ := facts5 h5.two
        obtain ⟨cc0, cc1, cc2, cc3, cc4, ccf0, ccf1, ccf2, ccf3, ccf4⟩ := facts5 h5.tre
        go_wp2_with fail
        refine (C1.out _).mono ?_
        rintro e w6 ⟨rfl, b6⟩
        clear aa0 aa1 aa2 aa3 aa4 aaf0 aaf1 aaf2 aaf3 aaf4 bb0 bb1 bb2 bb3 bb4 bbf0 bbf1 bbf2 bbf3 bbf4 cc0 cc1 cc2 cc3 cc4 ccf0 ccf1 ccf2 ccf3 ccf4
        have h6 := h5.below b6
        clear b6 h5
        obtain ⟨aa0, aa1, aa2, aa3, aa4, aaf0, aaf1, aaf2, aaf3, aaf4⟩ := facts5 h6.one
        obtain ⟨bb0, bb1, bb2, bb3, bb4, bbf0, bbf1, bbf2, bbf3, bbf4⟩ := facts5 h6.two
        obtain ⟨cc0, cc1, cc2, cc3, cc4, ccf0, ccf1, ccf2, ccf3, ccf4⟩ := facts5 h6.tre
        go_wp2_with fail
        go_ret
        exact ⟨by first | rfl | simp [p3], h6.old⟩
      · have L2 := le_of j i (Bool.eq_false_iff.2 p2)
        clear p1 p2 ca cb
        refine (OK.out _).mono ?_
        rintro e w2 ⟨rfl, b2⟩
        clear aa0 aa1 aa2 aa3 aa4 aaf0 aaf1 aaf2 aaf3 aaf4 bb0 bb1 bb2 bb3 bb4 bbf0 bbf1 bbf2 bbf3 bbf4 cc0 cc1 cc2 cc3 cc4 ccf0 ccf1 ccf2 ccf3 ccf4
        have h2 := h1.below b2
        clear b2 h1
        obtain ⟨aa0, aa1, aa2, aa3, aa4, aaf0, aaf1, aaf2, aaf3, aaf4⟩ := facts5 h2.one
        obtain ⟨bb0, bb1, bb2, bb3, bb4, bbf0, bbf1, bbf2, bbf3, bbf4⟩ := facts5 h2.two
        obtain ⟨cc0, cc1, cc2, cc3, cc4, ccf0, ccf1, ccf2, ccf3, ccf4⟩ := facts5 h2.tre
        go_wp2_with fail
        refine (L1.out _).mono ?_
        rintro e w3 ⟨rfl, b3⟩
        clear aa0 aa1 aa2 aa3 aa4 aaf0 aaf1 aaf2 aaf3 aaf4 bb0 bb1 bb2 bb3 bb4 bbf0 bbf1 bbf2 bbf3 bbf4 cc0 cc1 cc2 cc3 cc4 ccf0 ccf1 ccf2 ccf3 ccf4
        have h3 := h2.below b3
        clear b3 h2
        obtain ⟨aa0, aa1, aa2, aa3, aa4, aaf0, aaf1, aaf2, aaf3, aaf4⟩ := facts5 h3.one
        obtain ⟨bb0, bb1, bb2, bb3, bb4, bbf0, bbf1, bbf2, bbf3, bbf4⟩ := facts5 h3.two
        obtain ⟨cc0, cc1, cc2, cc3, cc4, ccf0, ccf1, ccf2, ccf3, ccf4⟩ := facts5 h3.tre
        go_wp2_with fail
        refine (L2.out _).mono ?_
        rintro e w4 ⟨rfl, b4⟩
        clear aa0 aa1 aa2 aa3 aa4 aaf0 aaf1 aaf2 aaf3 aaf4 bb0 bb1 bb2 bb3 bb4 bbf0 bbf1 bbf2 bbf3 bbf4 cc0 cc1 cc2 cc3 cc4 ccf0 ccf1 ccf2 ccf3 ccf4
        have h4 := h3.below b4
        clear b4 h3
        obtain ⟨aa0, aa1, aa2, aa3, aa4, aaf0, aaf1, aaf2, aaf3, aaf4⟩ := facts5 h4.one
        obtain ⟨bb0, bb1, bb2, bb3, bb4, bbf0, bbf1, bbf2, bbf3, bbf4⟩ := facts5 h4.two
        obtain ⟨cc0, cc1, cc2, cc3, cc4, ccf0, ccf1, ccf2, ccf3, ccf4⟩ := facts5 h4.tre
        go_wp2_with fail
        refine (L1.out _).mono ?_
        rintro e w5 ⟨rfl, b5⟩
        clear aa0 aa1 aa2 aa3 aa4 aaf0 aaf1 aaf2 aaf3 aaf4 bb0 bb1 bb2 bb3 bb4 bbf0 bbf1 bbf2 bbf3 bbf4 cc0 cc1 cc2 cc3 cc4 ccf0 ccf1 ccf2 ccf3 ccf4
        have h5 := h4.below b5
        clear b5 h4
        obtain ⟨aa0, aa1, aa2, aa3, aa4, aaf0, aaf1, aaf2, aaf3, aaf4⟩ := facts5 h5.one
        obtain ⟨bb0, bb1, bb2, bb3, bb4, bbf0, bbf1, bbf2, bbf3, bbf4⟩ := facts5 h5.two
        obtain ⟨cc0, cc1, cc2, cc3, cc4, ccf0, ccf1, ccf2, ccf3, ccf4⟩ := facts5 h5.tre
        go_wp2_with fail
        refine (C1.out _).mono ?_
        rintro e w6 ⟨rfl, b6⟩
        clear aa0 aa1 aa2 aa3 aa4 aaf0 aaf1 aaf2 aaf3 aaf4 bb0 bb1 bb2 bb3 bb4 bbf0 bbf1 bbf2 bbf3 bbf4 cc0 cc1 cc2 cc3 cc4 ccf0 ccf1 ccf2 ccf3 ccf4
        have h6 := h5.below b6
        clear b6 h5
        obtain ⟨aa0, aa1, aa2, aa3, aa4, aaf0, aaf1, aaf2, aaf3, aaf4⟩ := facts5 h6.one
        obtain ⟨bb0, bb1, bb2, bb3, bb4, bbf0, bbf1, bbf2, bbf3, bbf4⟩ := facts5 h6.two
        obtain ⟨cc0, cc1, cc2, cc3, cc4, ccf0, ccf1, ccf2, ccf3, ccf4⟩ := facts5 h6.tre
        go_wp2_with fail
        go_ret
        exact ⟨by first | rfl | simp [p3], h6.old⟩
    · have L1 := le_of i j (Bool.eq_false_iff.2 p1)
      clear p1 ca cb
      refine (OK.out _).mono ?_
      rintro e w2 ⟨rfl, b2⟩
      clear aa0 aa1 aa2 aa3 aa4 aaf0 aaf1 aaf2 aaf3 aaf4 bb0 bb1 bb2 bb3 bb4 bbf0 bbf1 bbf2 bbf3 bbf4 cc0 cc1 cc2 cc3 cc4 ccf0 ccf1 ccf2 ccf3 ccf4
      have h2 := h1.below b2
      clear b2 h1
      obtain ⟨aa0, aa1, aa2, aa3, aa4, aaf0, aaf1, aaf2, aaf3, aaf4⟩ := facts5 h2.one
      obtain ⟨bb0, bb1, bb2, bb3, bb4, bbf0, bbf1, bbf2, bbf3, bbf4⟩ := facts5 h2.two
      obtain ⟨cc0, cc1, cc2, cc3, cc4, ccf0, ccf1, ccf2, ccf3, ccf4⟩ := facts5 h2.tre
      go_wp2_with fail
      refine (L1.out _).mono ?_
      rintro e w3 ⟨rfl, b3⟩
      clear aa0 aa1 aa2 aa3 aa4 aaf0 aaf1 aaf2 aaf3 aaf4 bb0 bb1 bb2 bb3 bb4 bbf0 bbf1 bbf2 bbf3 bbf4 cc0 cc1 cc2 cc3 cc4 ccf0 ccf1 ccf2 ccf3 ccf4
      have h3 := h2.below b3
      clear b3 h2
      obtain ⟨aa0, aa1, aa2, aa3, aa4, aaf0, aaf1, aaf2, aaf3, aaf4⟩ := facts5 h3.one
      obtain ⟨bb0, bb1, bb2, bb3, bb4, bbf0, bbf1, bbf2, bbf3, bbf4⟩ := facts5 h3.two
      obtain ⟨cc0, cc1, cc2, cc3, cc4, ccf0, ccf1, ccf2, ccf3, ccf4⟩ := facts5 h3.tre
      go_wp2_with fail
      refine (L1.out _).mono ?_
      rintro e w4 ⟨rfl, b4⟩
      clear aa0 aa1 aa2 aa3 aa4 aaf0 aaf1 aaf2 aaf3 aaf4 bb0 bb1 bb2 bb3 bb4 bbf0 bbf1 bbf2 bbf3 bbf4 cc0 cc1 cc2 cc3 cc4 ccf0 ccf1 ccf2 ccf3 ccf4
      have h4 := h3.below b4
      clear b4 h3
      obtain ⟨aa0, aa1, aa2, aa3, aa4, aaf0, aaf1, aaf2, aaf3, aaf4⟩ := facts5 h4.one
      obtain ⟨bb0, bb1, bb2, bb3, bb4, bbf0, bbf1, bbf2, bbf3, bbf4⟩ := facts5 h4.two
      obtain ⟨cc0, cc1, cc2, cc3, cc4, ccf0, ccf1, ccf2, ccf3, ccf4⟩ := facts5 h4.tre
      go_wp2_with fail
      go_ret
      exact ⟨by first | rfl, h4.old⟩
  · have OK : Hid (∀ W, Calls Tryd.prog 16 #[.agg #[.int .u32 a.e, .int .i64 a.d, .int .u32 a.a, .int .u32 a.b, .int .u32 a.c], .agg #[.int .u32 b.e, .int .i64 b.d, .int .u32 b.a, .int .u32 b.b, .int .u32 b.c], .agg #[.int .u32 c.e, .int .i64 c.d, .int .u32 c.a, .int .u32 c.b, .int .u32 c.c]] W fun e w' => e = .returned (.bool false) ∧ Below W.heap.size W w') := Lib.hid ((Bool.eq_false_iff.2 o) ▸ ok_any a b c i j k)
    clear o
    refine (OK.out _).mono ?_
    rintro e w2 ⟨rfl, b2⟩
    clear aa0 aa1 aa2 aa3 aa4 aaf0 aaf1 aaf2 aaf3 aaf4 bb0 bb1 bb2 bb3 bb4 bbf0 bbf1 bbf2 bbf3 bbf4 cc0 cc1 cc2 cc3 cc4 ccf0 ccf1 ccf2 ccf3 ccf4
    have h2 := h1.below b2
    clear b2 h1
    obtain ⟨aa0, aa1, aa2, aa3, aa4, aaf0, aaf1, aaf2, aaf3, aaf4⟩ := facts5 h2.one
    obtain ⟨bb0, bb1, bb2, bb3, bb4, bbf0, bbf1, bbf2, bbf3, bbf4⟩ := facts5 h2.two
    obtain ⟨cc0, cc1, cc2, cc3, cc4, ccf0, ccf1, ccf2, ccf3, ccf4⟩ := facts5 h2.tre
    go_wp2_with fail
    go_ret
    exact ⟨by first | rfl, h2.old⟩
set_option maxRecDepth 100000 in
theorem told (W : World) (args : Array Value) (hE : Env W) (h : Fed Tryd.prog W [25, 25, 25] args) : Calls Tryd.prog 4 args W fun e W' => e = .returned (.bool true) ∧ Below W.heap.size W W' := by
  obtain ⟨v0, v1, v2, rfl⟩ := args3 h.count
  obtain ⟨⟨_, o0⟩, r0⟩ := h.each 0 25 v0 rfl rfl
  obtain ⟨⟨_, o1⟩, r1⟩ := h.each 1 25 v1 rfl rfl
  obtain ⟨⟨_, o2⟩, r2⟩ := h.each 2 25 v2 rfl rfl
  obtain ⟨a0, q0⟩ := r0 opens_time
  obtain ⟨t0, i0, rfl⟩ := top_time o0 q0
  obtain ⟨a1, q1⟩ := r1 opens_time
  obtain ⟨t1, i1, rfl⟩ := top_time o1 q1
  obtain ⟨a2, q2⟩ := r2 opens_time
  obtain ⟨t2, i2, rfl⟩ := top_time o2 q2
  exact walkT t0 t1 t2 i0 i1 i2 W hE

/-! ### The row and the card -/
set_option maxRecDepth 100000 in
theorem lifted (os : Os) (started : os.Started) (H : Type) (enc : TypeId × Value → H) :
    ReturnsInHanded {} Tryd.checked os 4 .any (fun w args => (Rows.stampOrderSpec.pre enc Tryd.prog Tryd.f4 Rows.stampOrderRow.domain false w args ∧ laidMetH Tryd.prog Rows.stampOrderRow.laid w) ∧ sizedMet enc Tryd.prog Tryd.f4 (OpenSpec.ofChange Rows.stampOrderSpec) false w args) (Rows.stampOrderSpec.post enc Tryd.prog Tryd.f4 false true false false) :=
  liftL (ts := [25, 25, 25]) rfl started (by kernel_rfl) Tryd.func4 (by kernel_rfl) (by kernel_rfl) (by kernel_rfl) rfl
    (fun ds h => by
      match ds, h with
      | [_, _, _], _ => rfl)
    (ChangeSpec.witness_shaped (enc := enc) (C := Tryd.checked) (os := os) (X := fun w _ => laidMetH Tryd.prog laid7 w) false (Go.Proofs.YtehcnnjhgiiehaaDoor.stamp.start os) #[.agg #[.int .u32 0, .int .i64 0, .int .u32 0, .int .u32 0, .int .u32 0], .agg #[.int .u32 0, .int .i64 0, .int .u32 0, .int .u32 0, .int .u32 0], .agg #[.int .u32 0, .int .i64 0, .int .u32 0, .int .u32 0, .int .u32 0]] 8 (World.laidAll_os _ _ _)
      (World.shaped_of_ZipB (by kernel_rfl) (by kernel_rfl)) (by kernel_rfl) (by kernel_rfl) (by kernel_rfl) (start_met os _)) told

theorem over : Rows.StampOrderSaid :=
  OpenClaim.holds_of_wide 4 Tryd.f4 rfl rfl rfl rfl rfl rfl rfl ⟨rfl, rfl, rfl, rfl, rfl⟩ rfl rfl rfl rfl rfl (by kernel_rfl) Tryd.func4 (by kernel_rfl)
    (of_decide_eq_true (by kernel_rfl)) (by unfold Func.isWrapper; first | (rw [if_pos (by decide +kernel)]; kernel_rfl) | (rw [if_neg (by decide +kernel)]; exact ⟨rfl, rfl⟩))
    (fun os started H enc _ => lifted os started H enc)

theorem proved : Rows.StampOrderCardSaid :=
  Claim7.holds_tied_plain_at .later [] [.data, .data, .data, .data, .sentinel, .sentinel, .pinned] true (true, "aab9381282e9a48b52fda4b8d92f7b580332e7240df5507c556c7e28874478b6") true
    over (fun _ h => by cases h) (by kernel_rfl) (fun _ h => by cases h) stampOrder_row_tie rfl ⟨rfl, rfl⟩ (by kernel_rfl) rfl
    (fun f fn hf hfn => by
      obtain rfl : f = 4 := Option.some.inj ((show Tryd.prog.funcNamed "watershed/watershedlaw04.StampOrder" = some 4 by kernel_rfl).symm.trans hf) |>.symm
      obtain rfl : fn = Tryd.f4 := (Option.some.inj (Tryd.func4.symm.trans hfn)).symm
      exact ⟨by kernel_rfl, fun j t ht => by
        rw [Tryd.params4] at ht
        have hm : t ∈ [25, 25, 25] := by simpa using Array.mem_of_getElem? ht
        have hall : ([25, 25, 25].all fun u => !Tryd.prog.wantsStandIn u) = true := by kernel_rfl
        exact (show Tryd.prog.wantsStandIn t = false by simpa using List.all_eq_true.1 hall t hm)⟩)
    (by kernel_rfl)
#print axioms proved
end Go.Proofs.YtehcnnjhgiiehaaDoor.stampOrder
