/-
  works: what a Multi tells of two times.
-/
import Derived.Test.YtpjlefdigpejdaaWk7
import Derived.Test.YtpjlefdigpejdaaRt3
namespace Go.Proofs.Ytpjlefdigpejdaa.multi
open Go.ChangeShapes Go.WideShapes Go.ChangeAt Go.RowKit
open Go.Proofs.Ytpjlefdigpejdaa.region
open Go.Proofs.Ytpjlefdigpejdaa.tm Go.Proofs.Ytpjlefdigpejdaa.opened Go.Proofs.Ytpjlefdigpejdaa.block Go.Proofs.Ytpjlefdigpejdaa.stamp Go.Proofs.Ytpjlefdigpejdaa.chain

/-- A row of one. -/
def One1 : Value → World → Prop := fun u _ => ∃ B c, u = .slice B 1 c
theorem keeps_one : Keeps One1 := fun _ _ _ _ h => h
set_option maxRecDepth 100000 in
set_option maxHeartbeats 4000000 in
theorem works_any (w : World) : Calls Try.prog 31 #[] w fun e w' => e = .returned (.bool true) ∧ Below w.heap.size w w' := by
  have hN := Lib.hid (new_good 0 (by decide) (by decide) w)
  go_enter Try.func31, Try.ntmps31
  go_upto_region 5 with ((go_at_call 11; refine hN.out.mono ?_; rintro e W1 ⟨g, b, rfl, h1, b1, hg1, hb1⟩; have H1 := Lib.hid h1; have B1 := Lib.hid b1; have HG := Lib.hid (And.intro hg1 hb1); clear h1 b1 hg1 hb1))
  have S1 : Hid (Sta w ((W1.alloc (.cells #[.int .u32 tz.e, .int .i64 tz.d, .int .u32 tz.a, .int .u32 tz.b, .int .u32 tz.c] 33)).alloc (.cells #[.int .u32 t1.e, .int .i64 t1.d, .int .u32 t1.a, .int .u32 t1.b, .int .u32 t1.c] 33)) g b W1.heap.size 0 none [] []) := Lib.hid (by
    have hb2 := (fresh1 W1 (.cells #[.int .u32 tz.e, .int .i64 tz.d, .int .u32 tz.a, .int .u32 tz.b, .int .u32 tz.c] 33)).trans ((fresh1 (W1.alloc (.cells #[.int .u32 tz.e, .int .i64 tz.d, .int .u32 tz.a, .int .u32 tz.b, .int .u32 tz.c] 33)) (.cells #[.int .u32 t1.e, .int .i64 t1.d, .int .u32 t1.a, .int .u32 t1.b, .int .u32 t1.c] 33)).mono (by simp))
    have oz := Whole.fresh W1 33 #[.int .u32 tz.e, .int .i64 tz.d, .int .u32 tz.a, .int .u32 tz.b, .int .u32 tz.c]
    have oo := Whole.fresh (W1.alloc (.cells #[.int .u32 tz.e, .int .i64 tz.d, .int .u32 tz.a, .int .u32 tz.b, .int .u32 tz.c] 33)) 33 #[.int .u32 t1.e, .int .i64 t1.d, .int .u32 t1.a, .int .u32 t1.b, .int .u32 t1.c]
    rw [size_alloc] at oo
    exact ⟨H1.out.below hb2, oz.below (fresh1 _ _) oz.inside, oo, B1.out.trans (hb2.mono B1.out.size), HG.out.1, HG.out.2, H1.out.cells.inside, H1.out.own.lt⟩)
  change Code.wp _ _ _ _ ((W1.alloc (.cells #[.int .u32 tz.e, .int .i64 tz.d, .int .u32 tz.a, .int .u32 tz.b, .int .u32 tz.c] 33)).alloc (.cells #[.int .u32 t1.e, .int .i64 t1.d, .int .u32 t1.a, .int .u32 t1.b, .int .u32 t1.c] 33))
  generalize (W1.alloc (.cells #[.int .u32 tz.e, .int .i64 tz.d, .int .u32 tz.a, .int .u32 tz.b, .int .u32 tz.c] 33)).alloc (.cells #[.int .u32 t1.e, .int .i64 t1.d, .int .u32 t1.a, .int .u32 t1.b, .int .u32 t1.c] 33) = W2 at S1 ⊢
  generalize W1.heap.size = z at S1 ⊢
  clear H1 B1 HG hN
  have E1 := run_eqT tz tz
  have E2 := run_eqT t1 t1
  obtain ⟨zc, zf⟩ := path.all_of S1.out.zz
  obtain ⟨oc, of⟩ := path.all_of S1.out.oo
  go_upto_region 7 with ((go_at_call 13; first
    | (with_reducible refine (c1 _ S1.out.m).mono ?_; rintro e W3 ⟨rfl, h3, k3⟩; have S2 := Lib.hid (S1.out.add h3 k3); clear h3 k3; clear zc zf oc of; obtain ⟨zc, zf⟩ := path.all_of S2.out.zz; obtain ⟨oc, of⟩ := path.all_of S2.out.oo)
    | (with_reducible refine (c2 _ S2.out.m).mono ?_; rintro e W4 ⟨rfl, h4, k4⟩; have S3 := Lib.hid (S2.out.add h4 k4); clear h4 k4; clear zc zf oc of; obtain ⟨zc, zf⟩ := path.all_of S3.out.zz; obtain ⟨oc, of⟩ := path.all_of S3.out.oo)))
  go_upto_region 10 with (first
    | (go_at_call 15; refine (m1 _ S3.out.m).mono ?_; rintro e W5 ⟨D1, d1, p2, q2, d2, B5, d5, rfl, l5, h5, k5⟩; have S4 := Lib.hid (S3.out.moves h5 k5); have L4 := Lib.hid l5; clear l5 h5 k5; clear zc zf oc of; obtain ⟨zc, zf⟩ := path.all_of S4.out.zz; obtain ⟨oc, of⟩ := path.all_of S4.out.oo)
    | (go_at_call 13; refine (c3 _ S4.out.m).mono ?_; rintro e W6 ⟨rfl, h6, k6⟩; have S5 := Lib.hid (S4.out.add h6 k6); have L5 := Lib.hid (S4.out.rowA L4.out k6); clear h6 k6; clear zc zf oc of; obtain ⟨zc, zf⟩ := path.all_of S5.out.zz; obtain ⟨oc, of⟩ := path.all_of S5.out.oo))
  go_upto_region 11 with ((go_at_call 15; refine (m2 _ S5.out.m).mono ?_; rintro e W7 ⟨p3, q3, d3, p4, q4, d4, B7, d7, rfl, l7, n7, h7, k7⟩; have S6 := Lib.hid (S5.out.moves h7 k7); have L6 := Lib.hid (S5.out.rowM L5.out k7); have LC := Lib.hid l7; have LD := Lib.hid n7; clear l7 n7 h7 k7; clear zc zf oc of; obtain ⟨zc, zf⟩ := path.all_of S6.out.zz; obtain ⟨oc, of⟩ := path.all_of S6.out.oo))
  clear zc zf oc of E1 E2
  refine region_want 120 [Is (.slice D1 0 d1), Is (.int .i64 0), Is (.bool true), Is (.bool true), Is (.slice (some ⟨p2, q2, none⟩) 1 d2), Is (.int .i64 1), Is (.bool true), Is (.bool true), Is (.bool true), Is (.slice (some ⟨p2, q2, none⟩) 1 d2), Is (.pointer (some ⟨p2, q2, none⟩)), Is (.agg #[.int .u32 tz.e, .int .i64 tz.d, .int .u32 tz.a, .int .u32 tz.b, .int .u32 tz.c]), Is (.agg #[.int .u32 tz.e, .int .i64 tz.d, .int .u32 tz.a, .int .u32 tz.b, .int .u32 tz.c]), Is (.bool true), Is (.bool true), Is (.bool true), Is (.int .i64 0), Is (.bool true), Is (.bool true), Is (.bool true), Is (.slice (some ⟨p3, q3, none⟩) 1 d3), Is (.int .i64 1), Is (.bool true), Is (.bool true), Is (.bool true), Is (.slice (some ⟨p3, q3, none⟩) 1 d3), Is (.pointer (some ⟨p3, q3, none⟩)), Is (.agg #[.int .u32 tz.e, .int .i64 tz.d, .int .u32 tz.a, .int .u32 tz.b, .int .u32 tz.c]), Is (.agg #[.int .u32 tz.e, .int .i64 tz.d, .int .u32 tz.a, .int .u32 tz.b, .int .u32 tz.c]), Is (.bool true), Is (.bool true), Is (.bool true), Is (.slice (some ⟨p4, q4, none⟩) 1 d4), Is (.int .i64 1), Is (.bool true), Is (.bool true), Is (.bool true), Is (.slice (some ⟨p4, q4, none⟩) 1 d4), Is (.pointer (some ⟨p4, q4, none⟩)), Is (.agg #[.int .u32 t1.e, .int .i64 t1.d, .int .u32 t1.a, .int .u32 t1.b, .int .u32 t1.c]), Is (.agg #[.int .u32 t1.e, .int .i64 t1.d, .int .u32 t1.a, .int .u32 t1.b, .int .u32 t1.c]), Is (.bool true), Is (.bool true), Is (.bool true), Is (.int .i64 0), Is (.bool true), Is (.bool true), Is (.bool true), Is (.pointer (some ⟨g, 0, none⟩)), Is (.agg #[.int .u32 t1.e, .int .i64 t1.d, .int .u32 t1.a, .int .u32 t1.b, .int .u32 t1.c]), Is (.int .i64 1), Is (.bool true), Is (.bool true), Is (.bool true), Is (.pointer (some ⟨g, 0, none⟩)), Is (.agg #[.int .u32 tz.e, .int .i64 tz.d, .int .u32 tz.a, .int .u32 tz.b, .int .u32 tz.c]), Is (.int .i64 0), Is (.bool true), Is (.bool true), Is (.bool true), Is (.pointer (some ⟨g, 0, none⟩)), One1, Is (.int .i64 1), Is (.bool true), Is (.bool true), Is (.bool true), Is (.pointer (some ⟨g, 0, none⟩)), Is (.agg #[.int .u32 tq.e, .int .i64 tq.d, .int .u32 tq.a, .int .u32 tq.b, .int .u32 tq.c]), Is (.int .i64 10), Is (.bool true), Is (.bool true), Is (.bool true)] (by kernel_rfl) rfl (by kernel_rfl) ?_ ?_
  · exact ⟨keeps_is _, keeps_is _, keeps_is _, keeps_is _, keeps_is _, keeps_is _, keeps_is _, keeps_is _, keeps_is _, keeps_is _, keeps_is _, keeps_is _, keeps_is _, keeps_is _, keeps_is _, keeps_is _, keeps_is _, keeps_is _, keeps_is _, keeps_is _, keeps_is _, keeps_is _, keeps_is _, keeps_is _, keeps_is _, keeps_is _, keeps_is _, keeps_is _, keeps_is _, keeps_is _, keeps_is _, keeps_is _, keeps_is _, keeps_is _, keeps_is _, keeps_is _, keeps_is _, keeps_is _, keeps_is _, keeps_is _, keeps_is _, keeps_is _, keeps_is _, keeps_is _, keeps_is _, keeps_is _, keeps_is _, keeps_is _, keeps_is _, keeps_is _, keeps_is _, keeps_is _, keeps_is _, keeps_is _, keeps_is _, keeps_is _, keeps_is _, keeps_is _, keeps_is _, keeps_is _, keeps_is _, keeps_one, keeps_is _, keeps_is _, keeps_is _, keeps_is _, keeps_is _, keeps_is _, keeps_is _, keeps_is _, keeps_is _, keeps_is _, trivial⟩
  · intro fin hfin
    simp [lexPut, Act.put] at hfin
    refine ⟨⟨?_, ?_, ?_, ?_, ?_, ?_, ?_, ?_, ?_, ?_, ?_, ?_, ?_, ?_, ?_, ?_, ?_, ?_, ?_, ?_, ?_, ?_, ?_, ?_, ?_, ?_, ?_, ?_, ?_, ?_, ?_, ?_, ?_, ?_, ?_, ?_, ?_, ?_, ?_, ?_, ?_, ?_, ?_, ?_, ?_, ?_, ?_, ?_, ?_, ?_, ?_, ?_, ?_, ?_, ?_, ?_, ?_, ?_, ?_, ?_, ?_, ?_, ?_, ?_, ?_, ?_, ?_, ?_, ?_, ?_, ?_, ?_, trivial⟩, ?_⟩
    · intro v w2 hb hd
      exact done_plain rfl (yields_is (tells_move rfl (by rw [hfin]; rfl)) hb)
    · intro v w2 hb hd
      have h0 : v 0 = _ := hd 0 (by kernel_rfl)
      refine done_plain rfl (yields_run (u := .int .i64 0) (w' := w2) ?_ (Below.refl _ _) rfl)
      rw [hfin]
      unfold execOp
      simp [go_sem, Act.eval, h0]
    · intro v w2 hb hd
      have h1 : v 1 = _ := hd 1 (by kernel_rfl)
      refine done_plain rfl (yields_run (u := .bool true) (w' := w2) ?_ (Below.refl _ _) rfl)
      rw [hfin]
      unfold execOp
      simp [go_sem, Act.eval, h1]
    · intro v w2 hb hd
      have h2 : v 2 = _ := hd 2 (by kernel_rfl)
      exact done_plain rfl (yields_is (tells_move rfl (by rw [hfin]; exact h2)) hb)
    · intro v w2 hb hd
      exact done_want 3 true rfl (hd 3 (by kernel_rfl)) (yields_is (tells_move rfl (by rw [hfin]; rfl)) hb)
    · intro v w2 hb hd
      have h4 : v 4 = _ := hd 4 (by kernel_rfl)
      refine done_want 3 true rfl (hd 3 (by kernel_rfl)) (yields_run (u := .int .i64 1) (w' := w2) ?_ (Below.refl _ _) rfl)
      rw [hfin]
      unfold execOp
      simp [go_sem, Act.eval, h4]
    · intro v w2 hb hd
      have h5 : v 5 = _ := hd 5 (by kernel_rfl)
      refine done_want 3 true rfl (hd 3 (by kernel_rfl)) (yields_run (u := .bool true) (w' := w2) ?_ (Below.refl _ _) rfl)
      rw [hfin]
      unfold execOp
      simp [go_sem, Act.eval, h5]
    · intro v w2 hb hd
      have h3 : v 3 = _ := hd 3 (by kernel_rfl)
      have h6 : v 6 = _ := hd 6 (by kernel_rfl)
      refine done_plain rfl (yields_run (u := .bool true) (w' := w2) ?_ (Below.refl _ _) rfl)
      rw [hfin]
      unfold execOp
      simp [go_sem, Act.eval, h3, h6]
    · intro v w2 hb hd
      have h7 : v 7 = _ := hd 7 (by kernel_rfl)
      exact done_plain rfl (yields_is (tells_move rfl (by rw [hfin]; exact h7)) hb)
    · intro v w2 hb hd
      exact done_want 8 true rfl (hd 8 (by kernel_rfl)) (yields_is (tells_move rfl (by rw [hfin]; rfl)) hb)
    · intro v w2 hb hd
      have h9 : v 9 = _ := hd 9 (by kernel_rfl)
      refine done_want 8 true rfl (hd 8 (by kernel_rfl)) (yields_run (u := .pointer (some ⟨p2, q2, none⟩)) (w' := w2) ?_ (Below.refl _ _) rfl)
      rw [hfin]
      unfold execOp
      simp [go_sem, Act.eval, h9]
    · intro v w2 hb hd
      have h10 : v 10 = _ := hd 10 (by kernel_rfl)
      obtain ⟨a0, a1, a2, a3, a4⟩ := lt_cells (L6.out.below hb)
      refine done_want 8 true rfl (hd 8 (by kernel_rfl)) (yields_run (u := .agg #[.int .u32 tz.e, .int .i64 tz.d, .int .u32 tz.a, .int .u32 tz.b, .int .u32 tz.c]) (w' := w2) ?_ (Below.refl _ _) rfl)
      rw [hfin]
      unfold execOp
      simp [go_sem, Act.eval, h10, a0, a1, a2, a3, a4]
    · intro v w2 hb hd
      exact done_want 8 true rfl (hd 8 (by kernel_rfl)) (yields_is (W0 := w2) (tells_load rfl (by rw [hfin]; rfl) (S6.out.later hb).zz Try.underlying33 rfl (by kernel_rfl)) (Below.refl _ _))
    · intro v w2 hb hd
      have h11 : v 11 = _ := hd 11 (by kernel_rfl)
      have h12 : v 12 = _ := hd 12 (by kernel_rfl)
      refine done_want 8 true rfl (hd 8 (by kernel_rfl)) (yields_run (u := .bool true) (w' := w2) ?_ (Below.refl _ _) rfl)
      rw [hfin]
      unfold execOp
      simp [go_sem, Act.eval, h11, h12, run_eqT tz tz, show eqT tz tz = true from by decide]
    · intro v w2 hb hd
      have h8 : v 8 = _ := hd 8 (by kernel_rfl)
      have h13 : v 13 = _ := hd 13 (by kernel_rfl)
      refine done_plain rfl (yields_run (u := .bool true) (w' := w2) ?_ (Below.refl _ _) rfl)
      rw [hfin]
      unfold execOp
      simp [go_sem, Act.eval, h8, h13]
    · intro v w2 hb hd
      have h14 : v 14 = _ := hd 14 (by kernel_rfl)
      exact done_plain rfl (yields_is (tells_move rfl (by rw [hfin]; exact h14)) hb)
    · intro v w2 hb hd
      exact done_want 15 true rfl (hd 15 (by kernel_rfl)) (yields_is (tells_move rfl (by rw [hfin]; rfl)) hb)
    · intro v w2 hb hd
      have h16 : v 16 = _ := hd 16 (by kernel_rfl)
      refine done_want 15 true rfl (hd 15 (by kernel_rfl)) (yields_run (u := .bool true) (w' := w2) ?_ (Below.refl _ _) rfl)
      rw [hfin]
      unfold execOp
      simp [go_sem, Act.eval, h16]
    · intro v w2 hb hd
      have h15 : v 15 = _ := hd 15 (by kernel_rfl)
      have h17 : v 17 = _ := hd 17 (by kernel_rfl)
      refine done_plain rfl (yields_run (u := .bool true) (w' := w2) ?_ (Below.refl _ _) rfl)
      rw [hfin]
      unfold execOp
      simp [go_sem, Act.eval, h15, h17]
    · intro v w2 hb hd
      have h18 : v 18 = _ := hd 18 (by kernel_rfl)
      exact done_plain rfl (yields_is (tells_move rfl (by rw [hfin]; exact h18)) hb)
    · intro v w2 hb hd
      exact done_want 19 true rfl (hd 19 (by kernel_rfl)) (yields_is (tells_move rfl (by rw [hfin]; rfl)) hb)
    · intro v w2 hb hd
      have h20 : v 20 = _ := hd 20 (by kernel_rfl)
      refine done_want 19 true rfl (hd 19 (by kernel_rfl)) (yields_run (u := .int .i64 1) (w' := w2) ?_ (Below.refl _ _) rfl)
      rw [hfin]
      unfold execOp
      simp [go_sem, Act.eval, h20]
    · intro v w2 hb hd
      have h21 : v 21 = _ := hd 21 (by kernel_rfl)
      refine done_want 19 true rfl (hd 19 (by kernel_rfl)) (yields_run (u := .bool true) (w' := w2) ?_ (Below.refl _ _) rfl)
      rw [hfin]
      unfold execOp
      simp [go_sem, Act.eval, h21]
    · intro v w2 hb hd
      have h19 : v 19 = _ := hd 19 (by kernel_rfl)
      have h22 : v 22 = _ := hd 22 (by kernel_rfl)
      refine done_plain rfl (yields_run (u := .bool true) (w' := w2) ?_ (Below.refl _ _) rfl)
      rw [hfin]
      unfold execOp
      simp [go_sem, Act.eval, h19, h22]
    · intro v w2 hb hd
      have h23 : v 23 = _ := hd 23 (by kernel_rfl)
      exact done_plain rfl (yields_is (tells_move rfl (by rw [hfin]; exact h23)) hb)
    · intro v w2 hb hd
      exact done_want 24 true rfl (hd 24 (by kernel_rfl)) (yields_is (tells_move rfl (by rw [hfin]; rfl)) hb)
    · intro v w2 hb hd
      have h25 : v 25 = _ := hd 25 (by kernel_rfl)
      refine done_want 24 true rfl (hd 24 (by kernel_rfl)) (yields_run (u := .pointer (some ⟨p3, q3, none⟩)) (w' := w2) ?_ (Below.refl _ _) rfl)
      rw [hfin]
      unfold execOp
      simp [go_sem, Act.eval, h25]
    · intro v w2 hb hd
      have h26 : v 26 = _ := hd 26 (by kernel_rfl)
      obtain ⟨a0, a1, a2, a3, a4⟩ := lt_cells (LC.out.below hb)
      refine done_want 24 true rfl (hd 24 (by kernel_rfl)) (yields_run (u := .agg #[.int .u32 tz.e, .int .i64 tz.d, .int .u32 tz.a, .int .u32 tz.b, .int .u32 tz.c]) (w' := w2) ?_ (Below.refl _ _) rfl)
      rw [hfin]
      unfold execOp
      simp [go_sem, Act.eval, h26, a0, a1, a2, a3, a4]
    · intro v w2 hb hd
      exact done_want 24 true rfl (hd 24 (by kernel_rfl)) (yields_is (W0 := w2) (tells_load rfl (by rw [hfin]; rfl) (S6.out.later hb).zz Try.underlying33 rfl (by kernel_rfl)) (Below.refl _ _))
    · intro v w2 hb hd
      have h27 : v 27 = _ := hd 27 (by kernel_rfl)
      have h28 : v 28 = _ := hd 28 (by kernel_rfl)
      refine done_want 24 true rfl (hd 24 (by kernel_rfl)) (yields_run (u := .bool true) (w' := w2) ?_ (Below.refl _ _) rfl)
      rw [hfin]
      unfold execOp
      simp [go_sem, Act.eval, h27, h28, run_eqT tz tz, show eqT tz tz = true from by decide]
    · intro v w2 hb hd
      have h24 : v 24 = _ := hd 24 (by kernel_rfl)
      have h29 : v 29 = _ := hd 29 (by kernel_rfl)
      refine done_plain rfl (yields_run (u := .bool true) (w' := w2) ?_ (Below.refl _ _) rfl)
      rw [hfin]
      unfold execOp
      simp [go_sem, Act.eval, h24, h29]
    · intro v w2 hb hd
      have h30 : v 30 = _ := hd 30 (by kernel_rfl)
      exact done_plain rfl (yields_is (tells_move rfl (by rw [hfin]; exact h30)) hb)
    · intro v w2 hb hd
      exact done_want 31 true rfl (hd 31 (by kernel_rfl)) (yields_is (tells_move rfl (by rw [hfin]; rfl)) hb)
    · intro v w2 hb hd
      have h32 : v 32 = _ := hd 32 (by kernel_rfl)
      refine done_want 31 true rfl (hd 31 (by kernel_rfl)) (yields_run (u := .int .i64 1) (w' := w2) ?_ (Below.refl _ _) rfl)
      rw [hfin]
      unfold execOp
      simp [go_sem, Act.eval, h32]
    · intro v w2 hb hd
      have h33 : v 33 = _ := hd 33 (by kernel_rfl)
      refine done_want 31 true rfl (hd 31 (by kernel_rfl)) (yields_run (u := .bool true) (w' := w2) ?_ (Below.refl _ _) rfl)
      rw [hfin]
      unfold execOp
      simp [go_sem, Act.eval, h33]
    · intro v w2 hb hd
      have h31 : v 31 = _ := hd 31 (by kernel_rfl)
      have h34 : v 34 = _ := hd 34 (by kernel_rfl)
      refine done_plain rfl (yields_run (u := .bool true) (w' := w2) ?_ (Below.refl _ _) rfl)
      rw [hfin]
      unfold execOp
      simp [go_sem, Act.eval, h31, h34]
    · intro v w2 hb hd
      have h35 : v 35 = _ := hd 35 (by kernel_rfl)
      exact done_plain rfl (yields_is (tells_move rfl (by rw [hfin]; exact h35)) hb)
    · intro v w2 hb hd
      exact done_want 36 true rfl (hd 36 (by kernel_rfl)) (yields_is (tells_move rfl (by rw [hfin]; rfl)) hb)
    · intro v w2 hb hd
      have h37 : v 37 = _ := hd 37 (by kernel_rfl)
      refine done_want 36 true rfl (hd 36 (by kernel_rfl)) (yields_run (u := .pointer (some ⟨p4, q4, none⟩)) (w' := w2) ?_ (Below.refl _ _) rfl)
      rw [hfin]
      unfold execOp
      simp [go_sem, Act.eval, h37]
    · intro v w2 hb hd
      have h38 : v 38 = _ := hd 38 (by kernel_rfl)
      obtain ⟨a0, a1, a2, a3, a4⟩ := lt_cells (LD.out.below hb)
      refine done_want 36 true rfl (hd 36 (by kernel_rfl)) (yields_run (u := .agg #[.int .u32 t1.e, .int .i64 t1.d, .int .u32 t1.a, .int .u32 t1.b, .int .u32 t1.c]) (w' := w2) ?_ (Below.refl _ _) rfl)
      rw [hfin]
      unfold execOp
      simp [go_sem, Act.eval, h38, a0, a1, a2, a3, a4]
    · intro v w2 hb hd
      exact done_want 36 true rfl (hd 36 (by kernel_rfl)) (yields_is (W0 := w2) (tells_load rfl (by rw [hfin]; rfl) (S6.out.later hb).oo Try.underlying33 rfl (by kernel_rfl)) (Below.refl _ _))
    · intro v w2 hb hd
      have h39 : v 39 = _ := hd 39 (by kernel_rfl)
      have h40 : v 40 = _ := hd 40 (by kernel_rfl)
      refine done_want 36 true rfl (hd 36 (by kernel_rfl)) (yields_run (u := .bool true) (w' := w2) ?_ (Below.refl _ _) rfl)
      rw [hfin]
      unfold execOp
      simp [go_sem, Act.eval, h39, h40, run_eqT t1 t1, show eqT t1 t1 = true from by decide]
    · intro v w2 hb hd
      have h36 : v 36 = _ := hd 36 (by kernel_rfl)
      have h41 : v 41 = _ := hd 41 (by kernel_rfl)
      refine done_plain rfl (yields_run (u := .bool true) (w' := w2) ?_ (Below.refl _ _) rfl)
      rw [hfin]
      unfold execOp
      simp [go_sem, Act.eval, h36, h41]
    · intro v w2 hb hd
      have h42 : v 42 = _ := hd 42 (by kernel_rfl)
      exact done_plain rfl (yields_is (tells_move rfl (by rw [hfin]; exact h42)) hb)
    · intro v w2 hb hd
      exact done_want 43 true rfl (hd 43 (by kernel_rfl)) (yields_is (tells_move rfl (by rw [hfin]; rfl)) hb)
    · intro v w2 hb hd
      have h44 : v 44 = _ := hd 44 (by kernel_rfl)
      refine done_want 43 true rfl (hd 43 (by kernel_rfl)) (yields_run (u := .bool true) (w' := w2) ?_ (Below.refl _ _) rfl)
      rw [hfin]
      unfold execOp
      simp [go_sem, Act.eval, h44]
    · intro v w2 hb hd
      have h43 : v 43 = _ := hd 43 (by kernel_rfl)
      have h45 : v 45 = _ := hd 45 (by kernel_rfl)
      refine done_plain rfl (yields_run (u := .bool true) (w' := w2) ?_ (Below.refl _ _) rfl)
      rw [hfin]
      unfold execOp
      simp [go_sem, Act.eval, h43, h45]
    · intro v w2 hb hd
      have h46 : v 46 = _ := hd 46 (by kernel_rfl)
      exact done_plain rfl (yields_is (tells_move rfl (by rw [hfin]; exact h46)) hb)
    · intro v w2 hb hd
      exact done_want 47 true rfl (hd 47 (by kernel_rfl)) (yields_is (tells_move rfl (by rw [hfin]; rfl)) hb)
    · intro v w2 hb hd
      exact done_want 47 true rfl (hd 47 (by kernel_rfl)) (yields_is (W0 := w2) (tells_load rfl (by rw [hfin]; rfl) (S6.out.later hb).oo Try.underlying33 rfl (by kernel_rfl)) (Below.refl _ _))
    · intro v w2 hb hd
      have h48 : v 48 = _ := hd 48 (by kernel_rfl)
      have h49 : v 49 = _ := hd 49 (by kernel_rfl)
      refine done_want 47 true rfl (hd 47 (by kernel_rfl)) (yields_call (f := 20) rfl (vs := #[.pointer (some ⟨g, 0, none⟩), .agg #[.int .u32 t1.e, .int .i64 t1.d, .int .u32 t1.a, .int .u32 t1.b, .int .u32 t1.c]]) (by rw [hfin]; simp [Act.eval, h48, h49]) rfl Try.func20 (by kernel_rfl) (by kernel_rfl) ?_)
      exact (k1 w2 (S6.out.later hb).m).mono fun e w' ⟨he, hb'⟩ => ⟨_, he, hb', rfl⟩
    · intro v w2 hb hd
      have h50 : v 50 = _ := hd 50 (by kernel_rfl)
      refine done_want 47 true rfl (hd 47 (by kernel_rfl)) (yields_run (u := .bool true) (w' := w2) ?_ (Below.refl _ _) rfl)
      rw [hfin]
      unfold execOp
      simp [go_sem, Act.eval, h50]
    · intro v w2 hb hd
      have h47 : v 47 = _ := hd 47 (by kernel_rfl)
      have h51 : v 51 = _ := hd 51 (by kernel_rfl)
      refine done_plain rfl (yields_run (u := .bool true) (w' := w2) ?_ (Below.refl _ _) rfl)
      rw [hfin]
      unfold execOp
      simp [go_sem, Act.eval, h47, h51]
    · intro v w2 hb hd
      have h52 : v 52 = _ := hd 52 (by kernel_rfl)
      exact done_plain rfl (yields_is (tells_move rfl (by rw [hfin]; exact h52)) hb)
    · intro v w2 hb hd
      exact done_want 53 true rfl (hd 53 (by kernel_rfl)) (yields_is (tells_move rfl (by rw [hfin]; rfl)) hb)
    · intro v w2 hb hd
      exact done_want 53 true rfl (hd 53 (by kernel_rfl)) (yields_is (W0 := w2) (tells_load rfl (by rw [hfin]; rfl) (S6.out.later hb).zz Try.underlying33 rfl (by kernel_rfl)) (Below.refl _ _))
    · intro v w2 hb hd
      have h54 : v 54 = _ := hd 54 (by kernel_rfl)
      have h55 : v 55 = _ := hd 55 (by kernel_rfl)
      refine done_want 53 true rfl (hd 53 (by kernel_rfl)) (yields_call (f := 20) rfl (vs := #[.pointer (some ⟨g, 0, none⟩), .agg #[.int .u32 tz.e, .int .i64 tz.d, .int .u32 tz.a, .int .u32 tz.b, .int .u32 tz.c]]) (by rw [hfin]; simp [Act.eval, h54, h55]) rfl Try.func20 (by kernel_rfl) (by kernel_rfl) ?_)
      exact (k2 w2 (S6.out.later hb).m).mono fun e w' ⟨he, hb'⟩ => ⟨_, he, hb', rfl⟩
    · intro v w2 hb hd
      have h56 : v 56 = _ := hd 56 (by kernel_rfl)
      refine done_want 53 true rfl (hd 53 (by kernel_rfl)) (yields_run (u := .bool true) (w' := w2) ?_ (Below.refl _ _) rfl)
      rw [hfin]
      unfold execOp
      simp [go_sem, Act.eval, h56]
    · intro v w2 hb hd
      have h53 : v 53 = _ := hd 53 (by kernel_rfl)
      have h57 : v 57 = _ := hd 57 (by kernel_rfl)
      refine done_plain rfl (yields_run (u := .bool true) (w' := w2) ?_ (Below.refl _ _) rfl)
      rw [hfin]
      unfold execOp
      simp [go_sem, Act.eval, h53, h57]
    · intro v w2 hb hd
      have h58 : v 58 = _ := hd 58 (by kernel_rfl)
      exact done_plain rfl (yields_is (tells_move rfl (by rw [hfin]; exact h58)) hb)
    · intro v w2 hb hd
      exact done_want 59 true rfl (hd 59 (by kernel_rfl)) (yields_is (tells_move rfl (by rw [hfin]; rfl)) hb)
    · intro v w2 hb hd
      have h60 : v 60 = _ := hd 60 (by kernel_rfl)
      refine done_want 59 true rfl (hd 59 (by kernel_rfl)) (yields_call (f := 35) rfl (vs := #[.pointer (some ⟨g, 0, none⟩)]) (by rw [hfin]; simp [Act.eval, h60]) rfl Try.func35 (by kernel_rfl) (by kernel_rfl) ?_)
      exact (l1 w2 (S6.out.later hb).m).mono fun e w' ⟨B, c', he, hb'⟩ => ⟨_, he, hb', B, c', rfl⟩
    · intro v w2 hb hd
      have h61 : ∃ B c, v 61 = .slice B 1 c := hd 61 (by kernel_rfl)
      obtain ⟨B9, c9, h9⟩ := h61
      refine done_want 59 true rfl (hd 59 (by kernel_rfl)) (yields_run (u := .int .i64 1) (w' := w2) ?_ (Below.refl _ _) rfl)
      rw [hfin]
      unfold execOp
      simp [go_sem, Act.eval, h9]
    · intro v w2 hb hd
      have h62 : v 62 = _ := hd 62 (by kernel_rfl)
      refine done_want 59 true rfl (hd 59 (by kernel_rfl)) (yields_run (u := .bool true) (w' := w2) ?_ (Below.refl _ _) rfl)
      rw [hfin]
      unfold execOp
      simp [go_sem, Act.eval, h62]
    · intro v w2 hb hd
      have h59 : v 59 = _ := hd 59 (by kernel_rfl)
      have h63 : v 63 = _ := hd 63 (by kernel_rfl)
      refine done_plain rfl (yields_run (u := .bool true) (w' := w2) ?_ (Below.refl _ _) rfl)
      rw [hfin]
      unfold execOp
      simp [go_sem, Act.eval, h59, h63]
    · intro v w2 hb hd
      have h64 : v 64 = _ := hd 64 (by kernel_rfl)
      exact done_plain rfl (yields_is (tells_move rfl (by rw [hfin]; exact h64)) hb)
    · intro v w2 hb hd
      exact done_want 65 true rfl (hd 65 (by kernel_rfl)) (yields_is (tells_move rfl (by rw [hfin]; rfl)) hb)
    · intro v w2 hb hd
      refine done_want 65 true rfl (hd 65 (by kernel_rfl)) (yields_run (u := .agg #[.int .u32 tq.e, .int .i64 tq.d, .int .u32 tq.a, .int .u32 tq.b, .int .u32 tq.c]) (w' := w2) ?_ (Below.refl _ _) rfl)
      rw [hfin]
      unfold execOp
      simp [go_sem, Act.eval]
    · intro v w2 hb hd
      have h66 : v 66 = _ := hd 66 (by kernel_rfl)
      have h67 : v 67 = _ := hd 67 (by kernel_rfl)
      refine done_want 65 true rfl (hd 65 (by kernel_rfl)) (yields_call (f := 13) rfl (vs := #[.pointer (some ⟨g, 0, none⟩), .agg #[.int .u32 tq.e, .int .i64 tq.d, .int .u32 tq.a, .int .u32 tq.b, .int .u32 tq.c], .int .i64 1]) (by rw [hfin]; simp [Act.eval, h66, h67]) rfl Try.func13 (by kernel_rfl) (by kernel_rfl) ?_)
      exact (c4b w2 (S6.out.later hb).m).mono fun e w' ⟨he, hb'⟩ => ⟨_, he, hb', rfl⟩
    · intro v w2 hb hd
      have h68 : v 68 = _ := hd 68 (by kernel_rfl)
      refine done_want 65 true rfl (hd 65 (by kernel_rfl)) (yields_run (u := .bool true) (w' := w2) ?_ (Below.refl _ _) rfl)
      rw [hfin]
      unfold execOp
      simp [go_sem, Act.eval, h68]
    · intro v w2 hb hd
      have h65 : v 65 = _ := hd 65 (by kernel_rfl)
      have h69 : v 69 = _ := hd 69 (by kernel_rfl)
      refine done_plain rfl (yields_run (u := .bool true) (w' := w2) ?_ (Below.refl _ _) rfl)
      rw [hfin]
      unfold execOp
      simp [go_sem, Act.eval, h65, h69]
    · intro v w2 hb hd
      have h70 : v 70 = _ := hd 70 (by kernel_rfl)
      exact done_plain rfl (yields_is (tells_assign rfl (by rw [hfin]; exact h70)) hb)
    · intro v w2 hb hv
      have h71 : v 71 = _ := hv 71 (by decide)
      rw [hfin]
      clear hfin hv
      have B2 := Lib.hid (S6.out.later hb).below
      rw [h71]
      clear h71 hb
      go_wp2_with fail
      go_ret
      exact ⟨rfl, B2.out⟩
end Go.Proofs.Ytpjlefdigpejdaa.multi
