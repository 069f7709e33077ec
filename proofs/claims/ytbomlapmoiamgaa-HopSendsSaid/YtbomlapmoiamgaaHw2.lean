/-
  law17's works (by gen_hw2.py).
-/
import Derived.Test.YtbomlapmoiamgaaHw1
import Derived.Test.YtbomlapmoiamgaaHp8
import Derived.Test.YtbomlapmoiamgaaHm1
set_option linter.unusedSimpArgs false
set_option linter.unusedVariables false
namespace Go.Proofs.Ytbomlapmoiamgaa.hop
open Go.ChangeShapes Go.WideShapes Go.ChangeAt Go.RowKit
open Go.Proofs.Ytbomlapmoiamgaa.opened Go.Proofs.Ytbomlapmoiamgaa.block Go.Proofs.Ytbomlapmoiamgaa.words Go.Proofs.Ytbomlapmoiamgaa.region Go.Proofs.Ytbomlapmoiamgaa.crcm
def ia : It := ⟨1, [97]⟩
def ib : It := ⟨2, [98]⟩
def ic : It := ⟨3, [99]⟩
def s0 : Sn := newV 1 0 2 2
def s1 : Sn := ⟨1, 2, 2, 0, 0, 0, [ia]⟩
def s2 : Sn := ⟨1, 2, 2, 0, 0, 0, [ia, ib]⟩
def s3 : Sn := ⟨1, 2, 2, 0, 0, 0, [ia, ib, ic]⟩
def s4 : Sn := ⟨1, 2, 2, 0, 2, 0, [ia, ib, ic]⟩
def s5 : Sn := ⟨1, 2, 2, 1, 2, 0, [ib, ic]⟩
def s6 : Sn := ⟨1, 2, 2, 1, 3, 0, [ib, ic]⟩
def s7 : Sn := ⟨1, 2, 2, 1, 3, 1, [ib, ic]⟩
def s8 : Sn := ⟨1, 2, 2, 1, 1, 0, [ib, ic]⟩
def s9 : Sn := ⟨1, 2, 2, 1, 3, 0, [ib, ic]⟩
def fb : Fm := ⟨1, 3, 1, 2, [98]⟩
def tb : Bs := wrV fb
theorem ok0 : NewOk 1 0 2 2 := by unfold NewOk; omega
theorem g0 : GoodS s0 := good_new ok0
theorem g1 : GoodS s1 := g0.put [97]
theorem g2 : GoodS s2 := g1.put [98]
theorem g3 : GoodS s3 := g2.put [99]
theorem g4 : GoodS s4 := g3.out
theorem g5 : GoodS s5 := g4.ack 1 1
theorem g6 : GoodS s6 := g5.out
theorem g7 : GoodS s7 := g6.tick
theorem g8 : GoodS s8 := g7.tick
set_option maxRecDepth 100000 in
theorem fb_ok : chkF fb = 0 := by decide
set_option maxRecDepth 100000 in
theorem tb_len : tb.length = 9 := by decide +kernel
set_option maxRecDepth 100000 in
theorem tb_rd : rdE tb = 0 ∧ (rdV tb).n = 2 ∧ (rdV tb).s = [98] := by decide +kernel
set_option maxRecDepth 100000 in
theorem tc_rd : rdE (tb ++ [99]) = 12 := by decide +kernel
theorem own_lower {α : Type} {m : Nat} {f : α → List Value} {T : TypeId} {w : World} {b1 base : Nat} {v : Value} {N : List α} (h : OwnG T m f w b1 v N) (hb : base ≤ b1) : OwnG T m f w base v N := by
  refine ⟨h.1, ?_⟩
  rcases h.2 with hx | ⟨b, cap, cur, hv, hb2, rest⟩
  · exact .inl hx
  · exact .inr ⟨b, cap, cur, hv, Nat.le_trans hb hb2, rest⟩
theorem SnE.lower {b1 B : Nat} {w : World} {g : Nat} {S : Sn} {A : Option Addr} {c : Nat} (h : SnE b1 w g S A c) (hb : B ≤ b1) : SnE B w g S A c := ⟨h.cell, own_lower h.row hb, Nat.le_trans hb h.low⟩
theorem own_cells {w : World} {base : Nat} {A : Option Addr} {n c : Nat} {x : It} {N : List It} (h : OwnG 85 2 cI w base (.slice A n c) (x :: N)) : ∃ b, A = some ⟨b, 0, none⟩ ∧ w.cell? ⟨b, 0, none⟩ = some (.int .i64 x.n) ∧ w.cell? ⟨b, 1, none⟩ = some (sV x.s) ∧ w.frozen? ⟨b, 0, none⟩ = false := by
  rcases h.2 with ⟨-, hn⟩ | ⟨b, cap, cur, hv, hb, hh, hcl, hcm, hcs, hct⟩
  · simp at hn
  · injection hv with h1 h2 h3
    refine ⟨b, h1, ?_, ?_, ?_⟩
    · have e := flatG_at cellsI (x :: N) 0 x 0 rfl (by omega)
      rw [← hct, List.getElem?_take, if_pos (by simp <;> omega), Array.getElem?_toList] at e
      simp only [World.cell?, hh]
      simpa [cI] using e
    · have e := flatG_at cellsI (x :: N) 0 x 1 rfl (by omega)
      rw [← hct, List.getElem?_take, if_pos (by simp <;> omega), Array.getElem?_toList] at e
      simp only [World.cell?, hh]
      simpa [cI] using e
    · simp [World.frozen?, hh]
theorem whole_tw {w w' : World} {g : Nat} {t : TypeId} {cs : Array Value} (h : Whole w g t cs) (k : TW w w') (h1 : t ≠ 99) (h2 : t ≠ 85) (h3 : t ≠ 109) : Whole w' g t cs := k g _ h (by
  rintro ⟨_, _, u, e, ht⟩
  injection e with _ e
  subst e
  rcases ht with ht | ht | ht
  · exact h1 ht
  · exact h2 ht
  · exact h3 ht)
set_option maxRecDepth 100000 in
set_option maxHeartbeats 8000000 in
theorem works_any (w : World) : Calls Try.prog 39 #[] w fun e w' => e = .returned (.bool true) ∧ Below w.heap.size w w' := by
  have HNS := Lib.hid (newS_good (w := w) ok0)
  have HNR := Lib.hid (fun (w1 : World) => newR_good (w := w1) 0 (by omega))
  have H3 := Lib.hid (fun (g gr : Nat) (A : Option Addr) (c : Nat) (w1 : World) (h : WkE w w1 g gr s0 ⟨0, 0⟩ A c) => wk_put (n := 1) (e := 0) (V := s1) h g0 [97] (by simp) (by rfl) (by rfl) (by rfl))
  have H4 := Lib.hid (fun (g gr : Nat) (A : Option Addr) (c : Nat) (w1 : World) (h : WkE w w1 g gr s1 ⟨0, 0⟩ A c) => wk_put (n := 2) (e := 0) (V := s2) h g1 [98] (by simp) (by rfl) (by rfl) (by rfl))
  have H5 := Lib.hid (fun (g gr : Nat) (A : Option Addr) (c : Nat) (w1 : World) (h : WkE w w1 g gr s2 ⟨0, 0⟩ A c) => wk_put (n := 3) (e := 0) (V := s3) h g2 [99] (by simp) (by rfl) (by rfl) (by rfl))
  have H6 := Lib.hid (fun (g gr : Nat) (A : Option Addr) (c : Nat) (w1 : World) (h : WkE w w1 g gr s3 ⟨0, 0⟩ A c) => wk_out (V := s4) (M := [ia, ib]) h g3 (by rfl) (by rfl))
  have H7 := Lib.hid (fun (g gr : Nat) (A : Option Addr) (c : Nat) (w1 : World) (h : WkE w w1 g gr s4 ⟨0, 0⟩ A c) => wk_ack (b := true) (V := s5) h g4 1 1 (by rfl) (by rfl))
  have H8 := Lib.hid (fun (g gr : Nat) (A : Option Addr) (c : Nat) (w1 : World) (h : WkE w w1 g gr s5 ⟨0, 0⟩ A c) => wk_out (V := s6) (M := [ic]) h g5 (by rfl) (by rfl))
  have H9 := Lib.hid (fun (g gr : Nat) (A : Option Addr) (c : Nat) (w1 : World) (h : WkE w w1 g gr s6 ⟨0, 0⟩ A c) => wk_tick (V := s7) h g6 (by rfl))
  have H10 := Lib.hid (fun (g gr : Nat) (A : Option Addr) (c : Nat) (w1 : World) (h : WkE w w1 g gr s7 ⟨0, 0⟩ A c) => wk_out (V := s7) (M := []) h g7 (by rfl) (by rfl))
  have H11 := Lib.hid (fun (g gr : Nat) (A : Option Addr) (c : Nat) (w1 : World) (h : WkE w w1 g gr s7 ⟨0, 0⟩ A c) => wk_tick (V := s8) h g7 (by rfl))
  have H12 := Lib.hid (fun (g gr : Nat) (A : Option Addr) (c : Nat) (w1 : World) (h : WkE w w1 g gr s8 ⟨0, 0⟩ A c) => wk_out (V := s9) (M := [ib, ic]) h g8 (by rfl) (by rfl))
  have T1 := Lib.hid (fun (g gr : Nat) (A : Option Addr) (c : Nat) (w1 : World) (h : WkE w w1 g gr s9 ⟨0, 0⟩ A c) => wk_take (b := true) (V := ⟨1, 1⟩) h (by decide) (by decide) 1 1 (by rfl) (by rfl))
  have T2 := Lib.hid (fun (g gr : Nat) (A : Option Addr) (c : Nat) (w1 : World) (h : WkE w w1 g gr s9 ⟨1, 1⟩ A c) => wk_take (b := false) (V := ⟨1, 1⟩) h (by decide) (by decide) 1 1 (by rfl) (by rfl))
  have T3 := Lib.hid (fun (g gr : Nat) (A : Option Addr) (c : Nat) (w1 : World) (h : WkE w w1 g gr s9 ⟨1, 1⟩ A c) => wk_take (b := false) (V := ⟨1, 1⟩) h (by decide) (by decide) 1 3 (by rfl) (by rfl))
  have T4 := Lib.hid (fun (g gr : Nat) (A : Option Addr) (c : Nat) (w1 : World) (h : WkE w w1 g gr s9 ⟨1, 1⟩ A c) => wk_take (b := true) (V := ⟨2, 2⟩) h (by decide) (by decide) 2 2 (by rfl) (by rfl))
  have T5 := Lib.hid (fun (g gr : Nat) (A : Option Addr) (c : Nat) (w1 : World) (h : WkE w w1 g gr s9 ⟨2, 2⟩ A c) => wk_take (b := false) (V := ⟨2, 2⟩) h (by decide) (by decide) 1 3 (by rfl) (by rfl))
  have HWr : Hid (∀ w1, Calls Try.prog 54 #[.agg #[.int .i64 1, .int .i64 3, .int .i64 1, .int .i64 2, .string { data := #[98] }]] w1 fun e w' => e = .returned (.tuple #[sV tb, .int .i64 0]) ∧ Below w1.heap.size w1 w') := Lib.hid (fun w1 => by
    have := write_any (w := w1) fb (by decide)
    rw [fb_ok] at this
    exact this)
  have HRd : Hid (∀ w1, Calls Try.prog 55 #[sV tb] w1 fun e w' => e = .returned (.tuple #[.agg #[.int .i64 (rdV tb).k, .int .i64 (rdV tb).f, .int .i64 (rdV tb).e, .int .i64 2, .string { data := #[98] }], .int .i64 0]) ∧ Below w1.heap.size w1 w') := Lib.hid (fun w1 => by
    have := read_any tb (by rw [tb_len]; omega) w1
    obtain ⟨e1, e2, e3⟩ := tb_rd
    unfold fmC at this
    rw [e1, e2, e3] at this
    exact this)
  have HRc : Hid (∀ w1, Calls Try.prog 55 #[.string (({ data := tb.toArray } : ByteArray) ++ { data := #[99] })] w1 fun e w' => e = .returned (.tuple #[.agg (fmC noF), .int .i64 12]) ∧ Below w1.heap.size w1 w') := Lib.hid (fun w1 => by
    have := read_any (tb ++ [99]) (by rw [List.length_append, tb_len]; simp) w1
    have e1 := tc_rd
    have e2 : rdV (tb ++ [99]) = noF := by unfold rdV; rw [e1]; rfl
    rw [e1, e2] at this
    have e3 : ({ data := tb.toArray } : ByteArray) ++ { data := #[99] } = ⟨(tb ++ [99]).toArray⟩ := ByteArray.ext (by simp)
    rw [e3]
    exact this)
  have htl : tb.length = 9 := tb_len
  have htl2 : ¬ 9223372036854775807 < tb.length + 1 := by omega
  generalize tb = tx at HWr HRd HRc htl htl2
  generalize (rdV tx).k = v1 at HRd
  generalize (rdV tx).f = v2 at HRd
  generalize (rdV tx).e = v3 at HRd
  go_enter Try.func39, Try.ntmps39
  go_upto_region 5 with (first
    | (go_at_call 40; (with_reducible refine (HNR.out w1).mono ?_); rintro e w2 ⟨gr, rfl, b2, h2, r2⟩; have K2 : Hid (WkE w w2 g gr s0 ⟨0, 0⟩ none 0) := Lib.hid ⟨S1.out.below b2, r2, Nat.le_trans B1.out.size h2, then_below B1.out b2⟩; clear b2 h2 r2)
    | (go_at_call 25; (with_reducible refine HNS.out.mono ?_); rintro e w1 ⟨g, rfl, b1, s1⟩; have B1 := Lib.hid b1; have S1 := Lib.hid s1; clear b1 s1))
  clear HNS HNR S1 B1
  go_upto_region 8 with (first
    | (go_at_call 27; (with_reducible refine (H5.out _ _ _ _ _ K4.out).mono ?_); rintro e w5 ⟨rfl, ⟨A5, c5, k5⟩, -⟩; have K5 := Lib.hid k5; clear k5)
    | (go_at_call 27; (with_reducible refine (H4.out _ _ _ _ _ K3.out).mono ?_); rintro e w4 ⟨rfl, ⟨A4, c4, k4⟩, -⟩; have K4 := Lib.hid k4; clear k4)
    | (go_at_call 27; (with_reducible refine (H3.out _ _ _ _ _ K2.out).mono ?_); rintro e w3 ⟨rfl, ⟨A3, c3, k3⟩, -⟩; have K3 := Lib.hid k3; clear k3))
  clear K2 K3 K4 H3 H4 H5
  obtain ⟨z, hz⟩ : ∃ z, z = w5.heap.size := ⟨_, rfl⟩
  have HZ := Lib.hid hz
  have hzs : Hid (∀ j, SnS g A5 j → j < z) := Lib.hid (fun j hj => by rw [HZ.out]; exact (K5.out.s.sns hj).2)
  have hzr : Hid (gr < z) := Lib.hid (by rw [HZ.out]; exact K5.out.r.inside)
  have Z5 : Hid (z ≤ w5.heap.size) := Lib.hid (by rw [HZ.out]; exact Nat.le_refl _)
  clear hz HZ
  go_upto_region 15 with (first
    | (go_at_call 35; (with_reducible refine (H12.out _ _ _ _ _ K11.out).mono ?_); rintro e w12 ⟨Ad, cd, rfl, o12, k12, t12, -⟩; have K12 := Lib.hid k12; have Z12 : Hid (z ≤ w12.heap.size) := Lib.hid (Nat.le_trans Z11.out t12.size); have A12 := Lib.hid (own_turn A11.out t12 hzs.out); have B12 := Lib.hid (own_turn B11.out t12 hzs.out); have D12 := Lib.hid (own_lower o12 Z11.out); clear k12 t12 o12)
    | (go_at_call 31; (with_reducible refine (H11.out _ _ _ _ _ K10.out).mono ?_); rintro e w11 ⟨rfl, k11, t11, -⟩; have K11 := Lib.hid k11; have Z11 : Hid (z ≤ w11.heap.size) := Lib.hid (Nat.le_trans Z10.out t11.size); have A11 := Lib.hid (own_turn A10.out t11 hzs.out); have B11 := Lib.hid (own_turn B10.out t11 hzs.out); clear k11 t11)
    | (go_at_call 35; (with_reducible refine (H10.out _ _ _ _ _ K9.out).mono ?_); rintro e w10 ⟨Ac, cc, rfl, o10, k10, t10, -⟩; have K10 := Lib.hid k10; have Z10 : Hid (z ≤ w10.heap.size) := Lib.hid (Nat.le_trans Z9.out t10.size); have A10 := Lib.hid (own_turn A9.out t10 hzs.out); have B10 := Lib.hid (own_turn B9.out t10 hzs.out); clear k10 t10 o10)
    | (go_at_call 31; (with_reducible refine (H9.out _ _ _ _ _ K8.out).mono ?_); rintro e w9 ⟨rfl, k9, t9, -⟩; have K9 := Lib.hid k9; have Z9 : Hid (z ≤ w9.heap.size) := Lib.hid (Nat.le_trans Z8.out t9.size); have A9 := Lib.hid (own_turn A8.out t9 hzs.out); have B9 := Lib.hid (own_turn B8.out t9 hzs.out); clear k9 t9)
    | (go_at_call 35; (with_reducible refine (H8.out _ _ _ _ _ K7.out).mono ?_); rintro e w8 ⟨Ab, cb, rfl, o8, k8, t8, -⟩; have K8 := Lib.hid k8; have Z8 : Hid (z ≤ w8.heap.size) := Lib.hid (Nat.le_trans Z7.out t8.size); have A8 := Lib.hid (own_turn A7.out t8 hzs.out); have B8 := Lib.hid (own_lower o8 Z7.out); clear k8 t8 o8)
    | (go_at_call 29; (with_reducible refine (H7.out _ _ _ _ _ K6.out).mono ?_); rintro e w7 ⟨rfl, k7, t7, -⟩; have K7 := Lib.hid k7; have Z7 : Hid (z ≤ w7.heap.size) := Lib.hid (Nat.le_trans Z6.out t7.size); have A7 := Lib.hid (own_turn A6.out t7 hzs.out); clear k7 t7)
    | (go_at_call 35; (with_reducible refine (H6.out _ _ _ _ _ K5.out).mono ?_); rintro e w6 ⟨Aa, ca, rfl, o6, k6, t6, -⟩; have K6 := Lib.hid k6; have Z6 : Hid (z ≤ w6.heap.size) := Lib.hid (Nat.le_trans Z5.out t6.size); have A6 := Lib.hid (own_lower o6 Z5.out); clear k6 t6 o6))
  clear K5 K6 K7 K8 K9 K10 K11 Z5 Z6 Z7 Z8 Z9 Z10 Z11 H6 H7 H8 H9 H10 H11 H12 A6 A7 A8 A9 A10 A11 B8 B9 B10 B11
  go_upto_region 16 with (go_at_call 54; (with_reducible refine (HWr.out w12).mono ?_); rintro e w13 ⟨rfl, b13⟩; have K13 := Lib.hid (K12.out.more b13); have A13 := Lib.hid (A12.out.below b13); have B13 := Lib.hid (B12.out.below b13); have D13 := Lib.hid (D12.out.below b13); clear b13)
  go_upto_region 17 with (go_at_call 55; (with_reducible refine (HRd.out w13).mono ?_); rintro e w14 ⟨rfl, b14⟩; have K14 := Lib.hid (K13.out.more b14); have A14 := Lib.hid (A13.out.below b14); have B14 := Lib.hid (B13.out.below b14); have D14 := Lib.hid (D13.out.below b14); clear b14)
  change Code.wp _ _ _ _ (w14.alloc (.cells #[.int .i64 v1, .int .i64 v2, .int .i64 v3, .int .i64 2, .string { data := #[98] }] 88))
  have b15 := fresh1 w14 (.cells #[.int .i64 v1, .int .i64 v2, .int .i64 v3, .int .i64 2, .string { data := #[98] }] 88)
  have K15 := Lib.hid (K14.out.more b15)
  have X15 := Lib.hid (Whole.fresh w14 88 #[.int .i64 v1, .int .i64 v2, .int .i64 v3, .int .i64 2, .string { data := #[98] }])
  have A15 := Lib.hid (A14.out.below b15)
  have B15 := Lib.hid (B14.out.below b15)
  have D15 := Lib.hid (D14.out.below b15)
  clear b15 K12 K13 K14 A12 A13 A14 B12 B13 B14 D12 D13 D14
  generalize w14.alloc (.cells #[.int .i64 v1, .int .i64 v2, .int .i64 v3, .int .i64 2, .string { data := #[98] }] 88) = w15 at K15 X15 A15 B15 D15 ⊢
  generalize w14.heap.size = gx at X15 ⊢
  obtain ⟨ga, rfl, -, -, -⟩ := own_cells A15.out
  obtain ⟨gb, rfl, -, -, -⟩ := own_cells B15.out
  obtain ⟨gd, rfl, -, -, -⟩ := own_cells D15.out
  have HA : Hid (∀ w1, Below w15.heap.size w15 w1 → w1.cell? ⟨ga, 0, none⟩ = some (.int .i64 1) ∧ w1.cell? ⟨ga, 1, none⟩ = some (.string { data := #[97] }) ∧ w1.frozen? ⟨ga, 0, none⟩ = false) := Lib.hid (fun w1 b => by
    obtain ⟨gq, e, h⟩ := own_cells (A15.out.below b)
    cases e
    exact h)
  have HB : Hid (∀ w1, Below w15.heap.size w15 w1 → w1.cell? ⟨gb, 0, none⟩ = some (.int .i64 3)) := Lib.hid (fun w1 b => by
    obtain ⟨gq, e, h⟩ := own_cells (B15.out.below b)
    cases e
    exact h.1)
  have HD : Hid (∀ w1, Below w15.heap.size w15 w1 → w1.cell? ⟨gd, 0, none⟩ = some (.int .i64 2)) := Lib.hid (fun w1 b => by
    obtain ⟨gq, e, h⟩ := own_cells (D15.out.below b)
    cases e
    exact h.1)
  clear A15 B15 D15
  go_wp2_with (first
    | (go_at_call 42; (with_reducible refine (T5.out _ _ _ _ _ K21.out).mono ?_); rintro e w22 ⟨rfl, k22, -, tw22⟩; have K22 := Lib.hid k22; have X22 := Lib.hid (whole_tw X21.out tw22 (by decide) (by decide) (by decide)); have p3 : w22.cell? ⟨gx, 3, none⟩ = some (.int .i64 2) := X22.out.read 3; have p4 : w22.cell? ⟨gx, 4, none⟩ = some (.string { data := #[98] }) := X22.out.read 4; clear k22 tw22)
    | (go_at_call 42; (with_reducible refine (T4.out _ _ _ _ _ K20.out).mono ?_); rintro e w21 ⟨rfl, k21, -, tw21⟩; have K21 := Lib.hid k21; have X21 := Lib.hid (whole_tw X20.out tw21 (by decide) (by decide) (by decide)); clear k21 tw21)
    | (go_at_call 42; (with_reducible refine (T3.out _ _ _ _ _ K19.out).mono ?_); rintro e w20 ⟨rfl, k20, -, tw20⟩; have K20 := Lib.hid k20; have X20 := Lib.hid (whole_tw X19.out tw20 (by decide) (by decide) (by decide)); clear k20 tw20)
    | (go_at_call 42; (with_reducible refine (T2.out _ _ _ _ _ K18.out).mono ?_); rintro e w19 ⟨rfl, k19, -, tw19⟩; have K19 := Lib.hid k19; have X19 := Lib.hid (whole_tw X18.out tw19 (by decide) (by decide) (by decide)); clear k19 tw19)
    | (go_at_call 42; (with_reducible refine (T1.out _ _ _ _ _ K17.out).mono ?_); rintro e w18 ⟨rfl, k18, -, tw18⟩; have K18 := Lib.hid k18; have X18 := Lib.hid (whole_tw X17.out tw18 (by decide) (by decide) (by decide)); clear k18 tw18)
    | (go_at_call 55; (with_reducible refine (HRc.out w15).mono ?_); rintro e w16 ⟨rfl, b16⟩; have b17 := then_below b16 (fresh1 w16 (.cells (fmC noF) 88)); have K17 := Lib.hid (K15.out.more b17); have X17 := Lib.hid (X15.out.below b17 X15.out.inside); obtain ⟨ya, yb, yc⟩ := HA.out _ b17; have yd := HB.out _ b17; have ye := HD.out _ b17; clear b16 b17))
  go_ret
  exact ⟨rfl, K22.out.below⟩
end Go.Proofs.Ytbomlapmoiamgaa.hop
