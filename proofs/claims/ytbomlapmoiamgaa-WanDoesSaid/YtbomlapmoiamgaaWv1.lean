/-
  law16's works.
-/
import Derived.Test.YtbomlapmoiamgaaWd9
set_option linter.unusedSimpArgs false
set_option linter.unusedVariables false
namespace Go.Proofs.Ytbomlapmoiamgaa.wan
open Go.ChangeShapes Go.WideShapes Go.ChangeAt Go.RowKit
open Go.Proofs.Ytbomlapmoiamgaa.opened Go.Proofs.Ytbomlapmoiamgaa.block Go.Proofs.Ytbomlapmoiamgaa.words Go.Proofs.Ytbomlapmoiamgaa.region
abbrev PP (B : Nat) (w : World) (g : Nat) (W : Wn) : Prop := WanP 94 34 B w g W
abbrev QQ (B : Nat) (w w' : World) : Prop := WB 94 34 B w w'
section
variable {B g : Nat} {W : Wn} {w : World}
theorem wanP_new (n : Int) (w : World) : PP w.heap.size (w.alloc (.cells (wanC n (.slice none 0 0) O0 0) 94)) w.heap.size ⟨n, [], O0, 0⟩ :=
  ⟨none, 0, Whole.fresh w _ _, ownG_nil _ _, Nat.le_refl _⟩
theorem p_send (h : PP B w g W) (G : GoodW W) (hc : W.c < 1000000) (l : Lt) (hl : l.s.length ≤ 100000000) {e : Int} (he : sendE W l = e) {V : Wn} (hv : sendV W l = V) : Calls Try.prog 9 #[.pointer (some ⟨g, 0, none⟩), l.val] w fun x w' => x = .returned (.int .i64 e) ∧ PP B w' g V ∧ QQ B w w' := by
  subst he hv
  obtain ⟨A, c, h⟩ := h
  exact send_any h G hc l hl
theorem p_double (h : PP B w g W) (G : GoodW W) (i : Int) {e : Int} (he : dblE W i = e) {V : Wn} (hv : dblV W i = V) : Calls Try.prog 14 #[.pointer (some ⟨g, 0, none⟩), .int .i64 i] w fun x w' => x = .returned (.int .i64 e) ∧ PP B w' g V ∧ QQ B w w' := by
  subst he hv
  obtain ⟨A, c, h⟩ := h
  exact double_any h G i
theorem p_take (h : PP B w g W) (G : GoodW W) (i : Int) {l : Lt} (hl : atV W i = l) {e : Int} (he : atE W i = e) {V : Wn} (hv : takeV W i = V) : Calls Try.prog 11 #[.pointer (some ⟨g, 0, none⟩), .int .i64 i] w fun x w' => x = .returned (.tuple #[l.val, .int .i64 e]) ∧ PP B w' g V ∧ QQ B w w' := by
  subst he hv hl
  obtain ⟨A, c, h⟩ := h
  exact take_any h G i
theorem p_cut (h : PP B w g W) (G : GoodW W) (hc : W.c + 96 ≤ 1000000) (a b : Int) (o : Bool) {e : Int} (he : cutE W a b = e) {V : Wn} (hv : cutV W a b o = V) : Calls Try.prog 16 #[.pointer (some ⟨g, 0, none⟩), .int .i64 a, .int .i64 b, .bool o] w fun x w' => x = .returned (.int .i64 e) ∧ PP B w' g V ∧ QQ B w w' := by
  subst he hv
  obtain ⟨A, c, h⟩ := h
  exact cut_any h G hc a b o
theorem p_at (h : PP B w g W) (G : GoodW W) (i : Int) : Calls Try.prog 22 #[.pointer (some ⟨g, 0, none⟩), .int .i64 i] w fun e w' => e = .returned (.tuple #[(atV W i).val, .int .i64 (atE W i)]) ∧ PP B w' g W ∧ QQ B w w' := by
  have hB := h.le
  obtain ⟨A, c, h⟩ := h
  refine (at_any h G i).mono ?_
  rintro e w' ⟨rfl, hb⟩
  exact ⟨rfl, ⟨A, c, h.below hb⟩, WB.of hb hB⟩
theorem p_waits (h : PP B w g W) {n : Int} (hn : (W.L.length : Int) = n) : Calls Try.prog 18 #[.pointer (some ⟨g, 0, none⟩)] w fun e w' => e = .returned (.int .i64 n) ∧ PP B w' g W ∧ QQ B w w' := by
  subst hn
  have hB := h.le
  obtain ⟨A, c, h⟩ := h
  refine (waits_any h).mono ?_
  rintro e w' ⟨rfl, hb⟩
  exact ⟨rfl, ⟨A, c, h.below hb⟩, WB.of hb hB⟩
theorem p_lost (h : PP B w g W) (G : GoodW W) : Calls Try.prog 19 #[.pointer (some ⟨g, 0, none⟩)] w fun e w' => e = .returned (.int .i64 W.c) ∧ PP B w' g W ∧ QQ B w w' := by
  have hB := h.le
  obtain ⟨A, c, h⟩ := h
  refine (lost_any h G).mono ?_
  rintro e w' ⟨rfl, hb⟩
  exact ⟨rfl, ⟨A, c, h.below hb⟩, WB.of hb hB⟩
theorem p_out (h : PP B w g W) (G : GoodW W) (a b : Int) {o : Bool} (ho : outB W a b = o) : Calls Try.prog 20 #[.pointer (some ⟨g, 0, none⟩), .int .i64 a, .int .i64 b] w fun e w' => e = .returned (.bool o) ∧ PP B w' g W ∧ QQ B w w' := by
  subst ho
  have hB := h.le
  obtain ⟨A, c, h⟩ := h
  refine (out_any h G a b).mono ?_
  rintro e w' ⟨rfl, hb⟩
  exact ⟨rfl, ⟨A, c, h.below hb⟩, WB.of hb hB⟩
end
def lA : Lt := ⟨0, 1, [97]⟩
def O1 : List Bool := O0.set 1 true
def w0 : Wn := ⟨2, [], O0, 0⟩
def w1 : Wn := ⟨2, [lA], O0, 0⟩
def w2 : Wn := ⟨2, [lA, lA], O0, 0⟩
def w4 : Wn := ⟨2, [], O1, 1⟩
def w5 : Wn := ⟨2, [], O1, 2⟩
set_option maxRecDepth 100000 in
theorem g0 : GoodW w0 := ⟨by decide, by decide, by decide, by decide, by decide, by decide⟩
set_option maxRecDepth 100000 in
theorem g1 : GoodW w1 := ⟨by decide, by decide, by decide, by decide, by decide, by decide⟩
set_option maxRecDepth 100000 in
theorem g2 : GoodW w2 := ⟨by decide, by decide, by decide, by decide, by decide, by decide⟩
set_option maxRecDepth 100000 in
theorem g4 : GoodW w4 := ⟨by decide, by decide, by decide, by decide, by decide, by decide⟩
set_option maxRecDepth 100000 in
theorem g5 : GoodW w5 := ⟨by decide, by decide, by decide, by decide, by decide, by decide⟩
set_option maxRecDepth 100000 in
set_option maxHeartbeats 4000000 in
theorem works_any (w : World) : Calls Try.prog 24 #[] w fun e w' => e = .returned (.bool true) ∧ Below w.heap.size w w' := by
  have HN := Lib.hid (new_any (w := w) 2 (by decide) (by decide))
  have HS1 : Hid (∀ wa, PP w.heap.size wa w.heap.size w0 → Calls Try.prog 9 #[.pointer (some ⟨w.heap.size, 0, none⟩), .agg #[.int .i64 0, .int .i64 1, .string { data := #[97] }]] wa fun x w' => x = .returned (.int .i64 0) ∧ PP w.heap.size w' w.heap.size w1 ∧ QQ w.heap.size wa w') := Lib.hid fun wa h => p_send h g0 (by decide) lA (by decide) (by rfl) (by rfl)
  have HD2 : Hid (∀ wa, PP w.heap.size wa w.heap.size w1 → Calls Try.prog 14 #[.pointer (some ⟨w.heap.size, 0, none⟩), .int .i64 0] wa fun x w' => x = .returned (.int .i64 0) ∧ PP w.heap.size w' w.heap.size w2 ∧ QQ w.heap.size wa w') := Lib.hid fun wa h => p_double h g1 0 (by rfl) (by rfl)
  have HW3 : Hid (∀ wa, PP w.heap.size wa w.heap.size w2 → Calls Try.prog 18 #[.pointer (some ⟨w.heap.size, 0, none⟩)] wa fun x w' => x = .returned (.int .i64 2) ∧ PP w.heap.size w' w.heap.size w2 ∧ QQ w.heap.size wa w') := Lib.hid fun wa h => p_waits h (by rfl)
  have HT4 : Hid (∀ wa, PP w.heap.size wa w.heap.size w2 → Calls Try.prog 11 #[.pointer (some ⟨w.heap.size, 0, none⟩), .int .i64 1] wa fun x w' => x = .returned (.tuple #[.agg #[.int .i64 0, .int .i64 1, .string { data := #[97] }], .int .i64 0]) ∧ PP w.heap.size w' w.heap.size w1 ∧ QQ w.heap.size wa w') := Lib.hid fun wa h => p_take h g2 1 (l := lA) (by rfl) (by rfl) (by rfl)
  have HC5 : Hid (∀ wa, PP w.heap.size wa w.heap.size w1 → Calls Try.prog 16 #[.pointer (some ⟨w.heap.size, 0, none⟩), .int .i64 0, .int .i64 1, .bool true] wa fun x w' => x = .returned (.int .i64 0) ∧ PP w.heap.size w' w.heap.size w4 ∧ QQ w.heap.size wa w') := Lib.hid fun wa h => p_cut h g1 (by decide) 0 1 true (by rfl) (by rfl)
  have HW6 : Hid (∀ wa, PP w.heap.size wa w.heap.size w4 → Calls Try.prog 18 #[.pointer (some ⟨w.heap.size, 0, none⟩)] wa fun x w' => x = .returned (.int .i64 0) ∧ PP w.heap.size w' w.heap.size w4 ∧ QQ w.heap.size wa w') := Lib.hid fun wa h => p_waits h (by rfl)
  have HL7 : Hid (∀ wa, PP w.heap.size wa w.heap.size w4 → Calls Try.prog 19 #[.pointer (some ⟨w.heap.size, 0, none⟩)] wa fun x w' => x = .returned (.int .i64 1) ∧ PP w.heap.size w' w.heap.size w4 ∧ QQ w.heap.size wa w') := Lib.hid fun wa h => p_lost h g4
  have HO8 : Hid (∀ wa, PP w.heap.size wa w.heap.size w4 → Calls Try.prog 20 #[.pointer (some ⟨w.heap.size, 0, none⟩), .int .i64 0, .int .i64 1] wa fun x w' => x = .returned (.bool true) ∧ PP w.heap.size w' w.heap.size w4 ∧ QQ w.heap.size wa w') := Lib.hid fun wa h => p_out h g4 0 1 (by rfl)
  have HS9 : Hid (∀ wa, PP w.heap.size wa w.heap.size w4 → Calls Try.prog 9 #[.pointer (some ⟨w.heap.size, 0, none⟩), .agg #[.int .i64 0, .int .i64 1, sV []]] wa fun x w' => x = .returned (.int .i64 14) ∧ PP w.heap.size w' w.heap.size w5 ∧ QQ w.heap.size wa w') := Lib.hid fun wa h => p_send h g4 (by decide) ⟨0, 1, []⟩ (by decide) (by rfl) (by rfl)
  have HL10 : Hid (∀ wa, PP w.heap.size wa w.heap.size w5 → Calls Try.prog 19 #[.pointer (some ⟨w.heap.size, 0, none⟩)] wa fun x w' => x = .returned (.int .i64 2) ∧ PP w.heap.size w' w.heap.size w5 ∧ QQ w.heap.size wa w') := Lib.hid fun wa h => p_lost h g5
  have HS11 : Hid (∀ wa, PP w.heap.size wa w.heap.size w5 → Calls Try.prog 9 #[.pointer (some ⟨w.heap.size, 0, none⟩), .agg #[.int .i64 1, .int .i64 1, sV []]] wa fun x w' => x = .returned (.int .i64 1) ∧ PP w.heap.size w' w.heap.size w5 ∧ QQ w.heap.size wa w') := Lib.hid fun wa h => p_send h g5 (by decide) ⟨1, 1, []⟩ (by decide) (by rfl) (by rfl)
  go_enter Try.func24, Try.ntmps24
  go_upto_region 2 with (go_at_call 7; (with_reducible refine HN.out.mono ?_); rintro e wa ⟨rfl, rfl⟩; have P0 : Hid (PP w.heap.size (w.alloc (.cells (wanC 2 (.slice none 0 0) O0 0) 94)) w.heap.size w0) := Lib.hid (wanP_new 2 w); have Q0 : Hid (QQ w.heap.size w (w.alloc (.cells (wanC 2 (.slice none 0 0) O0 0) 94))) := Lib.hid (WB.of (fresh1 w _) (Nat.le_refl _)))
  clear HN
  generalize w.alloc (.cells (wanC 2 (.slice none 0 0) O0 0) 94) = wa at P0 Q0 ⊢
  go_upto_region 4 with (first
    | (go_at_call 18; (with_reducible refine (HW3.out _ P2.out).mono ?_); rintro e wd ⟨rfl, p3, q3⟩; have P3 := Lib.hid p3; have Q3 := Lib.hid (Q2.out.trans q3); clear p3 q3)
    | (go_at_call 14; (with_reducible refine (HD2.out _ P1.out).mono ?_); rintro e wc ⟨rfl, p2, q2⟩; have P2 := Lib.hid p2; have Q2 := Lib.hid (Q1.out.trans q2); clear p2 q2)
    | (go_at_call 9; (with_reducible refine (HS1.out _ P0.out).mono ?_); rintro e wb ⟨rfl, p1, q1⟩; have P1 := Lib.hid p1; have Q1 := Lib.hid (Q0.out.trans q1); clear p1 q1))
  go_upto_region 5 with (go_at_call 11; (with_reducible refine (HT4.out _ P3.out).mono ?_); rintro e we ⟨rfl, p4, q4⟩; have P4 := Lib.hid p4; have Q4 := Lib.hid (Q3.out.trans q4); clear p4 q4)
  change Code.wp _ _ _ _ (we.alloc (.cells (cL lA).toArray 34))
  have R5 := Whole.fresh we 34 (cL lA).toArray
  have k1 : (we.alloc (.cells (cL lA).toArray 34)).cell? ⟨we.heap.size, 1, none⟩ = some (.int .i64 1) := R5.read 1
  have k2 : (we.alloc (.cells (cL lA).toArray 34)).cell? ⟨we.heap.size, 2, none⟩ = some (.string { data := #[97] }) := R5.read 2
  have P5 := Lib.hid (P4.out.below (fresh1 we (.cells (cL lA).toArray 34)))
  have Q5 : Hid (QQ w.heap.size w (we.alloc (.cells (cL lA).toArray 34))) := Lib.hid (Q4.out.trans (WB.of (fresh1 we _) P4.out.le))
  clear R5
  generalize we.alloc (.cells (cL lA).toArray 34) = wf at k1 k2 P5 Q5 ⊢
  go_wp2_with (first
    | (go_at_call 9; (with_reducible refine (HS11.out _ P11.out).mono ?_); rintro e wm ⟨rfl, p12, q12⟩; have P12 := Lib.hid p12; have Q12 := Lib.hid (Q11.out.trans q12); clear p12 q12)
    | (go_at_call 19; (with_reducible refine (HL10.out _ P10.out).mono ?_); rintro e wl ⟨rfl, p11, q11⟩; have P11 := Lib.hid p11; have Q11 := Lib.hid (Q10.out.trans q11); clear p11 q11)
    | (go_at_call 9; (with_reducible refine (HS9.out _ P9.out).mono ?_); rintro e wk ⟨rfl, p10, q10⟩; have P10 := Lib.hid p10; have Q10 := Lib.hid (Q9.out.trans q10); clear p10 q10)
    | (go_at_call 20; (with_reducible refine (HO8.out _ P8.out).mono ?_); rintro e wj ⟨rfl, p9, q9⟩; have P9 := Lib.hid p9; have Q9 := Lib.hid (Q8.out.trans q9); clear p9 q9)
    | (go_at_call 19; (with_reducible refine (HL7.out _ P7.out).mono ?_); rintro e wi ⟨rfl, p8, q8⟩; have P8 := Lib.hid p8; have Q8 := Lib.hid (Q7.out.trans q8); clear p8 q8)
    | (go_at_call 18; (with_reducible refine (HW6.out _ P6.out).mono ?_); rintro e wh ⟨rfl, p7, q7⟩; have P7 := Lib.hid p7; have Q7 := Lib.hid (Q6.out.trans q7); clear p7 q7)
    | (go_at_call 16; (with_reducible refine (HC5.out _ P5.out).mono ?_); rintro e wg ⟨rfl, p6, q6⟩; have P6 := Lib.hid p6; have Q6 := Lib.hid (Q5.out.trans q6); clear p6 q6 k1 k2))
  go_ret
  exact ⟨rfl, Q12.out.below⟩
end Go.Proofs.Ytbomlapmoiamgaa.wan
