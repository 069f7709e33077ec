/-
  watershedlaw12.works: the program's own answers to a few questions are right.
-/
import Derived.Test.YtpbdfiddgbkkmaaDoorFo
import Derived.Test.YtpbdfiddgbkkmaaDoorOn1
import Derived.Test.YtpbdfiddgbkkmaaDoorDtb
namespace Go.Proofs.YtpbdfiddgbkkmaaDoor.oper
open Go.ChangeShapes Go.WideShapes Go.ChangeAt Go.RowKit
open Go.Proofs.YtpbdfiddgbkkmaaDoor.tm Go.Proofs.YtpbdfiddgbkkmaaDoor.opened Go.Proofs.YtpbdfiddgbkkmaaDoor.block Go.Proofs.YtpbdfiddgbkkmaaDoor.region Go.Proofs.YtpbdfiddgbkkmaaDoor.data Go.Proofs.YtpbdfiddgbkkmaaDoor.words

def L0 : List Rc := [⟨1, 2⟩, ⟨2, 5⟩, ⟨1, 3⟩]
theorem L0_in : InR L0 := by
  intro r hr
  simp [L0] at hr
  rcases hr with rfl | rfl | rfl <;> decide
theorem L0_fold : foldV 11 L0 = [⟨1, 5⟩, ⟨2, 5⟩] := by decide +kernel
theorem L0_text : txtL [⟨1, 5⟩, ⟨2, 5⟩] = [49, 58, 53, 44, 50, 58, 53] := by decide +kernel
theorem L0_lies (w : World) : Lr (w.alloc (.cells #[.int .i64 1, .int .i64 2, .int .i64 2, .int .i64 5, .int .i64 1, .int .i64 3] 33)) (some ⟨w.heap.size, 0, none⟩) L0 := by
  have W := Whole.fresh w 33 #[.int .i64 1, .int .i64 2, .int .i64 2, .int .i64 5, .int .i64 1, .int .i64 3]
  refine .inr ⟨w.heap.size, 0, rfl, W.inside, fun i x hx => ?_⟩
  match i, hx with
  | 0, hx =>
    simp [L0] at hx
    subst hx
    exact ⟨rfl, fun j hj => match j, hj with | 0, _ => W.read 0 | 1, _ => W.read 1⟩
  | 1, hx =>
    simp [L0] at hx
    subst hx
    exact ⟨rfl, fun j hj => match j, hj with | 0, _ => W.read 2 | 1, _ => W.read 3⟩
  | 2, hx =>
    simp [L0] at hx
    subst hx
    exact ⟨rfl, fun j hj => match j, hj with | 0, _ => W.read 4 | 1, _ => W.read 5⟩
  | i + 3, hx => simp [L0] at hx
theorem keeps_bel (k : Int) (w : World) : Calls Tryd.prog 13 #[.int .i64 k] w fun e w' => e = .returned (.bool (keepsB k)) ∧ Below w.heap.size w w' := (keeps_any k w).mono fun _ _ ⟨h1, h2⟩ => ⟨h1, h2 ▸ Below.refl _ _⟩
set_option maxRecDepth 100000 in
set_option maxHeartbeats 4000000 in
theorem works_any (w : World) : Calls Tryd.prog 6 #[] w fun e w' => e = .returned (.bool true) ∧ Below w.heap.size w w' := by
  have b1 := fresh0 w (.cells #[.int .i64 1, .int .i64 2, .int .i64 2, .int .i64 5, .int .i64 1, .int .i64 3] 33)
  have F1 := Lib.hid (fold_any 11 _ 3 L0 L0_in (by decide) _ (L0_lies w))
  have F2 := Lib.hid (fun w0 => fold_any 3 none 0 [] (by intro r h; cases h) (by decide) w0 (lg_nil _ _))
  have T1 := Lib.hid (fun B c w0 h => text_any [⟨1, 5⟩, ⟨2, 5⟩] (by intro r hr; simp at hr; rcases hr with rfl | rfl <;> decide) B c (by decide) (by intro r hr; simp at hr; rcases hr with rfl | rfl <;> simp [Dig]) w0 h)
  have K1 := Lib.hid (fun w0 => one_any ⟨ByteArray.empty, 3, 0, 0, 2, 1⟩ ⟨7, 3⟩ ⟨by decide, by decide, by decide⟩ (by decide) w0)
  have K2 := Lib.hid (fun w0 => one_any ⟨ByteArray.empty, 4, 0, 0, 5, 1⟩ ⟨0, -4⟩ ⟨by decide, by decide, by decide⟩ (by decide) w0)
  have K3 := Lib.hid (fun w0 => one_any ⟨ByteArray.empty, 4, 0, 0, 5, 1⟩ ⟨0, 4⟩ ⟨by decide, by decide, by decide⟩ (by decide) w0)
  have KA := Lib.hid (fun w0 => keeps_bel 12 w0)
  have KB := Lib.hid (fun w0 => keeps_bel 3 w0)
  rw [L0_text] at T1
  rw [show keepsB 11 = true from rfl] at F1
  rw [show keepsB 3 = false from rfl] at F2 KB
  rw [show keepsB 12 = true from rfl] at KA
  simp only [if_true, L0_fold] at F1
  simp only [Bool.false_eq_true, if_false] at F2
  rw [show oneV 3 2 1 ⟨7, 3⟩ = some ⟨7, 7⟩ by decide +kernel] at K1
  rw [show oneV 4 5 1 ⟨0, -4⟩ = some ⟨0, -4⟩ by decide +kernel] at K2
  rw [show oneV 4 5 1 ⟨0, 4⟩ = none by decide +kernel] at K3
  simp only [resV] at K1 K2 K3
  have B1 := Lib.hid b1
  clear b1
  go_enter Tryd.func6, Tryd.ntmps6
  go_upto_region 2 with (go_at_call 15; refine F1.out.mono ?_; rintro e w2 ⟨BX, cX, rfl, lx, b2⟩; have HT2 := Lib.hid lx; have HB2 := Lib.hid (B1.out.trans (b2.mono B1.out.size)); clear lx b2)
  go_upto_region 3 with (go_at_call 15; refine (F2.out _).mono ?_; rintro e w3 ⟨BY, cY, rfl, ly, b3⟩; have HT3 := Lib.hid (HT2.out.below b3); have HB3 := Lib.hid (HB2.out.trans (b3.mono HB2.out.size)); clear ly b3)
  clear F1 F2 HT2 HB2 B1
  go_upto_region 4 with (go_at_call 16; refine (K1.out _).mono ?_; rintro e w4 ⟨rfl, b4⟩; have HT4 := Lib.hid (HT3.out.below b4); have HB4 := Lib.hid (HB3.out.trans (b4.mono HB3.out.size)); clear b4)
  change Code.wp _ _ _ _ (w4.alloc (.cells #[.int .i64 7, .int .i64 7] 33))
  have b5 := fresh0 w4 (.cells #[.int .i64 7, .int .i64 7] 33)
  have HW5 := Lib.hid (Whole.fresh w4 33 #[.int .i64 7, .int .i64 7])
  have HT5 := Lib.hid (HT4.out.below b5)
  have HB5 := Lib.hid (HB4.out.trans (b5.mono HB4.out.size))
  generalize w4.alloc (.cells #[.int .i64 7, .int .i64 7] 33) = w5 at HW5 HT5 HB5 ⊢
  generalize w4.heap.size = g5 at HW5 ⊢
  clear b5 HT4 HB4 HT3 HB3 K1
  go_upto_region 5 with (go_at_call 16; refine (K2.out _).mono ?_; rintro e w6 ⟨rfl, b6⟩; have HT6 := Lib.hid (HT5.out.below b6); have HB6 := Lib.hid (HB5.out.trans (b6.mono HB5.out.size)); have HW6 := Lib.hid (HW5.out.below b6 HW5.out.inside); clear b6)
  change Code.wp _ _ _ _ (w6.alloc (.cells #[.int .i64 0, .int .i64 (-4)] 33))
  have b7 := fresh0 w6 (.cells #[.int .i64 0, .int .i64 (-4)] 33)
  have HV7 := Lib.hid (Whole.fresh w6 33 #[.int .i64 0, .int .i64 (-4)])
  have HW7 := Lib.hid (HW6.out.below b7 HW6.out.inside)
  have HT7 := Lib.hid (HT6.out.below b7)
  have HB7 := Lib.hid (HB6.out.trans (b7.mono HB6.out.size))
  generalize w6.alloc (.cells #[.int .i64 0, .int .i64 (-4)] 33) = w7 at HV7 HW7 HT7 HB7 ⊢
  generalize w6.heap.size = g7 at HV7 ⊢
  clear b7 HW5 HW6 HT5 HT6 HB5 HB6 K2
  go_upto_region 6 with (go_at_call 16; refine (K3.out _).mono ?_; rintro e w8 ⟨rfl, b8⟩; have b9 := b8.trans ((fresh0 w8 (.cells #[.int .i64 0, .int .i64 0] 33)).mono b8.size); have HT9 := Lib.hid (HT7.out.below b9); have HB9 := Lib.hid (HB7.out.trans (b9.mono HB7.out.size)); have HW9 := Lib.hid (HW7.out.below b9 HW7.out.inside); have HV9 := Lib.hid (HV7.out.below b9 HV7.out.inside); clear b8 b9)
  change Code.wp _ _ _ _ (w8.alloc (.cells #[.int .i64 0, .int .i64 0] 33))
  generalize w8.alloc (.cells #[.int .i64 0, .int .i64 0] 33) = w9 at HT9 HB9 HW9 HV9 ⊢
  generalize w8.heap.size = g9
  clear HW7 HV7 HT7 HB7 K3
  go_wp2_with (first
    | (go_at_call 13; refine (KB.out _).mono ?_; rintro e w12 ⟨rfl, b12⟩; have HB12 := Lib.hid (HB11.out.trans (b12.mono HB11.out.size)); clear b12)
    | (go_at_call 13; refine (KA.out _).mono ?_; rintro e w11 ⟨rfl, b11⟩; have HB11 := Lib.hid (HB10.out.trans (b11.mono HB10.out.size)); clear b11)
    | (go_at_call 17; refine (T1.out _ _ _ HT9.out).mono ?_; rintro e w10 ⟨rfl, b10⟩; have HB10 := Lib.hid (HB9.out.trans (b10.mono HB9.out.size)); obtain ⟨k0, k1, l0, l1⟩ : _ ∧ _ ∧ _ ∧ _ := ⟨(HW9.out.below b10 HW9.out.inside).read 0, (HW9.out.below b10 HW9.out.inside).read 1, (HV9.out.below b10 HV9.out.inside).read 0, (HV9.out.below b10 HV9.out.inside).read 1⟩; clear b10))
  go_ret
  exact ⟨by first | rfl | simp, HB12.out⟩
end Go.Proofs.YtpbdfiddgbkkmaaDoor.oper
