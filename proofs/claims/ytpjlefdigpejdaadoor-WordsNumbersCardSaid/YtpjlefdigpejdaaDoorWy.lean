/-
  The law's own trial of a program (works): it comes out true.
-/
import Derived.Test.YtpjlefdigpejdaaDoorWx
import Derived.Test.YtpjlefdigpejdaaDoorWn
import Derived.Test.YtpjlefdigpejdaaDoorWt
namespace Go.Proofs.YtpjlefdigpejdaaDoor.words
open Go.ChangeShapes Go.WideShapes Go.ChangeAt Go.RowKit
open Go.Proofs.YtpjlefdigpejdaaDoor.opened Go.Proofs.YtpjlefdigpejdaaDoor.block

theorem sg7 : sgP [55] = some 7 := by
  have e : Lib.itoa 7 = [55] := by rw [show (7 : Int) = ((7 : Nat) : Int) from rfl, Lib.itoa_nonneg, Lib.decDigits_one (by omega)]; rfl
  rw [← e]
  exact sg_itoa 7 (by omega) (by omega)
theorem sg10 : sgP [49, 48] = some 10 := by
  have e : Lib.itoa 10 = [49, 48] := by rw [show (10 : Int) = ((10 : Nat) : Int) from rfl, Lib.itoa_nonneg, Lib.decDigits_two (by omega) (by omega)]; rfl
  rw [← e]
  exact sg_itoa 10 (by omega) (by omega)
theorem sg07 : sgP [48, 55] = none := by
  have e : Lib.itoa 7 = [55] := by rw [show (7 : Int) = ((7 : Nat) : Int) from rfl, Lib.itoa_nonneg, Lib.decDigits_one (by omega)]; rfl
  unfold sgP
  rw [show Lib.parseIntB 64 [48, 55] = .ok 7 by decide +kernel]
  simp [e]
theorem in7 : inV [55] 0 9 = 7 ∧ inE [55] 0 9 = 0 := by
  obtain ⟨e1, e2⟩ := sgE_some sg7
  unfold inV inE
  rw [e1, e2]
  decide
theorem in07 : inV [48, 55] 0 9 = 0 ∧ inE [48, 55] 0 9 = 6 := by
  obtain ⟨e1, e2⟩ := sgE_none sg07
  unfold inV inE
  rw [e1]
  decide
theorem in10 : inV [49, 48] 0 9 = 0 ∧ inE [49, 48] 0 9 = 1 := by
  obtain ⟨e1, e2⟩ := sgE_some sg10
  unfold inV inE
  rw [e1, e2]
  decide
theorem num5 : Lib.itoa (-5) = [45, 53] := by
  rw [show (-5 : Int) = -((5 : Nat) : Int) from rfl, Lib.itoa_neg 5 (by omega), Lib.decDigits_one (by omega)]
  rfl
set_option maxRecDepth 100000 in
set_option maxHeartbeats 1000000 in
theorem works_any (w : World) (hE : Env w) : Calls Tryd.prog 12 #[] w fun e w' => e = .returned (.bool true) ∧ Below w.heap.size w w' := by
  have E0 := Lib.hid hE
  clear hE
  have CA := Lib.hid (fun w2 h2 => int_any [55] (by simp) 0 9 w2 h2)
  have CB := Lib.hid (fun w2 h2 => int_any [48, 55] (by simp) 0 9 w2 h2)
  have CC := Lib.hid (fun w2 h2 => int_any [49, 48] (by simp) 0 9 w2 h2)
  rw [in7.1, in7.2] at CA
  rw [in07.1, in07.2] at CB
  rw [in10.1, in10.2] at CC
  go_enter Tryd.func12, Tryd.ntmps12
  go_wp2_with fail
  refine (CA.out _ E0.out).mono ?_
  rintro e w1 ⟨rfl, b1⟩
  have E1 := Lib.hid (E0.out.below b1)
  have B1 := Lib.hid b1
  clear b1 CA
  go_wp2_with fail
  refine (CB.out _ E1.out).mono ?_
  rintro e w2 ⟨rfl, b2⟩
  have E2 := Lib.hid (E1.out.below b2)
  have B2 := Lib.hid (then_below B1.out b2)
  clear b2 CB E1 B1
  go_wp2_with fail
  refine (CC.out _ E2.out).mono ?_
  rintro e w3 ⟨rfl, b3⟩
  have E3 := Lib.hid (E2.out.below b3)
  have B3 := Lib.hid (then_below B2.out b3)
  clear b3 CC E2 B2
  go_wp2_with fail
  refine (option_any _ _ [[97], [107, 61, 118]] [107] (by simp) (by simp) _ (ownS_lit w3 [[97], [107, 61, 118]] (by simp) _ rfl).lies).mono ?_
  rw [show (optL [107] [[97], [107, 61, 118]]).1 = [118] from rfl, show (optL [107] [[97], [107, 61, 118]]).2 = true from rfl]
  rintro e w4 ⟨rfl, rfl⟩
  have b4 := fresh1 w3 (.cells #[sV [97], sV [107, 61, 118]] 9)
  have E4 := Lib.hid (E3.out.below b4)
  have B4 := Lib.hid (then_below B3.out b4)
  clear b4 E3 B3
  go_wp2_with fail
  refine (split_any [97, 32, 32, 98, 32, 35, 99] (by simp) _ E4.out.max).mono ?_
  rw [show splitL [97, 32, 32, 98, 32, 35, 99] = [[97], [98]] by decide]
  rintro e w5 ⟨A5, c5, rfl, h5, b5⟩
  have H5 := Lib.hid (h5.lies.below (fresh1 w5 (.cells #[sV [97], sV [98]] 9)))
  have E5 := Lib.hid ((E4.out.below b5).below (fresh1 w5 (.cells #[sV [97], sV [98]] 9)))
  have B5 := Lib.hid (then_below (then_below B4.out b5) (fresh1 w5 (.cells #[sV [97], sV [98]] 9)))
  clear h5 b5 E4 B4
  go_wp2_with fail
  have L5 := Lib.hid (ownS_lit w5 [[97], [98]] (by simp) _ rfl).lies
  refine (same_any _ _ _ _ [[97], [98]] [[97], [98]] (by simp) _ H5.out L5.out).mono ?_
  rw [decide_eq_true rfl]
  rintro e w7 ⟨rfl, b7⟩
  have E7 := Lib.hid (E5.out.below b7)
  have B7 := Lib.hid (then_below B5.out b7)
  clear b7 E5 B5 H5 L5
  go_wp2_with fail
  refine (lines_any [97, 10, 10, 98, 10] (by simp) _ E7.out.max).mono ?_
  rw [show linesL [97, 10, 10, 98, 10] = [[97], [], [98]] by decide]
  rintro e w8 ⟨A8, c8, rfl, h8, b8⟩
  have H8 := Lib.hid (h8.lies.below (fresh1 w8 (.cells #[sV [97], sV [], sV [98]] 9)))
  have E8 := Lib.hid ((E7.out.below b8).below (fresh1 w8 (.cells #[sV [97], sV [], sV [98]] 9)))
  have B8 := Lib.hid (then_below (then_below B7.out b8) (fresh1 w8 (.cells #[sV [97], sV [], sV [98]] 9)))
  clear h8 b8 E7 B7
  go_wp2_with fail
  have L8 := Lib.hid (ownS_lit w8 [[97], [], [98]] (by simp) _ rfl).lies
  refine (same_any _ _ _ _ [[97], [], [98]] [[97], [], [98]] (by simp) _ H8.out L8.out).mono ?_
  rw [decide_eq_true rfl]
  rintro e w10 ⟨rfl, b10⟩
  have E10 := Lib.hid (E8.out.below b10)
  have B10 := Lib.hid (then_below B8.out b10)
  clear b10 E8 B8 H8 L8
  go_wp2_with fail
  refine (name_any [97, 49] (by simp) _).mono ?_
  rw [show nameB [97, 49] = true by decide]
  rintro e w11 ⟨rfl, b11⟩
  have E11 := Lib.hid (E10.out.below b11)
  have B11 := Lib.hid (then_below B10.out b11)
  clear b11 E10 B10
  go_wp2_with fail
  refine (name_any [49, 97] (by simp) _).mono ?_
  rw [show nameB [49, 97] = false by decide]
  rintro e w12 ⟨rfl, b12⟩
  have E12 := Lib.hid (E11.out.below b12)
  have B12 := Lib.hid (then_below B11.out b12)
  clear b12 E11 B11
  go_wp2_with fail
  refine (number_any (-5) (by omega) (by omega) _ E12.out).mono ?_
  rw [num5]
  rintro e w13 ⟨rfl, b13⟩
  have B13 := Lib.hid (then_below B12.out b13)
  clear b13 E12 B12
  go_wp2_with fail
  go_ret
  exact ⟨rfl, B13.out⟩
end Go.Proofs.YtpjlefdigpejdaaDoor.words
