/-
  The walk of DataOrders.
-/
import Derived.Test.YtaiaadojnoipfaaDso
import Derived.Test.YtaiaadojnoipfaaDsR
import Derived.Test.YtaiaadojnoipfaaDli
import Derived.Test.YtaiaadojnoipfaaDct
import Derived.Test.YtaiaadojnoipfaaDspR
namespace Go.Proofs.Ytaiaadojnoipfaa.data
open Go.ChangeShapes Go.WideShapes Go.ChangeAt Go.RowKit
open Go.Proofs.Ytaiaadojnoipfaa.opened Go.Proofs.Ytaiaadojnoipfaa.block Go.Proofs.Ytaiaadojnoipfaa.region Go.Proofs.Ytaiaadojnoipfaa.num

theorem alike_self (A B : Option Addr) (c d : Nat) (N : List Rc) (hM : N.length ≤ 1000000) (w : World) (h1 : Lr w A N) (h2 : Lr w B N) :
    Calls Try.prog 8 #[.slice A N.length c, .slice B N.length d] w fun e w' => e = .returned (.bool true) ∧ Below w.heap.size w w' := by
  have h := alike_any A B c d N N hM w h1 h2
  rwa [decide_eq_true (rfl : N = N)] at h
theorem lists_self (A B : Option Addr) (c d : Nat) (N : List (List Rc)) (hM : N.length ≤ 1000000) (hM2 : ∀ x ∈ N, x.length ≤ 1000000) (w : World) (h1 : LL 2 cR w A N) (h2 : LL 2 cR w B N) :
    Calls Try.prog 13 #[.slice A N.length c, .slice B N.length d] w fun e w' => e = .returned (.bool true) ∧ Below w.heap.size w w' := by
  have h := lists_any A B c d N N hM hM2 w h1 h2
  rwa [decide_eq_true (rfl : N = N)] at h
theorem sprV_len (n : Int) (L : List Rc) : (sprV n L).length ≤ 64 := by
  unfold sprV
  split
  · rw [spr_len]; omega
  · simp
theorem sprV_mem (n : Int) (L : List Rc) : ∀ x ∈ sprV n L, x.length ≤ L.length := by
  intro x hx
  unfold sprV at hx
  split at hx
  · unfold spr at hx
    obtain ⟨i, -, rfl⟩ := List.mem_map.1 hx
    exact List.length_filter_le _ _
  · cases hx
theorem pcs_mem (L : List Rc) : ∀ x ∈ pcs L, x.length ≤ 64 := by
  intro x hx
  obtain ⟨i, hi⟩ := List.getElem?_of_mem hx
  exact (pcs_sizes hi).2.1
set_option maxRecDepth 100000 in
set_option maxHeartbeats 2000000 in
theorem walkO (AL : Option Addr) (cL : Nat) (L : List Rc) (AM : Option Addr) (cM : Nat) (M : List Rc) (n : Int) (w : World) (hL : Lr w AL L) (hM : Lr w AM M) :
    Calls Try.prog 3 #[.slice AL L.length cL, .slice AM M.length cM, .int .i64 n] w fun e w' => e = .returned (.bool true) ∧ Below w.heap.size w w' := by
  by_cases hl : L.length ≤ 300
  · by_cases hm : M.length ≤ 300
    rotate_left
    · have hm' : (300 : Int) < (M.length : Int) := by omega
      have hl' : ¬ (300 : Int) < (L.length : Int) := by omega
      clear hL hM hl hm
      generalize M.length = m at hm' ⊢
      generalize L.length = l at hl' ⊢
      go_enter Try.func3, Try.ntmps3
      go_wp2_with fail
      go_ret
      exact ⟨rfl, Below.refl _ _⟩
    have hm' : ¬ (300 : Int) < (M.length : Int) := by omega
    have hl' : ¬ (300 : Int) < (L.length : Int) := by omega
    have HL := Lib.hid hL
    have HM := Lib.hid hM
    have HB0 := Lib.hid (Below.refl w.heap.size w)
    clear hL hM
    have SP := Lib.hid (fun A c w0 h => spread_any A c L n (by omega) w0 h)
    have SR := Lib.hid (fun A c w0 h => spreadR_any A c L n (by omega) w0 h)
    have EL := Lib.hid (fun A B c d w0 h k => lists_self A B c d (sprV n L) (by have := sprV_len n L; omega) (fun x hx => by have := sprV_mem n L x hx; omega) w0 h k)
    have OP := Lib.hid (fun A c w0 h => order_any A c L (by omega) w0 h)
    have OR := Lib.hid (fun A c w0 h => orderR_any A c L (by omega) w0 h)
    have EO := Lib.hid (fun A B c d w0 h k => alike_self A B c d (srtR L) (by rw [srt_len]; omega) w0 h k)
    have SA := Lib.hid (fun A B c d w0 h k => same_any A B c d L M (by omega) (by omega) w0 h k)
    have SB := Lib.hid (fun A B c d w0 h k => sameR_any A B c d L M (by omega) (by omega) w0 h k)
    have CP := Lib.hid (fun A c w0 h => cut_any A c L (by omega) w0 h)
    have CR := Lib.hid (fun A c w0 h => cutR_any A c L (by omega) w0 h)
    have EC := Lib.hid (fun A B c d w0 h k => lists_self A B c d (pcs L) (by rw [pcs_len]; omega) (fun x hx => by have := pcs_mem L x hx; omega) w0 h k)
    have EX := Lib.hid (fun A B c d w0 h k => alike_self A B c d L (by omega) w0 h k)
    generalize decide (srtR L = srtR M) = z at SA SB
    generalize srtR L = NO at OP OR EO
    generalize sprV n L = NS at SP SR EL
    generalize pcs L = NC at CP CR EC
    generalize partE n = e0 at SP SR
    go_enter Try.func3, Try.ntmps3
    go_wp2_with fail
    refine (own_any AL cL L (by omega) w HL.out).mono ?_
    rintro e w1 ⟨AX, cX, rfl, hx, b1⟩
    have HL := Lib.hid (HL.out.below b1)
    have HM := Lib.hid (HM.out.below b1)
    have HX := Lib.hid (hx.lg cellsR)
    have HB1 := Lib.hid (HB0.out.trans (b1.mono HB0.out.size))
    clear b1
    clear hx
    go_wp2_with fail
    refine (SP.out AX cX _ HX.out).mono ?_
    rintro e w2 ⟨AA, cA, rfl, ha, b2⟩
    have HL := Lib.hid (HL.out.below b2)
    have HM := Lib.hid (HM.out.below b2)
    have HX := Lib.hid (HX.out.below b2)
    have HA := Lib.hid (ha)
    have HB2 := Lib.hid (HB1.out.trans (b2.mono HB1.out.size))
    clear b2
    clear ha
    go_wp2_with fail
    refine (SR.out AL cL _ HL.out).mono ?_
    rintro e w3 ⟨AB, cB, rfl, hb, b3⟩
    have HL := Lib.hid (HL.out.below b3)
    have HM := Lib.hid (HM.out.below b3)
    have HX := Lib.hid (HX.out.below b3)
    have HA := Lib.hid (HA.out.below b3)
    have HBB := Lib.hid (hb)
    have HB3 := Lib.hid (HB2.out.trans (b3.mono HB2.out.size))
    clear b3
    clear hb
    go_wp2_with fail
    refine (OP.out AX cX _ HX.out).mono ?_
    rintro e w4 ⟨AO, cO, rfl, ho, b4⟩
    have HL := Lib.hid (HL.out.below b4)
    have HM := Lib.hid (HM.out.below b4)
    have HX := Lib.hid (HX.out.below b4)
    have HA := Lib.hid (HA.out.below b4)
    have HBB := Lib.hid (HBB.out.below b4)
    have HO := Lib.hid (ho)
    have HB4 := Lib.hid (HB3.out.trans (b4.mono HB3.out.size))
    clear b4
    clear ho
    go_wp2_with fail
    refine (OR.out AL cL _ HL.out).mono ?_
    rintro e w5 ⟨AP, cP, rfl, hp, b5⟩
    have HL := Lib.hid (HL.out.below b5)
    have HM := Lib.hid (HM.out.below b5)
    have HX := Lib.hid (HX.out.below b5)
    have HA := Lib.hid (HA.out.below b5)
    have HBB := Lib.hid (HBB.out.below b5)
    have HO := Lib.hid (HO.out.below b5)
    have HP := Lib.hid (hp)
    have HB5 := Lib.hid (HB4.out.trans (b5.mono HB4.out.size))
    clear b5
    clear hp
    go_wp2_with fail
    refine (EO.out AO AP cO cP _ HO.out HP.out).mono ?_
    rintro e w6 ⟨rfl, b6⟩
    clear HO HP
    have HL := Lib.hid (HL.out.below b6)
    have HM := Lib.hid (HM.out.below b6)
    have HX := Lib.hid (HX.out.below b6)
    have HA := Lib.hid (HA.out.below b6)
    have HBB := Lib.hid (HBB.out.below b6)
    have HB6 := Lib.hid (HB5.out.trans (b6.mono HB5.out.size))
    clear b6
    go_wp2_with fail
    refine (own_any AM cM M (by omega) _ HM.out).mono ?_
    rintro e w7 ⟨AY, cY, rfl, hy, b7⟩
    have HL := Lib.hid (HL.out.below b7)
    have HM := Lib.hid (HM.out.below b7)
    have HX := Lib.hid (HX.out.below b7)
    have HA := Lib.hid (HA.out.below b7)
    have HBB := Lib.hid (HBB.out.below b7)
    have HY := Lib.hid (hy.lg cellsR)
    have HB7 := Lib.hid (HB6.out.trans (b7.mono HB6.out.size))
    clear b7
    clear hy
    go_wp2_with fail
    refine (SA.out AX AY cX cY _ HX.out HY.out).mono ?_
    rintro e w8 ⟨rfl, b8⟩
    clear HY
    have HL := Lib.hid (HL.out.below b8)
    have HM := Lib.hid (HM.out.below b8)
    have HX := Lib.hid (HX.out.below b8)
    have HA := Lib.hid (HA.out.below b8)
    have HBB := Lib.hid (HBB.out.below b8)
    have HB8 := Lib.hid (HB7.out.trans (b8.mono HB7.out.size))
    clear b8
    go_wp2_with fail
    refine (SB.out AL AM cL cM _ HL.out HM.out).mono ?_
    rintro e w9 ⟨rfl, b9⟩
    clear HM
    have HL := Lib.hid (HL.out.below b9)
    have HX := Lib.hid (HX.out.below b9)
    have HA := Lib.hid (HA.out.below b9)
    have HBB := Lib.hid (HBB.out.below b9)
    have HB9 := Lib.hid (HB8.out.trans (b9.mono HB8.out.size))
    clear b9
    go_wp2_with fail
    refine (EL.out AA AB cA cB _ HA.out HBB.out).mono ?_
    rintro e w10 ⟨rfl, b10⟩
    clear HA HBB
    have HL := Lib.hid (HL.out.below b10)
    have HX := Lib.hid (HX.out.below b10)
    have HB10 := Lib.hid (HB9.out.trans (b10.mono HB9.out.size))
    clear b10
    go_wp2_with fail
    refine (CP.out AX cX _ HX.out).mono ?_
    rintro e w11 ⟨AC, cC, rfl, hc, b11⟩
    have HL := Lib.hid (HL.out.below b11)
    have HX := Lib.hid (HX.out.below b11)
    have HC := Lib.hid (hc)
    have HB11 := Lib.hid (HB10.out.trans (b11.mono HB10.out.size))
    clear b11
    clear hc
    go_wp2_with fail
    refine (CR.out AL cL _ HL.out).mono ?_
    rintro e w12 ⟨AD, cD, rfl, hd, b12⟩
    have HL := Lib.hid (HL.out.below b12)
    have HX := Lib.hid (HX.out.below b12)
    have HC := Lib.hid (HC.out.below b12)
    have HD := Lib.hid (hd)
    have HB12 := Lib.hid (HB11.out.trans (b12.mono HB11.out.size))
    clear b12
    clear hd
    go_wp2_with fail
    refine (EC.out AC AD cC cD _ HC.out HD.out).mono ?_
    rintro e w13 ⟨rfl, b13⟩
    clear HC HD
    have HL := Lib.hid (HL.out.below b13)
    have HX := Lib.hid (HX.out.below b13)
    have HB13 := Lib.hid (HB12.out.trans (b13.mono HB12.out.size))
    clear b13
    go_wp2_with fail
    refine (EX.out AX AL cX cL _ HX.out HL.out).mono ?_
    rintro e w14 ⟨rfl, b14⟩
    clear HX HL
    have HB14 := Lib.hid (HB13.out.trans (b14.mono HB13.out.size))
    clear b14
    go_wp2_with fail
    go_ret
    exact ⟨by first | rfl | simp, HB14.out⟩
  · have hl' : (300 : Int) < (L.length : Int) := by omega
    clear hL hM hl
    generalize L.length = l at hl' ⊢
    go_enter Try.func3, Try.ntmps3
    go_wp2_with fail
    go_ret
    exact ⟨rfl, Below.refl _ _⟩
end Go.Proofs.Ytaiaadojnoipfaa.data
