/-
  LE is an order of frontiers; what the one behind holds, the one ahead holds, too; no condition.
-/
import Derived.Test.YtmepiogoofmbbaaDoorLw6
namespace Go.Proofs.YtmepiogoofmbbaaDoor.chainOrder
open Go.ChangeShapes Go.WideShapes Go.ChangeAt Go.RowKit
open Go.Proofs.YtmepiogoofmbbaaDoor.tm Go.Proofs.YtmepiogoofmbbaaDoor.opened Go.Proofs.YtmepiogoofmbbaaDoor.block Go.Proofs.YtmepiogoofmbbaaDoor.stamp Go.Proofs.YtmepiogoofmbbaaDoor.chain

set_option maxRecDepth 100000 in
set_option maxHeartbeats 40000000 in
theorem walkT (A : Option Addr) (c : Nat) (L : List Tm) (iL : InL L) (mL : L.length ≤ 4611686018427387903) (B : Option Addr) (d : Nat) (M : List Tm) (iM : InL M) (mM : M.length ≤ 4611686018427387903) (C : Option Addr) (e : Nat) (N : List Tm) (iN : InL N) (mN : N.length ≤ 4611686018427387903) (t : Tm) (it : t.In) (w : World) (hE : Env w) (hL : Lt w A L) (hM : Lt w B M) (hN : Lt w C N) :
    Calls Tryd.prog 4 #[.slice A L.length c, .slice B M.length d, .slice C N.length e, .agg #[.int .u32 t.e, .int .i64 t.d, .int .u32 t.a, .int .u32 t.b, .int .u32 t.c]] w fun r W' => r = .returned (.bool true) ∧ Below w.heap.size w W' := by
  have f0 := fresh1 w (.cells #[.int .u32 t.e, .int .i64 t.d, .int .u32 t.a, .int .u32 t.b, .int .u32 t.c] 26)
  have HE := Lib.hid (hE.below f0)
  have HL := Lib.hid (hL.below f0)
  have HM := Lib.hid (hM.below f0)
  have HN := Lib.hid (hN.below f0)
  have OT : Hid (BoxT (w.alloc (.cells #[.int .u32 t.e, .int .i64 t.d, .int .u32 t.a, .int .u32 t.b, .int .u32 t.c] 26)) w.heap.size t) := Lib.hid (Whole.fresh w 26 #[.int .u32 t.e, .int .i64 t.d, .int .u32 t.a, .int .u32 t.b, .int .u32 t.c])
  have B0 := f0
  have IT := Lib.hid it
  clear hE hL hM hN f0 it
  go_enter Tryd.func4, Tryd.ntmps4
  go_upto_region 1 with fail
  change Code.wp _ _ _ _ (w.alloc (.cells #[.int .u32 t.e, .int .i64 t.d, .int .u32 t.a, .int .u32 t.b, .int .u32 t.c] 26))
  generalize w.alloc (.cells #[.int .u32 t.e, .int .i64 t.d, .int .u32 t.a, .int .u32 t.b, .int .u32 t.c] 26) = W at B0 HE HL HM HN OT ⊢
  go_wp2_with fail
  refine (works6 _ HE.out).mono ?_
  rintro e w1 ⟨rfl, b1⟩
  have HE := Lib.hid (HE.out.below b1)
  have HL := Lib.hid (HL.out.below b1)
  have HM := Lib.hid (HM.out.below b1)
  have HN := Lib.hid (HN.out.below b1)
  have OT := Lib.hid (OT.out.below b1)
  have B1 := B0.trans (b1.mono B0.size)
  clear b1 B0
  clear HE
  by_cases gL : 200 < L.length
  · go_wp2_with fail
    refine (great_yes A c mL gL _).mono ?_
    rintro e w2 ⟨rfl, b2⟩
    have HL := Lib.hid (HL.out.below b2)
    have HM := Lib.hid (HM.out.below b2)
    have HN := Lib.hid (HN.out.below b2)
    have OT := Lib.hid (OT.out.below b2)
    have B2 := B1.trans (b2.mono B1.size)
    clear b2 B1
    go_wp2_with fail
    go_ret
    exact ⟨by first | rfl | simp, B2⟩
  · go_wp2_with fail
    refine (great_no A c mL gL _).mono ?_
    rintro e w2 ⟨rfl, b2⟩
    have HL := Lib.hid (HL.out.below b2)
    have HM := Lib.hid (HM.out.below b2)
    have HN := Lib.hid (HN.out.below b2)
    have OT := Lib.hid (OT.out.below b2)
    have B2 := B1.trans (b2.mono B1.size)
    clear b2 B1
    by_cases gM : 200 < M.length
    · go_wp2_with fail
      refine (great_yes B d mM gM _).mono ?_
      rintro e w3 ⟨rfl, b3⟩
      have HL := Lib.hid (HL.out.below b3)
      have HM := Lib.hid (HM.out.below b3)
      have HN := Lib.hid (HN.out.below b3)
      have OT := Lib.hid (OT.out.below b3)
      have B3 := B2.trans (b3.mono B2.size)
      clear b3 B2
      go_wp2_with fail
      go_ret
      exact ⟨by first | rfl | simp, B3⟩
    · go_wp2_with fail
      refine (great_no B d mM gM _).mono ?_
      rintro e w3 ⟨rfl, b3⟩
      have HL := Lib.hid (HL.out.below b3)
      have HM := Lib.hid (HM.out.below b3)
      have HN := Lib.hid (HN.out.below b3)
      have OT := Lib.hid (OT.out.below b3)
      have B3 := B2.trans (b3.mono B2.size)
      clear b3 B2
      by_cases gN : 200 < N.length
      · go_wp2_with fail
        refine (great_yes C e mN gN _).mono ?_
        rintro e w4 ⟨rfl, b4⟩
        have HL := Lib.hid (HL.out.below b4)
        have HM := Lib.hid (HM.out.below b4)
        have HN := Lib.hid (HN.out.below b4)
        have OT := Lib.hid (OT.out.below b4)
        have B4 := B3.trans (b4.mono B3.size)
        clear b4 B3
        go_wp2_with fail
        go_ret
        exact ⟨by first | rfl | simp, B4⟩
      · go_wp2_with fail
        refine (great_no C e mN gN _).mono ?_
        rintro e w4 ⟨rfl, b4⟩
        have HL := Lib.hid (HL.out.below b4)
        have HM := Lib.hid (HM.out.below b4)
        have HN := Lib.hid (HN.out.below b4)
        have OT := Lib.hid (OT.out.below b4)
        have B4 := B3.trans (b4.mono B3.size)
        clear b4 B3
        go_wp2_with fail
        refine (own_lies A c L (by omega) _ HL.out).mono ?_
        rintro e w5 ⟨A5, c5, rfl, h5, b5⟩
        have HL := Lib.hid (HL.out.below b5)
        have HM := Lib.hid (HM.out.below b5)
        have HN := Lib.hid (HN.out.below b5)
        have OT := Lib.hid (OT.out.below b5)
        have B5 := B4.trans (b5.mono B4.size)
        clear b5 B4
        have KL := Lib.hid h5
        clear h5
        have FL := Lib.hid (fun h => (make_zero (L := L) (h := iL) h).2.1)
        have ML := Lib.hid (make_any A5 c5 L iL mL)
        generalize makeE L iL = eL at FL ML
        generalize makeV L iL = VL at FL ML
        go_wp2_with fail
        refine (ML.out _ KL.out).mono ?_
        rintro e w6 ⟨A6, c6, rfl, h6, b6⟩
        have HL := Lib.hid (HL.out.below b6)
        have HM := Lib.hid (HM.out.below b6)
        have HN := Lib.hid (HN.out.below b6)
        have OT := Lib.hid (OT.out.below b6)
        have KL := Lib.hid (KL.out.below b6)
        have B6 := B5.trans (b6.mono B5.size)
        clear b6 B5
        have RL := Lib.hid h6
        clear h6
        clear ML
        clear KL
        go_wp2_with fail
        refine (own_lies B d M (by omega) _ HM.out).mono ?_
        rintro e w7 ⟨A7, c7, rfl, h7, b7⟩
        have HL := Lib.hid (HL.out.below b7)
        have HM := Lib.hid (HM.out.below b7)
        have HN := Lib.hid (HN.out.below b7)
        have OT := Lib.hid (OT.out.below b7)
        have RL := Lib.hid (RL.out.below b7)
        have B7 := B6.trans (b7.mono B6.size)
        clear b7 B6
        have KM := Lib.hid h7
        clear h7
        have FM := Lib.hid (fun h => (make_zero (L := M) (h := iM) h).2.1)
        have MM := Lib.hid (make_any A7 c7 M iM mM)
        generalize makeE M iM = eM at FM MM
        generalize makeV M iM = VM at FM MM
        go_wp2_with fail
        refine (MM.out _ KM.out).mono ?_
        rintro e w8 ⟨A8, c8, rfl, h8, b8⟩
        have HL := Lib.hid (HL.out.below b8)
        have HM := Lib.hid (HM.out.below b8)
        have HN := Lib.hid (HN.out.below b8)
        have OT := Lib.hid (OT.out.below b8)
        have RL := Lib.hid (RL.out.below b8)
        have KM := Lib.hid (KM.out.below b8)
        have B8 := B7.trans (b8.mono B7.size)
        clear b8 B7
        have RM := Lib.hid h8
        clear h8
        clear MM
        clear KM
        go_wp2_with fail
        refine (own_lies C e N (by omega) _ HN.out).mono ?_
        rintro e w9 ⟨A9, c9, rfl, h9, b9⟩
        have HL := Lib.hid (HL.out.below b9)
        have HM := Lib.hid (HM.out.below b9)
        have HN := Lib.hid (HN.out.below b9)
        have OT := Lib.hid (OT.out.below b9)
        have RL := Lib.hid (RL.out.below b9)
        have RM := Lib.hid (RM.out.below b9)
        have B9 := B8.trans (b9.mono B8.size)
        clear b9 B8
        have KN := Lib.hid h9
        clear h9
        have FN := Lib.hid (fun h => (make_zero (L := N) (h := iN) h).2.1)
        have MN := Lib.hid (make_any A9 c9 N iN mN)
        generalize makeE N iN = eN at FN MN
        generalize makeV N iN = VN at FN MN
        go_wp2_with fail
        refine (MN.out _ KN.out).mono ?_
        rintro e w10 ⟨A10, c10, rfl, h10, b10⟩
        have HL := Lib.hid (HL.out.below b10)
        have HM := Lib.hid (HM.out.below b10)
        have HN := Lib.hid (HN.out.below b10)
        have OT := Lib.hid (OT.out.below b10)
        have RL := Lib.hid (RL.out.below b10)
        have RM := Lib.hid (RM.out.below b10)
        have KN := Lib.hid (KN.out.below b10)
        have B10 := B9.trans (b10.mono B9.size)
        clear b10 B9
        have RN := Lib.hid h10
        clear h10
        clear MN
        clear KN
        by_cases zL : eL = 0
        · subst zL
          by_cases zM : eM = 0
          · subst zM
            by_cases zN : eN = 0
            · subst zN
              have fL := FL.out rfl
              have fM := FM.out rfl
              have fN := FN.out rfl
              have jL := front_in fL
              have jM := front_in fM
              have jN := front_in fN
              have nL := fL.few
              have nM := fM.few
              have nN := fN.few
              have RX := leL_refl fL
              have TR : Hid (leL VL VM = true → leL VM VN = true → leL VL VN = true) := Lib.hid leL_trans
              have AN : Hid (leL VL VM = true → leL VM VL = true → VL = VM) := Lib.hid (leL_anti fL fM)
              have HH : Hid (leL VL VM = true → holdsB VM t = true → holdsB VL t = true) := Lib.hid leL_holds
              have XX := Lib.hid (fun w => lists_any A6 A6 c6 c6 VL VL jL jL (by omega) (by omega) w)
              have XY := Lib.hid (fun w => lists_any A6 A8 c6 c8 VL VM jL jM (by omega) (by omega) w)
              have YZ := Lib.hid (fun w => lists_any A8 A10 c8 c10 VM VN jM jN (by omega) (by omega) w)
              have XZ := Lib.hid (fun w => lists_any A6 A10 c6 c10 VL VN jL jN (by omega) (by omega) w)
              have YX := Lib.hid (fun w => lists_any A8 A6 c8 c6 VM VL jM jL (by omega) (by omega) w)
              have HY := Lib.hid (fun w => holds_any A8 c8 VM t IT.out jM (by omega) w)
              have HX := Lib.hid (fun w => holds_any A6 c6 VL t IT.out jL (by omega) w)
              have SM := Lib.hid (fun (h : VL = VM) w => same_any A6 A8 c6 c8 VL VM (by omega) (by omega) w)
              rw [RX] at XX
              clear fL fM fN jL jM jN RX FL FM FN
              generalize leL VL VM = p at XY TR AN HH
              generalize leL VM VN = q at YZ TR
              generalize leL VL VN = r at XZ TR
              generalize leL VM VL = s at YX AN
              generalize holdsB VM t = u at HY HH
              generalize holdsB VL t = v at HX HH
              go_upto_region 10 with fail
              go_cut [90] from 55 to 90 (fun s wx => s = .bool false ∧ Below w10.heap.size w10 wx)
              case first =>
                clear HY HX HH
                cases p
                · have B0 : Below w10.heap.size w10 w10 := Below.refl _ _
                  go_wp2_with fail
                  refine (XX.out _ RL.out RL.out).mono ?_
                  rintro e w11 ⟨rfl, b11⟩
                  have RL := Lib.hid (RL.out.below b11)
                  have RM := Lib.hid (RM.out.below b11)
                  have RN := Lib.hid (RN.out.below b11)
                  have B11 := B0.trans (b11.mono B0.size)
                  clear b11 B0
                  go_wp2_with fail
                  refine (XY.out _ RL.out RM.out).mono ?_
                  rintro e w12 ⟨rfl, b12⟩
                  have RL := Lib.hid (RL.out.below b12)
                  have RM := Lib.hid (RM.out.below b12)
                  have RN := Lib.hid (RN.out.below b12)
                  have B12 := B11.trans (b12.mono B11.size)
                  clear b12 B11
                  go_wp2_with fail
                  refine (XY.out _ RL.out RM.out).mono ?_
                  rintro e w13 ⟨rfl, b13⟩
                  have RL := Lib.hid (RL.out.below b13)
                  have RM := Lib.hid (RM.out.below b13)
                  have RN := Lib.hid (RN.out.below b13)
                  have B13 := B12.trans (b13.mono B12.size)
                  clear b13 B12
                  go_wp2_with fail
                  go_meet
                  exact ⟨rfl, (B13)⟩
                · have AN2 := AN.out rfl
                  have TR2 := TR.out rfl
                  clear AN TR
                  cases q
                  · clear TR2
                    cases s
                    · clear AN2 SM
                      have B0 : Below w10.heap.size w10 w10 := Below.refl _ _
                      go_wp2_with fail
                      refine (XX.out _ RL.out RL.out).mono ?_
                      rintro e w11 ⟨rfl, b11⟩
                      have RL := Lib.hid (RL.out.below b11)
                      have RM := Lib.hid (RM.out.below b11)
                      have RN := Lib.hid (RN.out.below b11)
                      have B11 := B0.trans (b11.mono B0.size)
                      clear b11 B0
                      go_wp2_with fail
                      refine (XY.out _ RL.out RM.out).mono ?_
                      rintro e w12 ⟨rfl, b12⟩
                      have RL := Lib.hid (RL.out.below b12)
                      have RM := Lib.hid (RM.out.below b12)
                      have RN := Lib.hid (RN.out.below b12)
                      have B12 := B11.trans (b12.mono B11.size)
                      clear b12 B11
                      go_wp2_with fail
                      refine (YZ.out _ RM.out RN.out).mono ?_
                      rintro e w13 ⟨rfl, b13⟩
                      have RL := Lib.hid (RL.out.below b13)
                      have RM := Lib.hid (RM.out.below b13)
                      have RN := Lib.hid (RN.out.below b13)
                      have B13 := B12.trans (b13.mono B12.size)
                      clear b13 B12
                      go_wp2_with fail
                      refine (XY.out _ RL.out RM.out).mono ?_
                      rintro e w14 ⟨rfl, b14⟩
                      have RL := Lib.hid (RL.out.below b14)
                      have RM := Lib.hid (RM.out.below b14)
                      have RN := Lib.hid (RN.out.below b14)
                      have B14 := B13.trans (b14.mono B13.size)
                      clear b14 B13
                      go_wp2_with fail
                      refine (YX.out _ RM.out RL.out).mono ?_
                      rintro e w15 ⟨rfl, b15⟩
                      have RL := Lib.hid (RL.out.below b15)
                      have RM := Lib.hid (RM.out.below b15)
                      have RN := Lib.hid (RN.out.below b15)
                      have B15 := B14.trans (b15.mono B14.size)
                      clear b15 B14
                      go_wp2_with fail
                      go_meet
                      exact ⟨rfl, (B15)⟩
                    · have SM2 := SM.out (AN2 rfl)
                      rw [decide_eq_true (AN2 rfl)] at SM2
                      have SM2 := Lib.hid SM2
                      clear AN2 SM
                      have B0 : Below w10.heap.size w10 w10 := Below.refl _ _
                      go_wp2_with fail
                      refine (XX.out _ RL.out RL.out).mono ?_
                      rintro e w11 ⟨rfl, b11⟩
                      have RL := Lib.hid (RL.out.below b11)
                      have RM := Lib.hid (RM.out.below b11)
                      have RN := Lib.hid (RN.out.below b11)
                      have B11 := B0.trans (b11.mono B0.size)
                      clear b11 B0
                      go_wp2_with fail
                      refine (XY.out _ RL.out RM.out).mono ?_
                      rintro e w12 ⟨rfl, b12⟩
                      have RL := Lib.hid (RL.out.below b12)
                      have RM := Lib.hid (RM.out.below b12)
                      have RN := Lib.hid (RN.out.below b12)
                      have B12 := B11.trans (b12.mono B11.size)
                      clear b12 B11
                      go_wp2_with fail
                      refine (YZ.out _ RM.out RN.out).mono ?_
                      rintro e w13 ⟨rfl, b13⟩
                      have RL := Lib.hid (RL.out.below b13)
                      have RM := Lib.hid (RM.out.below b13)
                      have RN := Lib.hid (RN.out.below b13)
                      have B13 := B12.trans (b13.mono B12.size)
                      clear b13 B12
                      go_wp2_with fail
                      refine (XY.out _ RL.out RM.out).mono ?_
                      rintro e w14 ⟨rfl, b14⟩
                      have RL := Lib.hid (RL.out.below b14)
                      have RM := Lib.hid (RM.out.below b14)
                      have RN := Lib.hid (RN.out.below b14)
                      have B14 := B13.trans (b14.mono B13.size)
                      clear b14 B13
                      go_wp2_with fail
                      refine (YX.out _ RM.out RL.out).mono ?_
                      rintro e w15 ⟨rfl, b15⟩
                      have RL := Lib.hid (RL.out.below b15)
                      have RM := Lib.hid (RM.out.below b15)
                      have RN := Lib.hid (RN.out.below b15)
                      have B15 := B14.trans (b15.mono B14.size)
                      clear b15 B14
                      go_wp2_with fail
                      refine (SM2.out _ RL.out RM.out).mono ?_
                      rintro e w16 ⟨rfl, b16⟩
                      have RL := Lib.hid (RL.out.below b16)
                      have RM := Lib.hid (RM.out.below b16)
                      have RN := Lib.hid (RN.out.below b16)
                      have B16 := B15.trans (b16.mono B15.size)
                      clear b16 B15
                      go_wp2_with fail
                      go_meet
                      exact ⟨rfl, (B16)⟩
                  · obtain rfl : r = true := TR2 rfl
                    clear TR2
                    cases s
                    · clear AN2 SM
                      have B0 : Below w10.heap.size w10 w10 := Below.refl _ _
                      go_wp2_with fail
                      refine (XX.out _ RL.out RL.out).mono ?_
                      rintro e w11 ⟨rfl, b11⟩
                      have RL := Lib.hid (RL.out.below b11)
                      have RM := Lib.hid (RM.out.below b11)
                      have RN := Lib.hid (RN.out.below b11)
                      have B11 := B0.trans (b11.mono B0.size)
                      clear b11 B0
                      go_wp2_with fail
                      refine (XY.out _ RL.out RM.out).mono ?_
                      rintro e w12 ⟨rfl, b12⟩
                      have RL := Lib.hid (RL.out.below b12)
                      have RM := Lib.hid (RM.out.below b12)
                      have RN := Lib.hid (RN.out.below b12)
                      have B12 := B11.trans (b12.mono B11.size)
                      clear b12 B11
                      go_wp2_with fail
                      refine (YZ.out _ RM.out RN.out).mono ?_
                      rintro e w13 ⟨rfl, b13⟩
                      have RL := Lib.hid (RL.out.below b13)
                      have RM := Lib.hid (RM.out.below b13)
                      have RN := Lib.hid (RN.out.below b13)
                      have B13 := B12.trans (b13.mono B12.size)
                      clear b13 B12
                      go_wp2_with fail
                      refine (XZ.out _ RL.out RN.out).mono ?_
                      rintro e w14 ⟨rfl, b14⟩
                      have RL := Lib.hid (RL.out.below b14)
                      have RM := Lib.hid (RM.out.below b14)
                      have RN := Lib.hid (RN.out.below b14)
                      have B14 := B13.trans (b14.mono B13.size)
                      clear b14 B13
                      go_wp2_with fail
                      refine (XY.out _ RL.out RM.out).mono ?_
                      rintro e w15 ⟨rfl, b15⟩
                      have RL := Lib.hid (RL.out.below b15)
                      have RM := Lib.hid (RM.out.below b15)
                      have RN := Lib.hid (RN.out.below b15)
                      have B15 := B14.trans (b15.mono B14.size)
                      clear b15 B14
                      go_wp2_with fail
                      refine (YX.out _ RM.out RL.out).mono ?_
                      rintro e w16 ⟨rfl, b16⟩
                      have RL := Lib.hid (RL.out.below b16)
                      have RM := Lib.hid (RM.out.below b16)
                      have RN := Lib.hid (RN.out.below b16)
                      have B16 := B15.trans (b16.mono B15.size)
                      clear b16 B15
                      go_wp2_with fail
                      go_meet
                      exact ⟨rfl, (B16)⟩
                    · have SM2 := SM.out (AN2 rfl)
                      rw [decide_eq_true (AN2 rfl)] at SM2
                      have SM2 := Lib.hid SM2
                      clear AN2 SM
                      have B0 : Below w10.heap.size w10 w10 := Below.refl _ _
                      go_wp2_with fail
                      refine (XX.out _ RL.out RL.out).mono ?_
                      rintro e w11 ⟨rfl, b11⟩
                      have RL := Lib.hid (RL.out.below b11)
                      have RM := Lib.hid (RM.out.below b11)
                      have RN := Lib.hid (RN.out.below b11)
                      have B11 := B0.trans (b11.mono B0.size)
                      clear b11 B0
                      go_wp2_with fail
                      refine (XY.out _ RL.out RM.out).mono ?_
                      rintro e w12 ⟨rfl, b12⟩
                      have RL := Lib.hid (RL.out.below b12)
                      have RM := Lib.hid (RM.out.below b12)
                      have RN := Lib.hid (RN.out.below b12)
                      have B12 := B11.trans (b12.mono B11.size)
                      clear b12 B11
                      go_wp2_with fail
                      refine (YZ.out _ RM.out RN.out).mono ?_
                      rintro e w13 ⟨rfl, b13⟩
                      have RL := Lib.hid (RL.out.below b13)
                      have RM := Lib.hid (RM.out.below b13)
                      have RN := Lib.hid (RN.out.below b13)
                      have B13 := B12.trans (b13.mono B12.size)
                      clear b13 B12
                      go_wp2_with fail
                      refine (XZ.out _ RL.out RN.out).mono ?_
                      rintro e w14 ⟨rfl, b14⟩
                      have RL := Lib.hid (RL.out.below b14)
                      have RM := Lib.hid (RM.out.below b14)
                      have RN := Lib.hid (RN.out.below b14)
                      have B14 := B13.trans (b14.mono B13.size)
                      clear b14 B13
                      go_wp2_with fail
                      refine (XY.out _ RL.out RM.out).mono ?_
                      rintro e w15 ⟨rfl, b15⟩
                      have RL := Lib.hid (RL.out.below b15)
                      have RM := Lib.hid (RM.out.below b15)
                      have RN := Lib.hid (RN.out.below b15)
                      have B15 := B14.trans (b15.mono B14.size)
                      clear b15 B14
                      go_wp2_with fail
                      refine (YX.out _ RM.out RL.out).mono ?_
                      rintro e w16 ⟨rfl, b16⟩
                      have RL := Lib.hid (RL.out.below b16)
                      have RM := Lib.hid (RM.out.below b16)
                      have RN := Lib.hid (RN.out.below b16)
                      have B16 := B15.trans (b16.mono B15.size)
                      clear b16 B15
                      go_wp2_with fail
                      refine (SM2.out _ RL.out RM.out).mono ?_
                      rintro e w17 ⟨rfl, b17⟩
                      have RL := Lib.hid (RL.out.below b17)
                      have RM := Lib.hid (RM.out.below b17)
                      have RN := Lib.hid (RN.out.below b17)
                      have B17 := B16.trans (b17.mono B16.size)
                      clear b17 B16
                      go_wp2_with fail
                      go_meet
                      exact ⟨rfl, (B17)⟩
              case rest =>
                clear TR AN XX YZ XZ YX SM
                obtain ⟨rfl, b11⟩ := hcut
                rename World => w11
                have HL := Lib.hid (HL.out.below b11)
                have HM := Lib.hid (HM.out.below b11)
                have HN := Lib.hid (HN.out.below b11)
                have OT := Lib.hid (OT.out.below b11)
                have RL := Lib.hid (RL.out.below b11)
                have RM := Lib.hid (RM.out.below b11)
                have RN := Lib.hid (RN.out.below b11)
                have B11 := B10.trans (b11.mono B10.size)
                clear b11 B10
                cases p
                · go_wp2_with fail
                  refine (XY.out _ RL.out RM.out).mono ?_
                  rintro e w12 ⟨rfl, b12⟩
                  have HL := Lib.hid (HL.out.below b12)
                  have HM := Lib.hid (HM.out.below b12)
                  have HN := Lib.hid (HN.out.below b12)
                  have OT := Lib.hid (OT.out.below b12)
                  have RL := Lib.hid (RL.out.below b12)
                  have RM := Lib.hid (RM.out.below b12)
                  have RN := Lib.hid (RN.out.below b12)
                  have B12 := B11.trans (b12.mono B11.size)
                  clear b12 B11
                  go_wp2_with fail
                  go_ret
                  exact ⟨by first | rfl | simp, B12⟩
                · have HH2 := HH.out rfl
                  clear HH
                  cases u
                  · clear HH2
                    go_wp2_with fail
                    refine (XY.out _ RL.out RM.out).mono ?_
                    rintro e w12 ⟨rfl, b12⟩
                    have HL := Lib.hid (HL.out.below b12)
                    have HM := Lib.hid (HM.out.below b12)
                    have HN := Lib.hid (HN.out.below b12)
                    have OT := Lib.hid (OT.out.below b12)
                    have RL := Lib.hid (RL.out.below b12)
                    have RM := Lib.hid (RM.out.below b12)
                    have RN := Lib.hid (RN.out.below b12)
                    have B12 := B11.trans (b12.mono B11.size)
                    clear b12 B11
                    obtain ⟨tc, tf⟩ := path.all_of (show Whole _ _ _ _ from OT.out)
                    go_wp2_with fail
                    refine (HY.out _ RM.out).mono ?_
                    rintro e w13 ⟨rfl, b13⟩
                    have HL := Lib.hid (HL.out.below b13)
                    have HM := Lib.hid (HM.out.below b13)
                    have HN := Lib.hid (HN.out.below b13)
                    have OT := Lib.hid (OT.out.below b13)
                    have RL := Lib.hid (RL.out.below b13)
                    have RM := Lib.hid (RM.out.below b13)
                    have RN := Lib.hid (RN.out.below b13)
                    have B13 := B12.trans (b13.mono B12.size)
                    clear b13 B12
                    clear tc tf
                    obtain ⟨tc, tf⟩ := path.all_of (show Whole _ _ _ _ from OT.out)
                    go_wp2_with fail
                    go_ret
                    exact ⟨by first | rfl | simp, B13⟩
                  · obtain rfl : v = true := HH2 rfl
                    clear HH2
                    go_wp2_with fail
                    refine (XY.out _ RL.out RM.out).mono ?_
                    rintro e w12 ⟨rfl, b12⟩
                    have HL := Lib.hid (HL.out.below b12)
                    have HM := Lib.hid (HM.out.below b12)
                    have HN := Lib.hid (HN.out.below b12)
                    have OT := Lib.hid (OT.out.below b12)
                    have RL := Lib.hid (RL.out.below b12)
                    have RM := Lib.hid (RM.out.below b12)
                    have RN := Lib.hid (RN.out.below b12)
                    have B12 := B11.trans (b12.mono B11.size)
                    clear b12 B11
                    obtain ⟨tc, tf⟩ := path.all_of (show Whole _ _ _ _ from OT.out)
                    go_wp2_with fail
                    refine (HY.out _ RM.out).mono ?_
                    rintro e w13 ⟨rfl, b13⟩
                    have HL := Lib.hid (HL.out.below b13)
                    have HM := Lib.hid (HM.out.below b13)
                    have HN := Lib.hid (HN.out.below b13)
                    have OT := Lib.hid (OT.out.below b13)
                    have RL := Lib.hid (RL.out.below b13)
                    have RM := Lib.hid (RM.out.below b13)
                    have RN := Lib.hid (RN.out.below b13)
                    have B13 := B12.trans (b13.mono B12.size)
                    clear b13 B12
                    clear tc tf
                    obtain ⟨tc, tf⟩ := path.all_of (show Whole _ _ _ _ from OT.out)
                    go_wp2_with fail
                    refine (HX.out _ RL.out).mono ?_
                    rintro e w14 ⟨rfl, b14⟩
                    have HL := Lib.hid (HL.out.below b14)
                    have HM := Lib.hid (HM.out.below b14)
                    have HN := Lib.hid (HN.out.below b14)
                    have OT := Lib.hid (OT.out.below b14)
                    have RL := Lib.hid (RL.out.below b14)
                    have RM := Lib.hid (RM.out.below b14)
                    have RN := Lib.hid (RN.out.below b14)
                    have B14 := B13.trans (b14.mono B13.size)
                    clear b14 B13
                    go_wp2_with fail
                    go_ret
                    exact ⟨by first | rfl | simp, B14⟩
            · go_wp2_with fail
              go_ret
              exact ⟨by first | rfl | simp, B10⟩
          · go_wp2_with fail
            go_ret
            exact ⟨by first | rfl | simp, B10⟩
        · go_wp2_with fail
          go_ret
          exact ⟨by first | rfl | simp, B10⟩
set_option maxRecDepth 100000 in
theorem told (W : World) (args : Array Value) (hE : Env W) (h : Fed Tryd.prog W [22, 22, 22, 26] args) : Calls Tryd.prog 4 args W fun e W' => e = .returned (.bool true) ∧ Below W.heap.size W W' := by
  obtain ⟨v0, v1, v2, v3, rfl⟩ := args4 h.count
  obtain ⟨⟨_, o0⟩, r0⟩ := h.each 0 22 v0 rfl rfl
  obtain ⟨⟨_, o1⟩, r1⟩ := h.each 1 22 v1 rfl rfl
  obtain ⟨⟨_, o2⟩, r2⟩ := h.each 2 22 v2 rfl rfl
  obtain ⟨⟨_, o3⟩, r3⟩ := h.each 3 26 v3 rfl rfl
  obtain ⟨a0, q0⟩ := r0 opens_times
  obtain ⟨A0, c0, L0, rfl, iL0, hL0, hc0, mL0⟩ := top_times o0 q0
  obtain ⟨a1, q1⟩ := r1 opens_times
  obtain ⟨A1, c1, L1, rfl, iL1, hL1, hc1, mL1⟩ := top_times o1 q1
  obtain ⟨a2, q2⟩ := r2 opens_times
  obtain ⟨A2, c2, L2, rfl, iL2, hL2, hc2, mL2⟩ := top_times o2 q2
  obtain ⟨a3, q3⟩ := r3 opens_time
  obtain ⟨t3, i3, rfl⟩ := top_time o3 q3
  exact walkT A0 c0 L0 iL0 mL0 A1 c1 L1 iL1 mL1 A2 c2 L2 iL2 mL2 t3 i3 W hE hL0 hL1 hL2

/-! ### The row and the card -/
set_option maxRecDepth 100000 in
theorem lifted (os : Os) (started : os.Started) (H : Type) (enc : TypeId × Value → H) :
    ReturnsInHanded {} Tryd.checked os 4 .any (fun w args => (Rows.chainOrderSpec.pre enc Tryd.prog Tryd.f4 Rows.chainOrderRow.domain false w args ∧ laidMetH Tryd.prog Rows.chainOrderRow.laid w) ∧ sizedMet enc Tryd.prog Tryd.f4 (OpenSpec.ofChange Rows.chainOrderSpec) false w args) (Rows.chainOrderSpec.post enc Tryd.prog Tryd.f4 false true false false) :=
  liftL (ts := [22, 22, 22, 26]) rfl started (by kernel_rfl) Tryd.func4 (by kernel_rfl) (by kernel_rfl) (by kernel_rfl) rfl
    (fun ds h => by
      match ds, h with
      | [_, _, _, _], _ => rfl)
    (ChangeSpec.witness_shaped (enc := enc) (C := Tryd.checked) (os := os) (X := fun w _ => laidMetH Tryd.prog laid7 w) false (Go.Proofs.YtmepiogoofmbbaaDoor.stamp.start os) #[.slice none 0 0, .slice none 0 0, .slice none 0 0, .agg #[.int .u32 0, .int .i64 0, .int .u32 0, .int .u32 0, .int .u32 0]] 8 (World.laidAll_os _ _ _)
      (World.shaped_of_ZipB (by kernel_rfl) (by kernel_rfl)) (by kernel_rfl) (by kernel_rfl) (by kernel_rfl) (start_met os _)) told

theorem over : Rows.ChainOrderSaid :=
  OpenClaim.holds_of_wide 4 Tryd.f4 rfl rfl rfl rfl rfl rfl rfl ⟨rfl, rfl, rfl, rfl, rfl⟩ rfl rfl rfl rfl rfl (by kernel_rfl) Tryd.func4 (by kernel_rfl)
    (of_decide_eq_true (by kernel_rfl)) (by unfold Func.isWrapper; first | (rw [if_pos (by decide +kernel)]; kernel_rfl) | (rw [if_neg (by decide +kernel)]; exact ⟨rfl, rfl⟩))
    (fun os started H enc _ => lifted os started H enc)

theorem proved : Rows.ChainOrderCardSaid :=
  Claim7.holds_tied_plain_at .later [] [.data, .data, .data] true (true, "f827beb75ba331ec15cc7265a1360425f7692638d53d3e072fa10e4f98849f90") false
    over (fun _ h => by cases h) (by kernel_rfl) (fun _ h => by cases h) chainOrder_row_tie rfl ⟨rfl, rfl⟩ (by kernel_rfl) rfl
    (fun f fn hf hfn => by
      obtain rfl : f = 4 := Option.some.inj ((show Tryd.prog.funcNamed "watershed/watershedlaw06.ChainOrder" = some 4 by kernel_rfl).symm.trans hf) |>.symm
      obtain rfl : fn = Tryd.f4 := (Option.some.inj (Tryd.func4.symm.trans hfn)).symm
      exact ⟨by kernel_rfl, fun j t ht => by
        rw [Tryd.params4] at ht
        have hm : t ∈ [22, 22, 22, 26] := by simpa using Array.mem_of_getElem? ht
        have hall : ([22, 22, 22, 26].all fun u => !Tryd.prog.wantsStandIn u) = true := by kernel_rfl
        exact (show Tryd.prog.wantsStandIn t = false by simpa using List.all_eq_true.1 hall t hm)⟩)
    (by kernel_rfl)
#print axioms proved

end Go.Proofs.YtmepiogoofmbbaaDoor.chainOrder
