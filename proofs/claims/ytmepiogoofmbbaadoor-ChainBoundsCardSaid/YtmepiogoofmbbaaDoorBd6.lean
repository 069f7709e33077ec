/-
  Meet holds what either holds, Join what both hold; the one is ahead of both, the other one behind both; no condition.
-/
import Derived.Test.YtmepiogoofmbbaaDoorLx6
namespace Go.Proofs.YtmepiogoofmbbaaDoor.chainBounds
open Go.ChangeShapes Go.WideShapes Go.ChangeAt Go.RowKit
open Go.Proofs.YtmepiogoofmbbaaDoor.tm Go.Proofs.YtmepiogoofmbbaaDoor.opened Go.Proofs.YtmepiogoofmbbaaDoor.block Go.Proofs.YtmepiogoofmbbaaDoor.stamp Go.Proofs.YtmepiogoofmbbaaDoor.chain

set_option maxRecDepth 100000 in
set_option maxHeartbeats 40000000 in
theorem walkT (A : Option Addr) (c : Nat) (L : List Tm) (iL : InL L) (mL : L.length ≤ 4611686018427387903) (B : Option Addr) (d : Nat) (M : List Tm) (iM : InL M) (mM : M.length ≤ 4611686018427387903) (t : Tm) (it : t.In) (w : World) (hE : Env w) (hL : Lt w A L) (hM : Lt w B M) :
    Calls Tryd.prog 5 #[.slice A L.length c, .slice B M.length d, .agg #[.int .u32 t.e, .int .i64 t.d, .int .u32 t.a, .int .u32 t.b, .int .u32 t.c]] w fun r W' => r = .returned (.bool true) ∧ Below w.heap.size w W' := by
  have f0 := fresh1 w (.cells #[.int .u32 t.e, .int .i64 t.d, .int .u32 t.a, .int .u32 t.b, .int .u32 t.c] 26)
  have HE := Lib.hid (hE.below f0)
  have HL := Lib.hid (hL.below f0)
  have HM := Lib.hid (hM.below f0)
  have OT : Hid (BoxT (w.alloc (.cells #[.int .u32 t.e, .int .i64 t.d, .int .u32 t.a, .int .u32 t.b, .int .u32 t.c] 26)) w.heap.size t) := Lib.hid (Whole.fresh w 26 #[.int .u32 t.e, .int .i64 t.d, .int .u32 t.a, .int .u32 t.b, .int .u32 t.c])
  have B0 := f0
  have IT := Lib.hid it
  clear hE hL hM f0 it
  go_enter Tryd.func5, Tryd.ntmps5
  go_upto_region 1 with fail
  change Code.wp _ _ _ _ (w.alloc (.cells #[.int .u32 t.e, .int .i64 t.d, .int .u32 t.a, .int .u32 t.b, .int .u32 t.c] 26))
  generalize w.alloc (.cells #[.int .u32 t.e, .int .i64 t.d, .int .u32 t.a, .int .u32 t.b, .int .u32 t.c] 26) = W at B0 HE HL HM OT ⊢
  go_wp2_with fail
  refine (works6 _ HE.out).mono ?_
  rintro e w1 ⟨rfl, b1⟩
  have HE := Lib.hid (HE.out.below b1)
  have HL := Lib.hid (HL.out.below b1)
  have HM := Lib.hid (HM.out.below b1)
  have OT := Lib.hid (OT.out.below b1)
  have B1 := B0.trans (b1.mono B0.size)
  clear b1 B0
  clear HE
  by_cases gL : 200 < L.length
  · go_wp2_with fail
    refine (great_yes A c mL gL _).mono ?_
    rintro e w2 ⟨rfl, b2⟩
    have HL := Lib.hid (HL.out.below b2)
    have HM := Lib.hid (HM.out.below b2)
    have OT := Lib.hid (OT.out.below b2)
    have B2 := B1.trans (b2.mono B1.size)
    clear b2 B1
    go_wp2_with fail
    go_ret
    exact ⟨by first | rfl | simp, B2⟩
  · go_wp2_with fail
    refine (great_no A c mL gL _).mono ?_
    rintro e w2 ⟨rfl, b2⟩
    have HL := Lib.hid (HL.out.below b2)
    have HM := Lib.hid (HM.out.below b2)
    have OT := Lib.hid (OT.out.below b2)
    have B2 := B1.trans (b2.mono B1.size)
    clear b2 B1
    by_cases gM : 200 < M.length
    · go_wp2_with fail
      refine (great_yes B d mM gM _).mono ?_
      rintro e w3 ⟨rfl, b3⟩
      have HL := Lib.hid (HL.out.below b3)
      have HM := Lib.hid (HM.out.below b3)
      have OT := Lib.hid (OT.out.below b3)
      have B3 := B2.trans (b3.mono B2.size)
      clear b3 B2
      go_wp2_with fail
      go_ret
      exact ⟨by first | rfl | simp, B3⟩
    · go_wp2_with fail
      refine (great_no B d mM gM _).mono ?_
      rintro e w3 ⟨rfl, b3⟩
      have HL := Lib.hid (HL.out.below b3)
      have HM := Lib.hid (HM.out.below b3)
      have OT := Lib.hid (OT.out.below b3)
      have B3 := B2.trans (b3.mono B2.size)
      clear b3 B2
      go_wp2_with fail
      refine (own_lies A c L (by omega) _ HL.out).mono ?_
      rintro e w4 ⟨A4, c4, rfl, h4, b4⟩
      have HL := Lib.hid (HL.out.below b4)
      have HM := Lib.hid (HM.out.below b4)
      have OT := Lib.hid (OT.out.below b4)
      have B4 := B3.trans (b4.mono B3.size)
      clear b4 B3
      have KL := Lib.hid h4
      clear h4
      have FL := Lib.hid (fun h => (make_zero (L := L) (h := iL) h).2.1)
      have ML := Lib.hid (make_any A4 c4 L iL mL)
      generalize makeE L iL = eL at FL ML
      generalize makeV L iL = VL at FL ML
      go_wp2_with fail
      refine (ML.out _ KL.out).mono ?_
      rintro e w5 ⟨A5, c5, rfl, h5, b5⟩
      have HL := Lib.hid (HL.out.below b5)
      have HM := Lib.hid (HM.out.below b5)
      have OT := Lib.hid (OT.out.below b5)
      have KL := Lib.hid (KL.out.below b5)
      have B5 := B4.trans (b5.mono B4.size)
      clear b5 B4
      have RL := Lib.hid h5
      clear h5
      clear ML
      clear KL
      go_wp2_with fail
      refine (own_lies B d M (by omega) _ HM.out).mono ?_
      rintro e w6 ⟨A6, c6, rfl, h6, b6⟩
      have HL := Lib.hid (HL.out.below b6)
      have HM := Lib.hid (HM.out.below b6)
      have OT := Lib.hid (OT.out.below b6)
      have RL := Lib.hid (RL.out.below b6)
      have B6 := B5.trans (b6.mono B5.size)
      clear b6 B5
      have KM := Lib.hid h6
      clear h6
      have FM := Lib.hid (fun h => (make_zero (L := M) (h := iM) h).2.1)
      have MM := Lib.hid (make_any A6 c6 M iM mM)
      generalize makeE M iM = eM at FM MM
      generalize makeV M iM = VM at FM MM
      go_wp2_with fail
      refine (MM.out _ KM.out).mono ?_
      rintro e w7 ⟨A7, c7, rfl, h7, b7⟩
      have HL := Lib.hid (HL.out.below b7)
      have HM := Lib.hid (HM.out.below b7)
      have OT := Lib.hid (OT.out.below b7)
      have RL := Lib.hid (RL.out.below b7)
      have KM := Lib.hid (KM.out.below b7)
      have B7 := B6.trans (b7.mono B6.size)
      clear b7 B6
      have RM := Lib.hid h7
      clear h7
      clear MM
      clear KM
      clear HL HM
      by_cases zL : eL = 0
      · subst zL
        by_cases zM : eM = 0
        · subst zM
          have fL := FL.out rfl
          have fM := FM.out rfl
          have jL := front_in fL
          have jM := front_in fM
          have nL := fL.few
          have nM := fM.few
          have mi := in_meet VL VM jL jM
          have ji := in_join VL VM jL jM
          have ml := meet_few VL VM jL jM
          have jl := join_few VL VM jL jM
          have MH : Hid (meetLE VL VM jL jM = 0 → holdsB (meetLV VL VM jL jM) t = (holdsB VL t || holdsB VM t)) := Lib.hid (fun h => meet_holds h t)
          have M1 : Hid (meetLE VL VM jL jM = 0 → leL (meetLV VL VM jL jM) VL = true) := Lib.hid (fun h => (meet_low h).1)
          have M2 : Hid (meetLE VL VM jL jM = 0 → leL (meetLV VL VM jL jM) VM = true) := Lib.hid (fun h => (meet_low h).2)
          have JH : Hid (joinLE VL VM jL jM = 0 → holdsB (joinLV VL VM jL jM) t = (holdsB VL t && holdsB VM t)) := Lib.hid (fun h => join_holds h t)
          have J1 : Hid (joinLE VL VM jL jM = 0 → leL VL (joinLV VL VM jL jM) = true) := Lib.hid (fun h => (join_high h).1)
          have J2 : Hid (joinLE VL VM jL jM = 0 → leL VM (joinLV VL VM jL jM) = true) := Lib.hid (fun h => (join_high h).2)
          have CM := Lib.hid (fun A c B d => meet_chain A B c d VL VM jL jM (by omega) (by omega))
          have CJ := Lib.hid (fun A c B d => join_chain A B c d VL VM jL jM (by omega) (by omega))
          have HX := Lib.hid (fun w => holds_any A5 c5 VL t IT.out jL (by omega) w)
          have HY := Lib.hid (fun w => holds_any A7 c7 VM t IT.out jM (by omega) w)
          have HMt := Lib.hid (fun D c w => holds_any D c (meetLV VL VM jL jM) t IT.out mi (by omega) w)
          have HJt := Lib.hid (fun D c w => holds_any D c (joinLV VL VM jL jM) t IT.out ji (by omega) w)
          have LM1 := Lib.hid (fun D c w => lists_any D A5 c c5 (meetLV VL VM jL jM) VL mi jL (by omega) (by omega) w)
          have LM2 := Lib.hid (fun D c w => lists_any D A7 c c7 (meetLV VL VM jL jM) VM mi jM (by omega) (by omega) w)
          have LJ1 := Lib.hid (fun D c w => lists_any A5 D c5 c VL (joinLV VL VM jL jM) jL ji (by omega) (by omega) w)
          have LJ2 := Lib.hid (fun D c w => lists_any A7 D c7 c VM (joinLV VL VM jL jM) jM ji (by omega) (by omega) w)
          generalize meetLE VL VM jL jM = me at MH M1 M2 CM
          generalize leL (meetLV VL VM jL jM) VL = p1 at M1 LM1
          generalize leL (meetLV VL VM jL jM) VM = p2 at M2 LM2
          generalize holdsB (meetLV VL VM jL jM) t = hm at MH HMt
          generalize meetLV VL VM jL jM = mv at CM HMt LM1 LM2
          generalize joinLE VL VM jL jM = je at JH J1 J2 CJ
          generalize leL VL (joinLV VL VM jL jM) = q1 at J1 LJ1
          generalize leL VM (joinLV VL VM jL jM) = q2 at J2 LJ2
          generalize holdsB (joinLV VL VM jL jM) t = hj at JH HJt
          generalize joinLV VL VM jL jM = jv at CJ HJt LJ1 LJ2
          generalize holdsB VL t = hx at MH JH HX
          generalize holdsB VM t = hy at MH JH HY
          clear mi ji ml jl fL fM jL jM FL FM
          go_wp2_with fail
          refine (own_lies A5 c5 VL (by omega) _ RL.out).mono ?_
          rintro e w8 ⟨A8, c8, rfl, h8, b8⟩
          have OT := Lib.hid (OT.out.below b8)
          have RL := Lib.hid (RL.out.below b8)
          have RM := Lib.hid (RM.out.below b8)
          have B8 := B7.trans (b8.mono B7.size)
          clear b8 B7
          have Ka := Lib.hid h8
          clear h8
          go_wp2_with fail
          refine (own_lies A7 c7 VM (by omega) _ RM.out).mono ?_
          rintro e w9 ⟨A9, c9, rfl, h9, b9⟩
          have OT := Lib.hid (OT.out.below b9)
          have RL := Lib.hid (RL.out.below b9)
          have RM := Lib.hid (RM.out.below b9)
          have Ka := Lib.hid (Ka.out.below b9)
          have B9 := B8.trans (b9.mono B8.size)
          clear b9 B8
          have Kb := Lib.hid h9
          clear h9
          go_wp2_with fail
          refine (CM.out _ _ _ _ _ Ka.out Kb.out).mono ?_
          rintro e w10 ⟨A10, c10, rfl, h10, b10⟩
          have OT := Lib.hid (OT.out.below b10)
          have RL := Lib.hid (RL.out.below b10)
          have RM := Lib.hid (RM.out.below b10)
          have Ka := Lib.hid (Ka.out.below b10)
          have Kb := Lib.hid (Kb.out.below b10)
          have B10 := B9.trans (b10.mono B9.size)
          clear b10 B9
          have RMt := Lib.hid h10
          clear h10
          clear Ka Kb
          clear CM
          go_wp2_with fail
          refine (own_lies A5 c5 VL (by omega) _ RL.out).mono ?_
          rintro e w11 ⟨A11, c11, rfl, h11, b11⟩
          have OT := Lib.hid (OT.out.below b11)
          have RL := Lib.hid (RL.out.below b11)
          have RM := Lib.hid (RM.out.below b11)
          have RMt := Lib.hid (RMt.out.below b11)
          have B11 := B10.trans (b11.mono B10.size)
          clear b11 B10
          have Ka := Lib.hid h11
          clear h11
          go_wp2_with fail
          refine (own_lies A7 c7 VM (by omega) _ RM.out).mono ?_
          rintro e w12 ⟨A12, c12, rfl, h12, b12⟩
          have OT := Lib.hid (OT.out.below b12)
          have RL := Lib.hid (RL.out.below b12)
          have RM := Lib.hid (RM.out.below b12)
          have RMt := Lib.hid (RMt.out.below b12)
          have Ka := Lib.hid (Ka.out.below b12)
          have B12 := B11.trans (b12.mono B11.size)
          clear b12 B11
          have Kb := Lib.hid h12
          clear h12
          go_wp2_with fail
          refine (CJ.out _ _ _ _ _ Ka.out Kb.out).mono ?_
          rintro e w13 ⟨A13, c13, rfl, h13, b13⟩
          have OT := Lib.hid (OT.out.below b13)
          have RL := Lib.hid (RL.out.below b13)
          have RM := Lib.hid (RM.out.below b13)
          have RMt := Lib.hid (RMt.out.below b13)
          have Ka := Lib.hid (Ka.out.below b13)
          have Kb := Lib.hid (Kb.out.below b13)
          have B13 := B12.trans (b13.mono B12.size)
          clear b13 B12
          have RJ := Lib.hid h13
          clear h13
          clear Ka Kb
          clear CJ
          go_upto_region 11 with fail
          go_cut [84] from 57 to 84 (fun s wx => s = .bool false ∧ Below w13.heap.size w13 wx)
          case first =>
            clear HJt LJ1 LJ2 JH J1 J2
            by_cases zm : me = 0
            · have MH1 := MH.out zm
              clear MH
              obtain rfl : p1 = true := M1.out zm
              obtain rfl : p2 = true := M2.out zm
              subst zm
              clear M1 M2
              cases hx
              · cases hy
                · obtain rfl : hm = false := by simpa using MH1
                  clear MH1
                  go_wp2_with fail
                  have OW : Whole w13 w.heap.size 26 #[.int .u32 t.e, .int .i64 t.d, .int .u32 t.a, .int .u32 t.b, .int .u32 t.c] := OT.out
                  have x0 : ∀ x : Since w13, x.1.cell? ⟨w.heap.size, 0, none⟩ = some (.int .u32 t.e) := fun x => (OW.below x.2 OW.inside).read 0
                  have x1 : ∀ x : Since w13, x.1.cell? ⟨w.heap.size, 1, none⟩ = some (.int .i64 t.d) := fun x => (OW.below x.2 OW.inside).read 1
                  have x2 : ∀ x : Since w13, x.1.cell? ⟨w.heap.size, 2, none⟩ = some (.int .u32 t.a) := fun x => (OW.below x.2 OW.inside).read 2
                  have x3 : ∀ x : Since w13, x.1.cell? ⟨w.heap.size, 3, none⟩ = some (.int .u32 t.b) := fun x => (OW.below x.2 OW.inside).read 3
                  have x4 : ∀ x : Since w13, x.1.cell? ⟨w.heap.size, 4, none⟩ = some (.int .u32 t.c) := fun x => (OW.below x.2 OW.inside).read 4
                  clear OW
                  have F1 := fun x : Since w13 => HMt.out A10 c10 x.1 (RMt.out.below x.2)
                  have F2 := fun x : Since w13 => HX.out x.1 (RL.out.below x.2)
                  have F3 := fun x : Since w13 => HY.out x.1 (RM.out.below x.2)
                  have F4 := fun x : Since w13 => LM1.out A10 c10 x.1 (RMt.out.below x.2) (RL.out.below x.2)
                  have F5 := fun x : Since w13 => LM2.out A10 c10 x.1 (RMt.out.below x.2) (RM.out.below x.2)
                  refine region_since w13 (by kernel_rfl) (by kernel_rfl) (Below.refl _ _) ?_
                  go_big_quiet_step (fail)
                  go_big_quiet_step (fail)
                  go_big_quiet_step (fail)
                  go_big_quiet_step (fail)
                  go_big_quiet_step (fail)
                  go_big_quiet_step ((go_at_call 11; with_reducible exact since_callS F1 _))
                  go_big_quiet_step (fail)
                  go_big_quiet_step (fail)
                  go_big_quiet_step ((go_at_call 11; with_reducible exact since_callS F2 _))
                  go_big_quiet_step (fail)
                  go_big_quiet_step (fail)
                  go_big_quiet_step (fail)
                  go_big_quiet_step ((go_at_call 11; with_reducible exact since_callS F3 _))
                  go_big_quiet_step (fail)
                  go_big_quiet_step (fail)
                  go_big_quiet_step (fail)
                  go_big_quiet_step (fail)
                  go_big_quiet_step (fail)
                  go_big_quiet_step ((go_at_call 15; with_reducible exact since_callS F4 _))
                  go_big_quiet_step (fail)
                  go_big_quiet_step (fail)
                  go_big_quiet_step (fail)
                  go_big_quiet_step (fail)
                  go_big_quiet_step (fail)
                  go_big_quiet_step ((go_at_call 15; with_reducible exact since_callS F5 _))
                  go_big_quiet_step (fail)
                  go_big_quiet_step (fail)
                  go_big_quiet_step (fail)
                  refine wpQuiet_nil ?_
                  rintro wz ⟨xx, hw⟩
                  have bz : Below w13.heap.size w13 wz := hw ▸ xx.2
                  clear hw xx
                  go_wp2_with fail
                  go_meet
                  exact ⟨rfl, bz⟩
                · obtain rfl : hm = true := by simpa using MH1
                  clear MH1
                  go_wp2_with fail
                  have OW : Whole w13 w.heap.size 26 #[.int .u32 t.e, .int .i64 t.d, .int .u32 t.a, .int .u32 t.b, .int .u32 t.c] := OT.out
                  have x0 : ∀ x : Since w13, x.1.cell? ⟨w.heap.size, 0, none⟩ = some (.int .u32 t.e) := fun x => (OW.below x.2 OW.inside).read 0
                  have x1 : ∀ x : Since w13, x.1.cell? ⟨w.heap.size, 1, none⟩ = some (.int .i64 t.d) := fun x => (OW.below x.2 OW.inside).read 1
                  have x2 : ∀ x : Since w13, x.1.cell? ⟨w.heap.size, 2, none⟩ = some (.int .u32 t.a) := fun x => (OW.below x.2 OW.inside).read 2
                  have x3 : ∀ x : Since w13, x.1.cell? ⟨w.heap.size, 3, none⟩ = some (.int .u32 t.b) := fun x => (OW.below x.2 OW.inside).read 3
                  have x4 : ∀ x : Since w13, x.1.cell? ⟨w.heap.size, 4, none⟩ = some (.int .u32 t.c) := fun x => (OW.below x.2 OW.inside).read 4
                  clear OW
                  have F1 := fun x : Since w13 => HMt.out A10 c10 x.1 (RMt.out.below x.2)
                  have F2 := fun x : Since w13 => HX.out x.1 (RL.out.below x.2)
                  have F3 := fun x : Since w13 => HY.out x.1 (RM.out.below x.2)
                  have F4 := fun x : Since w13 => LM1.out A10 c10 x.1 (RMt.out.below x.2) (RL.out.below x.2)
                  have F5 := fun x : Since w13 => LM2.out A10 c10 x.1 (RMt.out.below x.2) (RM.out.below x.2)
                  refine region_since w13 (by kernel_rfl) (by kernel_rfl) (Below.refl _ _) ?_
                  go_big_quiet_step (fail)
                  go_big_quiet_step (fail)
                  go_big_quiet_step (fail)
                  go_big_quiet_step (fail)
                  go_big_quiet_step (fail)
                  go_big_quiet_step ((go_at_call 11; with_reducible exact since_callS F1 _))
                  go_big_quiet_step (fail)
                  go_big_quiet_step (fail)
                  go_big_quiet_step ((go_at_call 11; with_reducible exact since_callS F2 _))
                  go_big_quiet_step (fail)
                  go_big_quiet_step (fail)
                  go_big_quiet_step (fail)
                  go_big_quiet_step ((go_at_call 11; with_reducible exact since_callS F3 _))
                  go_big_quiet_step (fail)
                  go_big_quiet_step (fail)
                  go_big_quiet_step (fail)
                  go_big_quiet_step (fail)
                  go_big_quiet_step (fail)
                  go_big_quiet_step ((go_at_call 15; with_reducible exact since_callS F4 _))
                  go_big_quiet_step (fail)
                  go_big_quiet_step (fail)
                  go_big_quiet_step (fail)
                  go_big_quiet_step (fail)
                  go_big_quiet_step (fail)
                  go_big_quiet_step ((go_at_call 15; with_reducible exact since_callS F5 _))
                  go_big_quiet_step (fail)
                  go_big_quiet_step (fail)
                  go_big_quiet_step (fail)
                  refine wpQuiet_nil ?_
                  rintro wz ⟨xx, hw⟩
                  have bz : Below w13.heap.size w13 wz := hw ▸ xx.2
                  clear hw xx
                  go_wp2_with fail
                  go_meet
                  exact ⟨rfl, bz⟩
              · cases hy
                · obtain rfl : hm = true := by simpa using MH1
                  clear MH1
                  go_wp2_with fail
                  have OW : Whole w13 w.heap.size 26 #[.int .u32 t.e, .int .i64 t.d, .int .u32 t.a, .int .u32 t.b, .int .u32 t.c] := OT.out
                  have x0 : ∀ x : Since w13, x.1.cell? ⟨w.heap.size, 0, none⟩ = some (.int .u32 t.e) := fun x => (OW.below x.2 OW.inside).read 0
                  have x1 : ∀ x : Since w13, x.1.cell? ⟨w.heap.size, 1, none⟩ = some (.int .i64 t.d) := fun x => (OW.below x.2 OW.inside).read 1
                  have x2 : ∀ x : Since w13, x.1.cell? ⟨w.heap.size, 2, none⟩ = some (.int .u32 t.a) := fun x => (OW.below x.2 OW.inside).read 2
                  have x3 : ∀ x : Since w13, x.1.cell? ⟨w.heap.size, 3, none⟩ = some (.int .u32 t.b) := fun x => (OW.below x.2 OW.inside).read 3
                  have x4 : ∀ x : Since w13, x.1.cell? ⟨w.heap.size, 4, none⟩ = some (.int .u32 t.c) := fun x => (OW.below x.2 OW.inside).read 4
                  clear OW
                  have F1 := fun x : Since w13 => HMt.out A10 c10 x.1 (RMt.out.below x.2)
                  have F2 := fun x : Since w13 => HX.out x.1 (RL.out.below x.2)
                  have F3 := fun x : Since w13 => HY.out x.1 (RM.out.below x.2)
                  have F4 := fun x : Since w13 => LM1.out A10 c10 x.1 (RMt.out.below x.2) (RL.out.below x.2)
                  have F5 := fun x : Since w13 => LM2.out A10 c10 x.1 (RMt.out.below x.2) (RM.out.below x.2)
                  refine region_since w13 (by kernel_rfl) (by kernel_rfl) (Below.refl _ _) ?_
                  go_big_quiet_step (fail)
                  go_big_quiet_step (fail)
                  go_big_quiet_step (fail)
                  go_big_quiet_step (fail)
                  go_big_quiet_step (fail)
                  go_big_quiet_step ((go_at_call 11; with_reducible exact since_callS F1 _))
                  go_big_quiet_step (fail)
                  go_big_quiet_step (fail)
                  go_big_quiet_step ((go_at_call 11; with_reducible exact since_callS F2 _))
                  go_big_quiet_step (fail)
                  go_big_quiet_step (fail)
                  go_big_quiet_step (fail)
                  go_big_quiet_step ((go_at_call 11; with_reducible exact since_callS F3 _))
                  go_big_quiet_step (fail)
                  go_big_quiet_step (fail)
                  go_big_quiet_step (fail)
                  go_big_quiet_step (fail)
                  go_big_quiet_step (fail)
                  go_big_quiet_step ((go_at_call 15; with_reducible exact since_callS F4 _))
                  go_big_quiet_step (fail)
                  go_big_quiet_step (fail)
                  go_big_quiet_step (fail)
                  go_big_quiet_step (fail)
                  go_big_quiet_step (fail)
                  go_big_quiet_step ((go_at_call 15; with_reducible exact since_callS F5 _))
                  go_big_quiet_step (fail)
                  go_big_quiet_step (fail)
                  go_big_quiet_step (fail)
                  refine wpQuiet_nil ?_
                  rintro wz ⟨xx, hw⟩
                  have bz : Below w13.heap.size w13 wz := hw ▸ xx.2
                  clear hw xx
                  go_wp2_with fail
                  go_meet
                  exact ⟨rfl, bz⟩
                · obtain rfl : hm = true := by simpa using MH1
                  clear MH1
                  go_wp2_with fail
                  have OW : Whole w13 w.heap.size 26 #[.int .u32 t.e, .int .i64 t.d, .int .u32 t.a, .int .u32 t.b, .int .u32 t.c] := OT.out
                  have x0 : ∀ x : Since w13, x.1.cell? ⟨w.heap.size, 0, none⟩ = some (.int .u32 t.e) := fun x => (OW.below x.2 OW.inside).read 0
                  have x1 : ∀ x : Since w13, x.1.cell? ⟨w.heap.size, 1, none⟩ = some (.int .i64 t.d) := fun x => (OW.below x.2 OW.inside).read 1
                  have x2 : ∀ x : Since w13, x.1.cell? ⟨w.heap.size, 2, none⟩ = some (.int .u32 t.a) := fun x => (OW.below x.2 OW.inside).read 2
                  have x3 : ∀ x : Since w13, x.1.cell? ⟨w.heap.size, 3, none⟩ = some (.int .u32 t.b) := fun x => (OW.below x.2 OW.inside).read 3
                  have x4 : ∀ x : Since w13, x.1.cell? ⟨w.heap.size, 4, none⟩ = some (.int .u32 t.c) := fun x => (OW.below x.2 OW.inside).read 4
                  clear OW
                  have F1 := fun x : Since w13 => HMt.out A10 c10 x.1 (RMt.out.below x.2)
                  have F2 := fun x : Since w13 => HX.out x.1 (RL.out.below x.2)
                  have F3 := fun x : Since w13 => HY.out x.1 (RM.out.below x.2)
                  have F4 := fun x : Since w13 => LM1.out A10 c10 x.1 (RMt.out.below x.2) (RL.out.below x.2)
                  have F5 := fun x : Since w13 => LM2.out A10 c10 x.1 (RMt.out.below x.2) (RM.out.below x.2)
                  refine region_since w13 (by kernel_rfl) (by kernel_rfl) (Below.refl _ _) ?_
                  go_big_quiet_step (fail)
                  go_big_quiet_step (fail)
                  go_big_quiet_step (fail)
                  go_big_quiet_step (fail)
                  go_big_quiet_step (fail)
                  go_big_quiet_step ((go_at_call 11; with_reducible exact since_callS F1 _))
                  go_big_quiet_step (fail)
                  go_big_quiet_step (fail)
                  go_big_quiet_step ((go_at_call 11; with_reducible exact since_callS F2 _))
                  go_big_quiet_step (fail)
                  go_big_quiet_step (fail)
                  go_big_quiet_step (fail)
                  go_big_quiet_step ((go_at_call 11; with_reducible exact since_callS F3 _))
                  go_big_quiet_step (fail)
                  go_big_quiet_step (fail)
                  go_big_quiet_step (fail)
                  go_big_quiet_step (fail)
                  go_big_quiet_step (fail)
                  go_big_quiet_step ((go_at_call 15; with_reducible exact since_callS F4 _))
                  go_big_quiet_step (fail)
                  go_big_quiet_step (fail)
                  go_big_quiet_step (fail)
                  go_big_quiet_step (fail)
                  go_big_quiet_step (fail)
                  go_big_quiet_step ((go_at_call 15; with_reducible exact since_callS F5 _))
                  go_big_quiet_step (fail)
                  go_big_quiet_step (fail)
                  go_big_quiet_step (fail)
                  refine wpQuiet_nil ?_
                  rintro wz ⟨xx, hw⟩
                  have bz : Below w13.heap.size w13 wz := hw ▸ xx.2
                  clear hw xx
                  go_wp2_with fail
                  go_meet
                  exact ⟨rfl, bz⟩
            · have hv0 : (me == 0) = false := by simpa using zm
              go_wp2_with fail
              refine region_since w13 (by kernel_rfl) (by kernel_rfl) (Below.refl _ _) ?_
              repeat (go_big_quiet_step (fail))
              refine wpQuiet_nil ?_
              rintro wz ⟨xx, hw⟩
              have bz : Below w13.heap.size w13 wz := hw ▸ xx.2
              clear hw xx
              go_wp2_with fail
              go_meet
              exact ⟨rfl, bz⟩
          case rest =>
            clear HMt LM1 LM2 MH M1 M2
            obtain ⟨rfl, b14⟩ := hcut
            rename World => w14
            have OT := Lib.hid (OT.out.below b14)
            have RL := Lib.hid (RL.out.below b14)
            have RM := Lib.hid (RM.out.below b14)
            have RMt := Lib.hid (RMt.out.below b14)
            have RJ := Lib.hid (RJ.out.below b14)
            have B14 := B13.trans (b14.mono B13.size)
            clear b14 B13
            by_cases zj : je = 0
            · have JH1 := JH.out zj
              clear JH
              obtain rfl : q1 = true := J1.out zj
              obtain rfl : q2 = true := J2.out zj
              subst zj
              clear J1 J2
              obtain ⟨tc, tf⟩ := path.all_of (show Whole _ _ _ _ from OT.out)
              have CK := Lib.hid (checkR4 t IT.out)
              generalize chk t = kt at CK
              go_wp2_with fail
              refine (CK.out _).mono ?_
              rintro e w15 ⟨rfl, b15⟩
              have OT := Lib.hid (OT.out.below b15)
              have RL := Lib.hid (RL.out.below b15)
              have RM := Lib.hid (RM.out.below b15)
              have RMt := Lib.hid (RMt.out.below b15)
              have RJ := Lib.hid (RJ.out.below b15)
              have B15 := B14.trans (b15.mono B14.size)
              clear b15 B14
              clear tc tf CK
              by_cases zk : kt = 0
              · subst zk
                cases hx
                · cases hy
                  · obtain rfl : hj = false := by simpa using JH1
                    clear JH1
                    go_wp2_with fail
                    have OW : Whole w15 w.heap.size 26 #[.int .u32 t.e, .int .i64 t.d, .int .u32 t.a, .int .u32 t.b, .int .u32 t.c] := OT.out
                    have x0 : ∀ x : Since w15, x.1.cell? ⟨w.heap.size, 0, none⟩ = some (.int .u32 t.e) := fun x => (OW.below x.2 OW.inside).read 0
                    have x1 : ∀ x : Since w15, x.1.cell? ⟨w.heap.size, 1, none⟩ = some (.int .i64 t.d) := fun x => (OW.below x.2 OW.inside).read 1
                    have x2 : ∀ x : Since w15, x.1.cell? ⟨w.heap.size, 2, none⟩ = some (.int .u32 t.a) := fun x => (OW.below x.2 OW.inside).read 2
                    have x3 : ∀ x : Since w15, x.1.cell? ⟨w.heap.size, 3, none⟩ = some (.int .u32 t.b) := fun x => (OW.below x.2 OW.inside).read 3
                    have x4 : ∀ x : Since w15, x.1.cell? ⟨w.heap.size, 4, none⟩ = some (.int .u32 t.c) := fun x => (OW.below x.2 OW.inside).read 4
                    clear OW
                    have F1 := fun x : Since w15 => HJt.out A13 c13 x.1 (RJ.out.below x.2)
                    have F2 := fun x : Since w15 => HX.out x.1 (RL.out.below x.2)
                    have F3 := fun x : Since w15 => HY.out x.1 (RM.out.below x.2)
                    have F4 := fun x : Since w15 => LJ1.out A13 c13 x.1 (RL.out.below x.2) (RJ.out.below x.2)
                    have F5 := fun x : Since w15 => LJ2.out A13 c13 x.1 (RM.out.below x.2) (RJ.out.below x.2)
                    refine region_since w15 (by kernel_rfl) (by kernel_rfl) (Below.refl _ _) ?_
                    go_big_quiet_step (fail)
                    go_big_quiet_step (fail)
                    go_big_quiet_step ((go_at_call 11; with_reducible exact since_callS F1 _))
                    go_big_quiet_step (fail)
                    go_big_quiet_step (fail)
                    go_big_quiet_step ((go_at_call 11; with_reducible exact since_callS F2 _))
                    go_big_quiet_step (fail)
                    go_big_quiet_step (fail)
                    go_big_quiet_step (fail)
                    go_big_quiet_step ((go_at_call 11; with_reducible exact since_callS F3 _))
                    go_big_quiet_step (fail)
                    go_big_quiet_step (fail)
                    go_big_quiet_step (fail)
                    go_big_quiet_step (fail)
                    go_big_quiet_step (fail)
                    go_big_quiet_step ((go_at_call 15; with_reducible exact since_callS F4 _))
                    go_big_quiet_step (fail)
                    go_big_quiet_step (fail)
                    go_big_quiet_step (fail)
                    go_big_quiet_step (fail)
                    go_big_quiet_step ((go_at_call 15; with_reducible exact since_callS F5 _))
                    go_big_quiet_step (fail)
                    go_big_quiet_step (fail)
                    refine wpQuiet_nil ?_
                    rintro wz ⟨xx, hw⟩
                    have bz : Below w15.heap.size w15 wz := hw ▸ xx.2
                    clear hw xx
                    go_wp2_with fail
                    go_ret
                    exact ⟨by first | rfl | simp, B15.trans (bz.mono B15.size)⟩
                  · obtain rfl : hj = false := by simpa using JH1
                    clear JH1
                    go_wp2_with fail
                    have OW : Whole w15 w.heap.size 26 #[.int .u32 t.e, .int .i64 t.d, .int .u32 t.a, .int .u32 t.b, .int .u32 t.c] := OT.out
                    have x0 : ∀ x : Since w15, x.1.cell? ⟨w.heap.size, 0, none⟩ = some (.int .u32 t.e) := fun x => (OW.below x.2 OW.inside).read 0
                    have x1 : ∀ x : Since w15, x.1.cell? ⟨w.heap.size, 1, none⟩ = some (.int .i64 t.d) := fun x => (OW.below x.2 OW.inside).read 1
                    have x2 : ∀ x : Since w15, x.1.cell? ⟨w.heap.size, 2, none⟩ = some (.int .u32 t.a) := fun x => (OW.below x.2 OW.inside).read 2
                    have x3 : ∀ x : Since w15, x.1.cell? ⟨w.heap.size, 3, none⟩ = some (.int .u32 t.b) := fun x => (OW.below x.2 OW.inside).read 3
                    have x4 : ∀ x : Since w15, x.1.cell? ⟨w.heap.size, 4, none⟩ = some (.int .u32 t.c) := fun x => (OW.below x.2 OW.inside).read 4
                    clear OW
                    have F1 := fun x : Since w15 => HJt.out A13 c13 x.1 (RJ.out.below x.2)
                    have F2 := fun x : Since w15 => HX.out x.1 (RL.out.below x.2)
                    have F3 := fun x : Since w15 => HY.out x.1 (RM.out.below x.2)
                    have F4 := fun x : Since w15 => LJ1.out A13 c13 x.1 (RL.out.below x.2) (RJ.out.below x.2)
                    have F5 := fun x : Since w15 => LJ2.out A13 c13 x.1 (RM.out.below x.2) (RJ.out.below x.2)
                    refine region_since w15 (by kernel_rfl) (by kernel_rfl) (Below.refl _ _) ?_
                    go_big_quiet_step (fail)
                    go_big_quiet_step (fail)
                    go_big_quiet_step ((go_at_call 11; with_reducible exact since_callS F1 _))
                    go_big_quiet_step (fail)
                    go_big_quiet_step (fail)
                    go_big_quiet_step ((go_at_call 11; with_reducible exact since_callS F2 _))
                    go_big_quiet_step (fail)
                    go_big_quiet_step (fail)
                    go_big_quiet_step (fail)
                    go_big_quiet_step ((go_at_call 11; with_reducible exact since_callS F3 _))
                    go_big_quiet_step (fail)
                    go_big_quiet_step (fail)
                    go_big_quiet_step (fail)
                    go_big_quiet_step (fail)
                    go_big_quiet_step (fail)
                    go_big_quiet_step ((go_at_call 15; with_reducible exact since_callS F4 _))
                    go_big_quiet_step (fail)
                    go_big_quiet_step (fail)
                    go_big_quiet_step (fail)
                    go_big_quiet_step (fail)
                    go_big_quiet_step ((go_at_call 15; with_reducible exact since_callS F5 _))
                    go_big_quiet_step (fail)
                    go_big_quiet_step (fail)
                    refine wpQuiet_nil ?_
                    rintro wz ⟨xx, hw⟩
                    have bz : Below w15.heap.size w15 wz := hw ▸ xx.2
                    clear hw xx
                    go_wp2_with fail
                    go_ret
                    exact ⟨by first | rfl | simp, B15.trans (bz.mono B15.size)⟩
                · cases hy
                  · obtain rfl : hj = false := by simpa using JH1
                    clear JH1
                    go_wp2_with fail
                    have OW : Whole w15 w.heap.size 26 #[.int .u32 t.e, .int .i64 t.d, .int .u32 t.a, .int .u32 t.b, .int .u32 t.c] := OT.out
                    have x0 : ∀ x : Since w15, x.1.cell? ⟨w.heap.size, 0, none⟩ = some (.int .u32 t.e) := fun x => (OW.below x.2 OW.inside).read 0
                    have x1 : ∀ x : Since w15, x.1.cell? ⟨w.heap.size, 1, none⟩ = some (.int .i64 t.d) := fun x => (OW.below x.2 OW.inside).read 1
                    have x2 : ∀ x : Since w15, x.1.cell? ⟨w.heap.size, 2, none⟩ = some (.int .u32 t.a) := fun x => (OW.below x.2 OW.inside).read 2
                    have x3 : ∀ x : Since w15, x.1.cell? ⟨w.heap.size, 3, none⟩ = some (.int .u32 t.b) := fun x => (OW.below x.2 OW.inside).read 3
                    have x4 : ∀ x : Since w15, x.1.cell? ⟨w.heap.size, 4, none⟩ = some (.int .u32 t.c) := fun x => (OW.below x.2 OW.inside).read 4
                    clear OW
                    have F1 := fun x : Since w15 => HJt.out A13 c13 x.1 (RJ.out.below x.2)
                    have F2 := fun x : Since w15 => HX.out x.1 (RL.out.below x.2)
                    have F3 := fun x : Since w15 => HY.out x.1 (RM.out.below x.2)
                    have F4 := fun x : Since w15 => LJ1.out A13 c13 x.1 (RL.out.below x.2) (RJ.out.below x.2)
                    have F5 := fun x : Since w15 => LJ2.out A13 c13 x.1 (RM.out.below x.2) (RJ.out.below x.2)
                    refine region_since w15 (by kernel_rfl) (by kernel_rfl) (Below.refl _ _) ?_
                    go_big_quiet_step (fail)
                    go_big_quiet_step (fail)
                    go_big_quiet_step ((go_at_call 11; with_reducible exact since_callS F1 _))
                    go_big_quiet_step (fail)
                    go_big_quiet_step (fail)
                    go_big_quiet_step ((go_at_call 11; with_reducible exact since_callS F2 _))
                    go_big_quiet_step (fail)
                    go_big_quiet_step (fail)
                    go_big_quiet_step (fail)
                    go_big_quiet_step ((go_at_call 11; with_reducible exact since_callS F3 _))
                    go_big_quiet_step (fail)
                    go_big_quiet_step (fail)
                    go_big_quiet_step (fail)
                    go_big_quiet_step (fail)
                    go_big_quiet_step (fail)
                    go_big_quiet_step ((go_at_call 15; with_reducible exact since_callS F4 _))
                    go_big_quiet_step (fail)
                    go_big_quiet_step (fail)
                    go_big_quiet_step (fail)
                    go_big_quiet_step (fail)
                    go_big_quiet_step ((go_at_call 15; with_reducible exact since_callS F5 _))
                    go_big_quiet_step (fail)
                    go_big_quiet_step (fail)
                    refine wpQuiet_nil ?_
                    rintro wz ⟨xx, hw⟩
                    have bz : Below w15.heap.size w15 wz := hw ▸ xx.2
                    clear hw xx
                    go_wp2_with fail
                    go_ret
                    exact ⟨by first | rfl | simp, B15.trans (bz.mono B15.size)⟩
                  · obtain rfl : hj = true := by simpa using JH1
                    clear JH1
                    go_wp2_with fail
                    have OW : Whole w15 w.heap.size 26 #[.int .u32 t.e, .int .i64 t.d, .int .u32 t.a, .int .u32 t.b, .int .u32 t.c] := OT.out
                    have x0 : ∀ x : Since w15, x.1.cell? ⟨w.heap.size, 0, none⟩ = some (.int .u32 t.e) := fun x => (OW.below x.2 OW.inside).read 0
                    have x1 : ∀ x : Since w15, x.1.cell? ⟨w.heap.size, 1, none⟩ = some (.int .i64 t.d) := fun x => (OW.below x.2 OW.inside).read 1
                    have x2 : ∀ x : Since w15, x.1.cell? ⟨w.heap.size, 2, none⟩ = some (.int .u32 t.a) := fun x => (OW.below x.2 OW.inside).read 2
                    have x3 : ∀ x : Since w15, x.1.cell? ⟨w.heap.size, 3, none⟩ = some (.int .u32 t.b) := fun x => (OW.below x.2 OW.inside).read 3
                    have x4 : ∀ x : Since w15, x.1.cell? ⟨w.heap.size, 4, none⟩ = some (.int .u32 t.c) := fun x => (OW.below x.2 OW.inside).read 4
                    clear OW
                    have F1 := fun x : Since w15 => HJt.out A13 c13 x.1 (RJ.out.below x.2)
                    have F2 := fun x : Since w15 => HX.out x.1 (RL.out.below x.2)
                    have F3 := fun x : Since w15 => HY.out x.1 (RM.out.below x.2)
                    have F4 := fun x : Since w15 => LJ1.out A13 c13 x.1 (RL.out.below x.2) (RJ.out.below x.2)
                    have F5 := fun x : Since w15 => LJ2.out A13 c13 x.1 (RM.out.below x.2) (RJ.out.below x.2)
                    refine region_since w15 (by kernel_rfl) (by kernel_rfl) (Below.refl _ _) ?_
                    go_big_quiet_step (fail)
                    go_big_quiet_step (fail)
                    go_big_quiet_step ((go_at_call 11; with_reducible exact since_callS F1 _))
                    go_big_quiet_step (fail)
                    go_big_quiet_step (fail)
                    go_big_quiet_step ((go_at_call 11; with_reducible exact since_callS F2 _))
                    go_big_quiet_step (fail)
                    go_big_quiet_step (fail)
                    go_big_quiet_step (fail)
                    go_big_quiet_step ((go_at_call 11; with_reducible exact since_callS F3 _))
                    go_big_quiet_step (fail)
                    go_big_quiet_step (fail)
                    go_big_quiet_step (fail)
                    go_big_quiet_step (fail)
                    go_big_quiet_step (fail)
                    go_big_quiet_step ((go_at_call 15; with_reducible exact since_callS F4 _))
                    go_big_quiet_step (fail)
                    go_big_quiet_step (fail)
                    go_big_quiet_step (fail)
                    go_big_quiet_step (fail)
                    go_big_quiet_step ((go_at_call 15; with_reducible exact since_callS F5 _))
                    go_big_quiet_step (fail)
                    go_big_quiet_step (fail)
                    refine wpQuiet_nil ?_
                    rintro wz ⟨xx, hw⟩
                    have bz : Below w15.heap.size w15 wz := hw ▸ xx.2
                    clear hw xx
                    go_wp2_with fail
                    go_ret
                    exact ⟨by first | rfl | simp, B15.trans (bz.mono B15.size)⟩
              · go_wp2_with fail
                go_ret
                exact ⟨by first | rfl | simp, B15⟩
            · go_wp2_with fail
              go_ret
              exact ⟨by first | rfl | simp, B14⟩
        · go_wp2_with fail
          go_ret
          exact ⟨by first | rfl | simp, B7⟩
      · go_wp2_with fail
        go_ret
        exact ⟨by first | rfl | simp, B7⟩
set_option maxRecDepth 100000 in
theorem told (W : World) (args : Array Value) (hE : Env W) (h : Fed Tryd.prog W [22, 22, 26] args) : Calls Tryd.prog 5 args W fun e W' => e = .returned (.bool true) ∧ Below W.heap.size W W' := by
  obtain ⟨v0, v1, v2, rfl⟩ := args3 h.count
  obtain ⟨⟨_, o0⟩, r0⟩ := h.each 0 22 v0 rfl rfl
  obtain ⟨⟨_, o1⟩, r1⟩ := h.each 1 22 v1 rfl rfl
  obtain ⟨⟨_, o2⟩, r2⟩ := h.each 2 26 v2 rfl rfl
  obtain ⟨a0, q0⟩ := r0 opens_times
  obtain ⟨A0, c0, L0, rfl, iL0, hL0, hc0, mL0⟩ := top_times o0 q0
  obtain ⟨a1, q1⟩ := r1 opens_times
  obtain ⟨A1, c1, L1, rfl, iL1, hL1, hc1, mL1⟩ := top_times o1 q1
  obtain ⟨a2, q2⟩ := r2 opens_time
  obtain ⟨t2, i2, rfl⟩ := top_time o2 q2
  exact walkT A0 c0 L0 iL0 mL0 A1 c1 L1 iL1 mL1 t2 i2 W hE hL0 hL1

/-! ### The row and the card -/
set_option maxRecDepth 100000 in
theorem lifted (os : Os) (started : os.Started) (H : Type) (enc : TypeId × Value → H) :
    ReturnsInHanded {} Tryd.checked os 5 .any (fun w args => (Rows.chainBoundsSpec.pre enc Tryd.prog Tryd.f5 Rows.chainBoundsRow.domain false w args ∧ laidMetH Tryd.prog Rows.chainBoundsRow.laid w) ∧ sizedMet enc Tryd.prog Tryd.f5 (OpenSpec.ofChange Rows.chainBoundsSpec) false w args) (Rows.chainBoundsSpec.post enc Tryd.prog Tryd.f5 false true false false) :=
  liftL (ts := [22, 22, 26]) rfl started (by kernel_rfl) Tryd.func5 (by kernel_rfl) (by kernel_rfl) (by kernel_rfl) rfl
    (fun ds h => by
      match ds, h with
      | [_, _, _], _ => rfl)
    (ChangeSpec.witness_shaped (enc := enc) (C := Tryd.checked) (os := os) (X := fun w _ => laidMetH Tryd.prog laid7 w) false (Go.Proofs.YtmepiogoofmbbaaDoor.stamp.start os) #[.slice none 0 0, .slice none 0 0, .agg #[.int .u32 0, .int .i64 0, .int .u32 0, .int .u32 0, .int .u32 0]] 8 (World.laidAll_os _ _ _)
      (World.shaped_of_ZipB (by kernel_rfl) (by kernel_rfl)) (by kernel_rfl) (by kernel_rfl) (by kernel_rfl) (start_met os _)) told

theorem over : Rows.ChainBoundsSaid :=
  OpenClaim.holds_of_wide 5 Tryd.f5 rfl rfl rfl rfl rfl rfl rfl ⟨rfl, rfl, rfl, rfl, rfl⟩ rfl rfl rfl rfl rfl (by kernel_rfl) Tryd.func5 (by kernel_rfl)
    (of_decide_eq_true (by kernel_rfl)) (by unfold Func.isWrapper; first | (rw [if_pos (by decide +kernel)]; kernel_rfl) | (rw [if_neg (by decide +kernel)]; exact ⟨rfl, rfl⟩))
    (fun os started H enc _ => lifted os started H enc)

theorem proved : Rows.ChainBoundsCardSaid :=
  Claim7.holds_tied_plain_at .later [] [.data, .data, .data] true (true, "f827beb75ba331ec15cc7265a1360425f7692638d53d3e072fa10e4f98849f90") false
    over (fun _ h => by cases h) (by kernel_rfl) (fun _ h => by cases h) chainBounds_row_tie rfl ⟨rfl, rfl⟩ (by kernel_rfl) rfl
    (fun f fn hf hfn => by
      obtain rfl : f = 5 := Option.some.inj ((show Tryd.prog.funcNamed "watershed/watershedlaw06.ChainBounds" = some 5 by kernel_rfl).symm.trans hf) |>.symm
      obtain rfl : fn = Tryd.f5 := (Option.some.inj (Tryd.func5.symm.trans hfn)).symm
      exact ⟨by kernel_rfl, fun j t ht => by
        rw [Tryd.params5] at ht
        have hm : t ∈ [22, 22, 26] := by simpa using Array.mem_of_getElem? ht
        have hall : ([22, 22, 26].all fun u => !Tryd.prog.wantsStandIn u) = true := by kernel_rfl
        exact (show Tryd.prog.wantsStandIn t = false by simpa using List.all_eq_true.1 hall t hm)⟩)
    (by kernel_rfl)
#print axioms proved

end Go.Proofs.YtmepiogoofmbbaaDoor.chainBounds
