/-
  The walk of DataBack.
-/
import Derived.Test.YtkfjgmfokpgcbaaGreatDoorJNum
namespace Go.Proofs.YtkfjgmfokpgcbaaGreatDoor.data
open Go.ChangeShapes Go.WideShapes Go.ChangeAt Go.RowKit
open Go.Proofs.YtkfjgmfokpgcbaaGreatDoor.tm Go.Proofs.YtkfjgmfokpgcbaaGreatDoor.opened Go.Proofs.YtkfjgmfokpgcbaaGreatDoor.block Go.Proofs.YtkfjgmfokpgcbaaGreatDoor.words Go.Proofs.YtkfjgmfokpgcbaaGreatDoor.region Go.Proofs.YtkfjgmfokpgcbaaGreatDoor.stamp

theorem prs_txt {L : List Rc} (iL : InR L) : (L.length ≤ 64 → prsV (txtL L) = L ∧ prsE (txtL L) = 0) ∧ (64 < L.length → prsV (txtL L) = [] ∧ prsE (txtL L) = 7) := by
  by_cases h : L = []
  · subst h
    refine ⟨fun _ => ?_, fun h => by simp at h⟩
    have e : txtL [] = [45] := rfl
    rw [e]
    exact prs_dash
  · obtain ⟨h1, h2⟩ := recs_text iL h
    exact ⟨fun hl => prs_some h1 h2 (by omega), fun hl => prs_long h1 h2 hl⟩
theorem txtL_len {L : List Rc} (iL : InR L) (h : L.length ≤ 300) : (txtL L).length ≤ 100000 := by
  by_cases hn : L = []
  · subst hn
    decide
  · rw [← txtK_all hn]
    have := txtK_len iL L.length
    omega
theorem b_new (L s : List UInt8) (w : World) : Calls Tryz.prog 15 #[sB (L ++ s)] w fun e w' => ∃ g, e = .returned (.pointer (some ⟨g, 0, none⟩)) ∧ QA w' g (L ++ s, 0) ∧ w.heap.size ≤ g ∧ Below w.heap.size w w' :=
  (code.new_l (L ++ s) w).mono fun _ _ ⟨e1, e2, e3⟩ => ⟨_, e1, e2, Nat.le_refl _, (Below.refl _ _).grown e3 (Nat.le_refl _) (fun k e => by cases e)⟩
theorem wrB_len {l : Int} {t : Tm} {L : List Rc} (hc : chkB l t L.length = 0) : (wrB l t L).length ≤ 1000000 := by
  obtain ⟨-, -, ct, -, n2⟩ := chkB_zero hc
  have h1 := wrH_len (l := l) (t := t) (n := L.length) ct
  have h2 := wrRs_len L
  unfold wrB
  rw [List.length_append]
  omega
theorem b_read {l : Int} {t : Tm} {L : List Rc} (it : t.In) (iL : InR L) (hc : chkB l t L.length = 0) (s : List UInt8) (hs : s.length ≤ 1000) (w0 w : World) (g : Nat) (h : QA w g (wrB l t L ++ s, 0)) (hg : w0.heap.size ≤ g) (b : Below w0.heap.size w0 w) :
    Calls Tryz.prog 16 #[.pointer (some ⟨g, 0, none⟩)] w fun e w' => ∃ B c, e = .returned (.agg (bt l t B L.length c)) ∧ Lr w' B L ∧ QA w' g (s, 0) ∧ Below w0.heap.size w0 w' := by
  obtain ⟨h1, h2, h3, h4⟩ := rd_wrB (l := l) (t := t) it iL hc s
  have k := readB_any g (wrB l t L ++ s, 0) (by have := wrB_len hc; simp only [List.length_append]; omega) w h
  rw [h1, h2, h3, h4] at k
  exact k.mono fun e w' ⟨B, c, e1, e2, e3, e4, e5⟩ => ⟨B, c, e1, e2, e4, b.grown e5 b.size (fun k e => by cases e; exact hg)⟩
set_option maxRecDepth 100000 in
set_option maxHeartbeats 4000000 in
theorem walkBack (l : Int) (t : Tm) (it : t.In) (L : List Rc) (iL : InR L) (A : Option Addr) (c : Nat) (s : List UInt8) (w : World) (hE : Env w) (hL : Lr w A L) :
    Calls Tryz.prog 5 #[.agg (bt l t A L.length c), sB s] w fun e w' => e = .returned (.bool true) ∧ Below w.heap.size w w' := by
  have b0 := fresh0 w (.cells (bt l t A L.length c) 43)
  have WK := Lib.hid (works_any _ (hE.below b0))
  have EV := Lib.hid (fun W (b : Below w.heap.size w W) => Env.below hE b)
  have HW0 := Whole.fresh w 43 (bt l t A L.length c)
  have HL0 := Lib.hid (hL.below b0)
  have B0 := Lib.hid b0
  clear hL hE b0
  by_cases hl : L.length ≤ 300
  rotate_left
  · have hl' : (300 : Int) < (L.length : Int) := by omega
    go_enter Tryz.func5, Tryz.ntmps5
    go_upto_region 1 with fail
    change Code.wp _ _ _ _ (w.alloc (.cells (bt l t A L.length c) 43))
    generalize w.alloc (.cells (bt l t A L.length c) 43) = wx at WK HW0 HL0 B0 ⊢
    have HS := Lib.hid HW0
    clear HW0
    obtain ⟨g0, hg0⟩ : ∃ g0, g0 = w.heap.size := ⟨_, rfl⟩
    obtain ⟨HG0, -⟩ : ∃ h : Hid (Whole wx g0 43 (bt l t A L.length c)), True := ⟨Lib.hid (by rw [hg0]; exact HS.out), trivial⟩
    rw [← hg0]
    clear hg0 HS
    go_upto_region 3 with (go_at_call 6; refine WK.out.mono ?_; rintro e w1 ⟨rfl, b1⟩; have HL1 := Lib.hid (HL0.out.below b1); have HG1 := Lib.hid (HG0.out.below b1 HG0.out.inside); have B1 := Lib.hid (then_below B0.out b1); have k6 : w1.cell? ⟨g0, 6, none⟩ = some (.slice A L.length c) := HG1.out.read 6; clear b1)
    clear WK HL0 HG0 B0
    go_wp2_with fail
    go_ret
    exact ⟨rfl, B1.out⟩
  have hl' : ¬ (300 : Int) < (L.length : Int) := by omega
  by_cases hs : s.length ≤ 1000
  rotate_left
  · have hs' : (1000 : Int) < (s.length : Int) := by omega
    go_enter Tryz.func5, Tryz.ntmps5
    go_upto_region 1 with fail
    change Code.wp _ _ _ _ (w.alloc (.cells (bt l t A L.length c) 43))
    generalize w.alloc (.cells (bt l t A L.length c) 43) = wx at WK HW0 HL0 B0 ⊢
    have HS := Lib.hid HW0
    clear HW0
    obtain ⟨g0, hg0⟩ : ∃ g0, g0 = w.heap.size := ⟨_, rfl⟩
    obtain ⟨HG0, -⟩ : ∃ h : Hid (Whole wx g0 43 (bt l t A L.length c)), True := ⟨Lib.hid (by rw [hg0]; exact HS.out), trivial⟩
    rw [← hg0]
    clear hg0 HS
    go_upto_region 3 with (go_at_call 6; refine WK.out.mono ?_; rintro e w1 ⟨rfl, b1⟩; have HL1 := Lib.hid (HL0.out.below b1); have HG1 := Lib.hid (HG0.out.below b1 HG0.out.inside); have B1 := Lib.hid (then_below B0.out b1); have k6 : w1.cell? ⟨g0, 6, none⟩ = some (.slice A L.length c) := HG1.out.read 6; clear b1)
    clear WK HL0 HG0 B0
    go_wp2_with fail
    go_ret
    exact ⟨rfl, B1.out⟩
  have hs' : ¬ (1000 : Int) < (s.length : Int) := by omega
  have TO := Lib.hid (fun w0 h => to_any l t L A c (by omega) w0 h)
  have WR := Lib.hid (fun B c0 w0 h => writeB_any l t it L iL B c0 w0 h)
  have OW := Lib.hid (fun w0 h => own_any A c L (by omega) w0 h)
  have OR := Lib.hid (fun B c0 w0 h => order_any B c0 L (by omega) w0 h)
  have SA := Lib.hid (fun B c0 D c1 w0 h k => same_any B D c0 c1 (srtR L) L (by rw [srt_len]; omega) (by omega) w0 h k)
  rw [srt_len, srt_idem, decide_eq_true rfl] at SA
  rw [srt_len] at OR
  have TX := Lib.hid (fun B c0 w0 e h => text_any L iL B c0 (by omega) w0 e h)
  have PR := Lib.hid (fun w0 e => parse_any (txtL L) (txtL_len iL hl) w0 e)
  have PT := Lib.hid (prs_txt iL)
  have AB := Lib.hid (fun B c0 w0 h k => alikeB_self l t B A c0 c L (by omega) w0 h k)
  have AL := Lib.hid (fun B c0 w0 h k => alike_any B A c0 c L L (by omega) w0 h k)
  rw [decide_eq_true rfl] at AL
  by_cases hc : chkB l t L.length = 0
  · have NW := Lib.hid (b_new (wrB l t L) s)
    have RD := Lib.hid (fun w0 => b_read it iL hc s hs w0)
    have ev : wrV l t L = wrB l t L := by unfold wrV; rw [if_pos hc]
    rw [hc, ev] at WR
    have hcat : ({ data := (wrB l t L).toArray } : ByteArray) ++ { data := s.toArray } = ⟨(wrB l t L ++ s).toArray⟩ := str_app _ _
    have hlen : ¬ 9223372036854775807 < (wrB l t L).length + s.length := by have := wrB_len hc; omega
    have LF := Lib.hid (fun g w0 h => leftQA g (s, 0) w0 h)
    clear iL it hl hs hc ev
    generalize wrB l t L = bs at NW RD WR hcat hlen
    go_enter Tryz.func5, Tryz.ntmps5
    go_upto_region 1 with fail
    change Code.wp _ _ _ _ (w.alloc (.cells (bt l t A L.length c) 43))
    generalize w.alloc (.cells (bt l t A L.length c) 43) = wx at WK HW0 HL0 B0 ⊢
    have HS := Lib.hid HW0
    clear HW0
    obtain ⟨g0, hg0⟩ : ∃ g0, g0 = w.heap.size := ⟨_, rfl⟩
    obtain ⟨HG0, -⟩ : ∃ h : Hid (Whole wx g0 43 (bt l t A L.length c)), True := ⟨Lib.hid (by rw [hg0]; exact HS.out), trivial⟩
    rw [← hg0]
    clear hg0 HS
    go_upto_region 3 with (go_at_call 6; refine WK.out.mono ?_; rintro e w1 ⟨rfl, b1⟩; have HL1 := Lib.hid (HL0.out.below b1); have HG1 := Lib.hid (HG0.out.below b1 HG0.out.inside); have B1 := Lib.hid (then_below B0.out b1); have k6 : w1.cell? ⟨g0, 6, none⟩ = some (.slice A L.length c) := HG1.out.read 6; clear b1)
    clear WK HL0 HG0 B0
    have k0 : w1.cell? ⟨g0, 0, none⟩ = some (.int .i64 l) := HG1.out.read 0
    have k1 : w1.cell? ⟨g0, 1, none⟩ = some (.int .u32 t.e) := HG1.out.read 1
    have k2 : w1.cell? ⟨g0, 2, none⟩ = some (.int .i64 t.d) := HG1.out.read 2
    have k3 : w1.cell? ⟨g0, 3, none⟩ = some (.int .u32 t.a) := HG1.out.read 3
    have k4 : w1.cell? ⟨g0, 4, none⟩ = some (.int .u32 t.b) := HG1.out.read 4
    have k5 : w1.cell? ⟨g0, 5, none⟩ = some (.int .u32 t.c) := HG1.out.read 5
    go_upto_region 6 with (first
      | (go_at_call 13; refine (WR.out _ _ _ HT.out).mono ?_; rintro e w3 ⟨rfl, b3⟩; have HL3 := Lib.hid (HL2.out.below b3); have HG3 := Lib.hid (HG2.out.below b3 HG2.out.inside); have B3 := Lib.hid (then_below B2.out b3); have q6 : w3.cell? ⟨g0, 6, none⟩ = some (.slice A L.length c) := HG3.out.read 6; clear b3)
      | (go_at_call 14; refine (TO.out _ HL1.out).mono ?_; rintro e w2 ⟨T, tc, rfl, ht, b2⟩; have HT := Lib.hid ht; have HL2 := Lib.hid (HL1.out.below b2); have HG2 := Lib.hid (HG1.out.below b2 HG1.out.inside); have B2 := Lib.hid (then_below B1.out b2); clear ht b2))
    clear k0 k1 k2 k3 k4 k5 k6 HT HL1 HG1 B1 HL2 HG2 B2 TO WR
    have RD3 := Lib.hid (RD.out w3)
    go_upto_region 9 with (first
      | (go_at_call 16; refine (RD3.out _ _ HQ.out HQG.out B4.out).mono ?_; rintro e w5 ⟨R, rc, rfl, hr, hq5, b5⟩; have HR := Lib.hid hr; have HQ5 := Lib.hid hq5; have HL5 := Lib.hid (HL3.out.below b5); have HG5 := Lib.hid (HG3.out.below b5 HG3.out.inside); have B5 := Lib.hid (then_below B3.out b5); clear hr hq5 b5)
      | (go_at_call 15; (try rw [hcat]); refine (NW.out _).mono ?_; rintro e w4 ⟨g, rfl, hq, hgg, b4⟩; have HQ := Lib.hid hq; have HQG := Lib.hid hgg; have B4 := Lib.hid b4; clear hq hgg b4))
    clear HQ HQG B4 RD3 RD NW HL3 HG3 B3 hcat hlen q6
    have b6 := fresh0 w5 (.cells (bt l t R L.length rc) 46)
    have H6 := Whole.fresh w5 46 (bt l t R L.length rc)
    have HR6 := Lib.hid (HR.out.below b6)
    have HQ6 := Lib.hid (QA.later HQ5.out b6)
    have HL6 := Lib.hid (HL5.out.below b6)
    have HG6 := Lib.hid (HG5.out.below b6 HG5.out.inside)
    have B6 := Lib.hid (then_below B5.out b6)
    clear HR HQ5 HL5 HG5 B5 b6
    change Code.wp _ _ _ _ (w5.alloc (.cells (bt l t R L.length rc) 46))
    generalize w5.alloc (.cells (bt l t R L.length rc) 46) = w6 at H6 HR6 HQ6 HL6 HG6 B6 ⊢
    generalize w5.heap.size = g6 at H6 ⊢
    have k0 : w6.cell? ⟨g0, 0, none⟩ = some (.int .i64 l) := HG6.out.read 0
    have m0 : w6.cell? ⟨g6, 0, none⟩ = some (.int .i64 l) := H6.read 0
    have k1 : w6.cell? ⟨g0, 1, none⟩ = some (.int .u32 t.e) := HG6.out.read 1
    have m1 : w6.cell? ⟨g6, 1, none⟩ = some (.int .u32 t.e) := H6.read 1
    have k2 : w6.cell? ⟨g0, 2, none⟩ = some (.int .i64 t.d) := HG6.out.read 2
    have m2 : w6.cell? ⟨g6, 2, none⟩ = some (.int .i64 t.d) := H6.read 2
    have k3 : w6.cell? ⟨g0, 3, none⟩ = some (.int .u32 t.a) := HG6.out.read 3
    have m3 : w6.cell? ⟨g6, 3, none⟩ = some (.int .u32 t.a) := H6.read 3
    have k4 : w6.cell? ⟨g0, 4, none⟩ = some (.int .u32 t.b) := HG6.out.read 4
    have m4 : w6.cell? ⟨g6, 4, none⟩ = some (.int .u32 t.b) := H6.read 4
    have k5 : w6.cell? ⟨g0, 5, none⟩ = some (.int .u32 t.c) := HG6.out.read 5
    have m5 : w6.cell? ⟨g6, 5, none⟩ = some (.int .u32 t.c) := H6.read 5
    have k6 : w6.cell? ⟨g0, 6, none⟩ = some (.slice A L.length c) := HG6.out.read 6
    have m6 : w6.cell? ⟨g6, 6, none⟩ = some (.slice R L.length rc) := H6.read 6
    clear H6
    have LX := Lib.hid (fun W b => LF.out g W (QA.later HQ6.out b))
    go_upto_region 11 with (first
      | (go_at_call 18; refine (LX.out _ B67.out).mono ?_; rintro e w8 ⟨rfl, rfl⟩)
      | (go_at_call 17; refine (AB.out _ _ _ HR6.out HL6.out).mono ?_; rintro e w7 ⟨rfl, b7⟩; have B67 := Lib.hid b7; have HL7 := Lib.hid (HL6.out.below b7); have HG7 := Lib.hid (HG6.out.below b7 HG6.out.inside); have B7 := Lib.hid (then_below B6.out b7); have p6 : w7.cell? ⟨g0, 6, none⟩ = some (.slice A L.length c) := HG7.out.read 6; clear b7))
    clear k0 k1 k2 k3 k4 k5 k6 m0 m1 m2 m3 m4 m5 m6 HR6 HQ6 HL6 HG6 B6 LX LF
    go_upto_region 12 with (first
      | (go_at_call 19; refine (OR.out _ _ _ HO.out).mono ?_; rintro e u2 ⟨S, sc, rfl, hs, b2⟩; have HS := Lib.hid hs; have HL2u := Lib.hid (HLu.out.below b2); have HG2u := Lib.hid (HGu.out.below b2 HGu.out.inside); have B2u := Lib.hid (then_below Bu.out b2); have k6 : u2.cell? ⟨g0, 6, none⟩ = some (.slice A L.length c) := HG2u.out.read 6; clear hs b2)
      | (go_at_call 8; refine (OW.out _ HL7.out).mono ?_; rintro e u1 ⟨D, dc, rfl, ho, b1⟩; have HO := Lib.hid (OwnG.lg cellsR ho); have HLu := Lib.hid (HL7.out.below b1); have HGu := Lib.hid (HG7.out.below b1 HG7.out.inside); have Bu := Lib.hid (then_below B7.out b1); clear ho b1))
    clear HO HLu HGu Bu HL7 HG7 B7
    go_upto_region 14 with (first
      | (go_at_call 10; refine (SA.out _ _ _ _ _ HSx.out HO.out).mono ?_; rintro e u4 ⟨rfl, b4⟩; have HL4u := Lib.hid (HL3u.out.below b4); have HG4u := Lib.hid (HG3u.out.below b4 HG3u.out.inside); have B4u := Lib.hid (then_below B3u.out b4); have k6 : u4.cell? ⟨g0, 6, none⟩ = some (.slice A L.length c) := HG4u.out.read 6; clear b4)
      | (go_at_call 8; refine (OW.out _ HL2u.out).mono ?_; rintro e u3 ⟨D2, dc2, rfl, ho, b3⟩; have HO := Lib.hid (OwnG.lg cellsR ho); have HSx := Lib.hid (HS.out.below b3); have HL3u := Lib.hid (HL2u.out.below b3); have HG3u := Lib.hid (HG2u.out.below b3 HG2u.out.inside); have B3u := Lib.hid (then_below B2u.out b3); clear ho b3))
    clear HS HL2u HG2u B2u HO HSx HL3u HG3u B3u
    by_cases h64 : L.length ≤ 64
    · obtain ⟨p1, p2⟩ := PT.out.1 h64
      rw [p1, p2] at PR
      have h64' : ¬ (64 : Int) < (L.length : Int) := by omega
      go_wp2_with (first
        | (go_at_call 12; refine (AL.out _ _ _ HPx.out HL7u.out).mono ?_; rintro e u8 ⟨rfl, b8⟩; have B8u := Lib.hid (then_below B7u.out b8); clear b8)
        | (go_at_call 20; refine (PR.out _ (EV.out _ B6u.out)).mono ?_; rintro e u7 ⟨X, xc, rfl, hx, b7⟩; have HPx := Lib.hid (OwnG.lg cellsR hx); have HL7u := Lib.hid (HL6u.out.below b7); have HG7u := Lib.hid (HG6u.out.below b7 HG6u.out.inside); have B7u := Lib.hid (then_below B6u.out b7); have k6 : u7.cell? ⟨g0, 6, none⟩ = some (.slice A L.length c) := HG7u.out.read 6; clear hx b7)
        | (go_at_call 21; refine (TX.out _ _ _ (EV.out _ B5u.out) HO.out).mono ?_; rintro e u6 ⟨rfl, b6⟩; have HL6u := Lib.hid (HL5u.out.below b6); have HG6u := Lib.hid (HG5u.out.below b6 HG5u.out.inside); have B6u := Lib.hid (then_below B5u.out b6); clear b6)
        | (go_at_call 8; refine (OW.out _ HL4u.out).mono ?_; rintro e u5 ⟨D3, dc3, rfl, ho, b5⟩; have HO := Lib.hid (OwnG.lg cellsR ho); have HL5u := Lib.hid (HL4u.out.below b5); have HG5u := Lib.hid (HG4u.out.below b5 HG4u.out.inside); have B5u := Lib.hid (then_below B4u.out b5); clear ho b5))
      go_ret
      exact ⟨rfl, B8u.out⟩
    · obtain ⟨p1, p2⟩ := PT.out.2 (by omega)
      rw [p1, p2] at PR
      have h64' : (64 : Int) < (L.length : Int) := by omega
      go_wp2_with (first
        | (go_at_call 20; refine (PR.out _ (EV.out _ B6u.out)).mono ?_; rintro e u7 ⟨X, xc, rfl, hx, b7⟩; have HG7u := Lib.hid (HG6u.out.below b7 HG6u.out.inside); have B7u := Lib.hid (then_below B6u.out b7); have k6 : u7.cell? ⟨g0, 6, none⟩ = some (.slice A L.length c) := HG7u.out.read 6; clear hx b7)
        | (go_at_call 21; refine (TX.out _ _ _ (EV.out _ B5u.out) HO.out).mono ?_; rintro e u6 ⟨rfl, b6⟩; have HG6u := Lib.hid (HG5u.out.below b6 HG5u.out.inside); have B6u := Lib.hid (then_below B5u.out b6); clear b6)
        | (go_at_call 8; refine (OW.out _ HL4u.out).mono ?_; rintro e u5 ⟨D3, dc3, rfl, ho, b5⟩; have HO := Lib.hid (OwnG.lg cellsR ho); have HG5u := Lib.hid (HG4u.out.below b5 HG4u.out.inside); have B5u := Lib.hid (then_below B4u.out b5); clear ho b5))
      go_ret
      exact ⟨rfl, B7u.out⟩
  · have hc' : (chkB l t L.length == 0) = false := by rw [beq_eq_false_iff_ne]; exact hc
    generalize chkB l t L.length = cc at WR hc'
    clear iL it hl hs hc AB
    generalize wrV l t L = bs at WR
    go_enter Tryz.func5, Tryz.ntmps5
    go_upto_region 1 with fail
    change Code.wp _ _ _ _ (w.alloc (.cells (bt l t A L.length c) 43))
    generalize w.alloc (.cells (bt l t A L.length c) 43) = wx at WK HW0 HL0 B0 ⊢
    have HS := Lib.hid HW0
    clear HW0
    obtain ⟨g0, hg0⟩ : ∃ g0, g0 = w.heap.size := ⟨_, rfl⟩
    obtain ⟨HG0, -⟩ : ∃ h : Hid (Whole wx g0 43 (bt l t A L.length c)), True := ⟨Lib.hid (by rw [hg0]; exact HS.out), trivial⟩
    rw [← hg0]
    clear hg0 HS
    go_upto_region 3 with (go_at_call 6; refine WK.out.mono ?_; rintro e w1 ⟨rfl, b1⟩; have HL1 := Lib.hid (HL0.out.below b1); have HG1 := Lib.hid (HG0.out.below b1 HG0.out.inside); have B1 := Lib.hid (then_below B0.out b1); have k6 : w1.cell? ⟨g0, 6, none⟩ = some (.slice A L.length c) := HG1.out.read 6; clear b1)
    clear WK HL0 HG0 B0
    have k0 : w1.cell? ⟨g0, 0, none⟩ = some (.int .i64 l) := HG1.out.read 0
    have k1 : w1.cell? ⟨g0, 1, none⟩ = some (.int .u32 t.e) := HG1.out.read 1
    have k2 : w1.cell? ⟨g0, 2, none⟩ = some (.int .i64 t.d) := HG1.out.read 2
    have k3 : w1.cell? ⟨g0, 3, none⟩ = some (.int .u32 t.a) := HG1.out.read 3
    have k4 : w1.cell? ⟨g0, 4, none⟩ = some (.int .u32 t.b) := HG1.out.read 4
    have k5 : w1.cell? ⟨g0, 5, none⟩ = some (.int .u32 t.c) := HG1.out.read 5
    go_upto_region 6 with (first
      | (go_at_call 13; refine (WR.out _ _ _ HT.out).mono ?_; rintro e w3 ⟨rfl, b3⟩; have HL3 := Lib.hid (HL2.out.below b3); have HG3 := Lib.hid (HG2.out.below b3 HG2.out.inside); have B3 := Lib.hid (then_below B2.out b3); have q6 : w3.cell? ⟨g0, 6, none⟩ = some (.slice A L.length c) := HG3.out.read 6; clear b3)
      | (go_at_call 14; refine (TO.out _ HL1.out).mono ?_; rintro e w2 ⟨T, tc, rfl, ht, b2⟩; have HT := Lib.hid ht; have HL2 := Lib.hid (HL1.out.below b2); have HG2 := Lib.hid (HG1.out.below b2 HG1.out.inside); have B2 := Lib.hid (then_below B1.out b2); clear ht b2))
    clear k0 k1 k2 k3 k4 k5 k6 HT HL1 HG1 B1 HL2 HG2 B2 TO WR
    go_upto_region 11 with fail
    go_upto_region 12 with (first
      | (go_at_call 19; refine (OR.out _ _ _ HO.out).mono ?_; rintro e u2 ⟨S, sc, rfl, hs, b2⟩; have HS := Lib.hid hs; have HL2u := Lib.hid (HLu.out.below b2); have HG2u := Lib.hid (HGu.out.below b2 HGu.out.inside); have B2u := Lib.hid (then_below Bu.out b2); have k6 : u2.cell? ⟨g0, 6, none⟩ = some (.slice A L.length c) := HG2u.out.read 6; clear hs b2)
      | (go_at_call 8; refine (OW.out _ HL3.out).mono ?_; rintro e u1 ⟨D, dc, rfl, ho, b1⟩; have HO := Lib.hid (OwnG.lg cellsR ho); have HLu := Lib.hid (HL3.out.below b1); have HGu := Lib.hid (HG3.out.below b1 HG3.out.inside); have Bu := Lib.hid (then_below B3.out b1); clear ho b1))
    clear HO HLu HGu Bu HL3 HG3 B3
    go_upto_region 14 with (first
      | (go_at_call 10; refine (SA.out _ _ _ _ _ HSx.out HO.out).mono ?_; rintro e u4 ⟨rfl, b4⟩; have HL4u := Lib.hid (HL3u.out.below b4); have HG4u := Lib.hid (HG3u.out.below b4 HG3u.out.inside); have B4u := Lib.hid (then_below B3u.out b4); have k6 : u4.cell? ⟨g0, 6, none⟩ = some (.slice A L.length c) := HG4u.out.read 6; clear b4)
      | (go_at_call 8; refine (OW.out _ HL2u.out).mono ?_; rintro e u3 ⟨D2, dc2, rfl, ho, b3⟩; have HO := Lib.hid (OwnG.lg cellsR ho); have HSx := Lib.hid (HS.out.below b3); have HL3u := Lib.hid (HL2u.out.below b3); have HG3u := Lib.hid (HG2u.out.below b3 HG2u.out.inside); have B3u := Lib.hid (then_below B2u.out b3); clear ho b3))
    clear HS HL2u HG2u B2u HO HSx HL3u HG3u B3u
    by_cases h64 : L.length ≤ 64
    · obtain ⟨p1, p2⟩ := PT.out.1 h64
      rw [p1, p2] at PR
      have h64' : ¬ (64 : Int) < (L.length : Int) := by omega
      go_wp2_with (first
        | (go_at_call 12; refine (AL.out _ _ _ HPx.out HL7u.out).mono ?_; rintro e u8 ⟨rfl, b8⟩; have B8u := Lib.hid (then_below B7u.out b8); clear b8)
        | (go_at_call 20; refine (PR.out _ (EV.out _ B6u.out)).mono ?_; rintro e u7 ⟨X, xc, rfl, hx, b7⟩; have HPx := Lib.hid (OwnG.lg cellsR hx); have HL7u := Lib.hid (HL6u.out.below b7); have HG7u := Lib.hid (HG6u.out.below b7 HG6u.out.inside); have B7u := Lib.hid (then_below B6u.out b7); have k6 : u7.cell? ⟨g0, 6, none⟩ = some (.slice A L.length c) := HG7u.out.read 6; clear hx b7)
        | (go_at_call 21; refine (TX.out _ _ _ (EV.out _ B5u.out) HO.out).mono ?_; rintro e u6 ⟨rfl, b6⟩; have HL6u := Lib.hid (HL5u.out.below b6); have HG6u := Lib.hid (HG5u.out.below b6 HG5u.out.inside); have B6u := Lib.hid (then_below B5u.out b6); clear b6)
        | (go_at_call 8; refine (OW.out _ HL4u.out).mono ?_; rintro e u5 ⟨D3, dc3, rfl, ho, b5⟩; have HO := Lib.hid (OwnG.lg cellsR ho); have HL5u := Lib.hid (HL4u.out.below b5); have HG5u := Lib.hid (HG4u.out.below b5 HG4u.out.inside); have B5u := Lib.hid (then_below B4u.out b5); clear ho b5))
      go_ret
      exact ⟨rfl, B8u.out⟩
    · obtain ⟨p1, p2⟩ := PT.out.2 (by omega)
      rw [p1, p2] at PR
      have h64' : (64 : Int) < (L.length : Int) := by omega
      go_wp2_with (first
        | (go_at_call 20; refine (PR.out _ (EV.out _ B6u.out)).mono ?_; rintro e u7 ⟨X, xc, rfl, hx, b7⟩; have HG7u := Lib.hid (HG6u.out.below b7 HG6u.out.inside); have B7u := Lib.hid (then_below B6u.out b7); have k6 : u7.cell? ⟨g0, 6, none⟩ = some (.slice A L.length c) := HG7u.out.read 6; clear hx b7)
        | (go_at_call 21; refine (TX.out _ _ _ (EV.out _ B5u.out) HO.out).mono ?_; rintro e u6 ⟨rfl, b6⟩; have HG6u := Lib.hid (HG5u.out.below b6 HG5u.out.inside); have B6u := Lib.hid (then_below B5u.out b6); clear b6)
        | (go_at_call 8; refine (OW.out _ HL4u.out).mono ?_; rintro e u5 ⟨D3, dc3, rfl, ho, b5⟩; have HO := Lib.hid (OwnG.lg cellsR ho); have HG5u := Lib.hid (HG4u.out.below b5 HG4u.out.inside); have B5u := Lib.hid (then_below B4u.out b5); clear ho b5))
      go_ret
      exact ⟨rfl, B7u.out⟩
end Go.Proofs.YtkfjgmfokpgcbaaGreatDoor.data
