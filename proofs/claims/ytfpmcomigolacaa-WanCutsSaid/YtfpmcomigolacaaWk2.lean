/-
  The walk of WanCuts (by mkwk2.py).
-/
import Derived.Test.YtfpmcomigolacaaWk1
set_option linter.unusedSimpArgs false
set_option linter.unusedVariables false
namespace Go.Proofs.Ytfpmcomigolacaa.wan
open Go.ChangeShapes Go.WideShapes Go.ChangeAt Go.RowKit
open Go.Proofs.Ytfpmcomigolacaa.opened Go.Proofs.Ytfpmcomigolacaa.block Go.Proofs.Ytfpmcomigolacaa.words Go.Proofs.Ytfpmcomigolacaa.region
section
variable {w : World}
set_option maxRecDepth 100000 in
set_option maxHeartbeats 8000000 in
theorem walkCuts (nn : Int) (A : Option Addr) (c : Nat) (l : List Ox) (fa fb : Int) (hl : l.length ≤ 4611686018427387903) (hL : Actx w A l) :
    Calls Try.prog 5 #[.int .i64 nn, .slice A l.length c, .int .i64 fa, .int .i64 fb] w fun e w' => e = .returned (.bool true) ∧ Below w.heap.size w w' := by
  have HW := Lib.hid (works_any w)
  obtain ⟨m, h2, h16, hm⟩ := ends_is nn
  obtain ⟨a, ham, ha⟩ := end_is fa m h2 h16
  obtain ⟨b, hbm, hb⟩ := end_is fb m h2 h16
  have hmu : IntKind.u64.wrap (m : Int) = (m : Int) := by rw [IntKind.wrap_u64]; omega
  have HL := Lib.hid hL
  clear hL
  go_enter Try.func5, Try.ntmps5
  go_upto_region 4 with (go_at_call 23; refine HW.out.mono ?_; rintro e w1 ⟨rfl, b1⟩; have B1 := Lib.hid b1; clear b1)
  rw [hm]
  have hm1 : (m : Int) ≤ 16 := by omega
  have hm2 : (2 : Int) ≤ m := by omega
  have hm0 : ((m : Int) == 0) = false := beq_eq_false_iff_ne.2 (by omega)
  have hm9 : ¬ (m : Int) = 0 := by omega
  generalize wrap64 ((IntKind.u64.wrap nn).tmod 15) = q1
  generalize (IntKind.u64.wrap nn).tmod 15 = q2
  generalize IntKind.u64.wrap nn = q3
  go_quiet (fail)
  rw [ha, hb]
  generalize (IntKind.u64.wrap fa).tmod (m : Int) = q4
  generalize (IntKind.u64.wrap fb).tmod (m : Int) = q5
  generalize IntKind.u64.wrap fa = q6
  generalize IntKind.u64.wrap fb = q7
  clear hm hb ha hmu hm0 hm9
  have B2 : Hid (Below w.heap.size w (w1.drewN nq)) := Lib.hid (then_below B1.out (below_more w1 nq))
  generalize w1.drewN nq = w2 at B2 ⊢
  have HN := Lib.hid (new_any (w := w2) (m : Int) hm2 hm1)
  go_upto_region 6 with (go_at_call 6; refine HN.out.mono ?_; rintro e w3 ⟨rfl, rfl⟩)
  have P3 : Hid (PP w.heap.size (w2.alloc (.cells (wanC (m : Int) (.slice none 0 0) O0 0) 58)) w2.heap.size ⟨m, [], O0, 0⟩) := Lib.hid ⟨none, 0, Whole.fresh w2 _ _, ownG_nil _ _, B2.out.size⟩
  have Q3 : Hid (QQ w.heap.size w (w2.alloc (.cells (wanC (m : Int) (.slice none 0 0) O0 0) 58))) := Lib.hid (WB.of (then_below B2.out (fresh1 w2 _)) (Nat.le_refl _))
  have S3 := Lib.hid (sent_new (n := (m : Int)) hm2 hm1)
  clear HN
  generalize w2.alloc (.cells (wanC (m : Int) (.slice none 0 0) O0 0) 58) = w3 at P3 Q3 ⊢
  generalize w2.heap.size = gw at P3 ⊢
  generalize (⟨m, [], O0, 0⟩ : Wn) = W0 at P3 S3
  go_upto_block 0 with fail
  go_cut [11] from 50 to 84 (fun _ wx => ∃ W : Wn, Hid (Sent m 60 W) ∧ Hid (PP w.heap.size wx gw W) ∧ Hid (QQ w.heap.size w wx))
  case first =>
    go_wp2_with fail
    go_loopw [11] (fun i wr => ∃ (j : Nat) (W : Wn), j ≤ l.length ∧ j ≤ 60 ∧ i = .int .i64 (j : Int) ∧ Hid (Sent m j W) ∧ Hid (PP w.heap.size wr gw W) ∧ Hid (QQ w.heap.size w wr)) (fun i _ => l.length - (intOf i).toNat)
    case atStart => exact ⟨0, W0, Nat.zero_le _, Nat.zero_le _, rfl, S3, P3, Q3⟩
    case round =>
      obtain ⟨j, W, hjl, hj1, rfl, HSe, HP, HQ⟩ := hrel
      clear S3 P3 Q3
      by_cases h1 : j < l.length
      · by_cases h2 : j < 60
        · obtain ⟨o, ho⟩ : ∃ o, l[j]? = some o := ⟨_, List.getElem?_eq_getElem h1⟩
          have HLr := HL.out.below (HQ.out.below : Below w.heap.size w wr)
          obtain ⟨b', off, hA, hbi, c0, c1, c2, c3, c4, c5⟩ := HLr.at ho
          have ho5 := (HLr.2 o (List.mem_of_getElem? ho)).1
          subst hA
          have h1i : (j : Int) < (l.length : Int) := by omega
          have h2i : (j : Int) < 60 := by omega
          clear HLr ho c0 c4 c5 hbi
          by_cases h8 : 8000 < o.s.length
          · have h8i : (8000 : Int) < (o.s.length : Int) := by omega
            go_wp2_with fail
            go_ret
            exact ⟨rfl, HQ.out.below⟩
          · have h8i : ¬ (8000 : Int) < (o.s.length : Int) := by omega
            have hc60 := HSe.out.c
            have HSd := Lib.hid (fun (w5 : World) (h : PP w.heap.size w5 gw W) => p_send (e := sendE W ⟨o.f, o.t, o.s⟩) (V := sendV W ⟨o.f, o.t, o.s⟩) h HSe.out.good (by omega) ⟨o.f, o.t, o.s⟩ (by show o.s.length ≤ _; omega) rfl rfl)
            have S5 := Lib.hid (HSe.out.send (by omega) ⟨o.f, o.t, o.s⟩)
            have PD : Hid (PP w.heap.size wr.drew gw W) := Lib.hid (HP.out.below (Below.refl _ wr).drew)
            have QD : Hid (QQ w.heap.size w wr.drew) := Lib.hid (HQ.out.trans (WB.of (Below.refl _ wr).drew HP.out.le))
            go_upto_region 13 with fail
            go_region_with (go_at_call 8; (with_reducible refine (HSd.out _ PD.out).mono ?_); rintro e w5 ⟨rfl, p5, q5⟩; have P5 := Lib.hid p5; have Q5 := Lib.hid (QD.out.trans q5); clear p5 q5)
            all_goals go_wp2_with fail
            all_goals
              go_roundw
              case rel => exact ⟨j + 1, sendV W ⟨o.f, o.t, o.s⟩, by omega, by omega, by go_num, S5, P5, Q5⟩
              case measure => simp [intOf]; omega
        · have hj : j = 60 := by omega
          subst hj
          have h1i : (60 : Int) < (l.length : Int) := by omega
          go_wp2_with fail
          go_meet
          case rel => exact ⟨W, HSe, HP, HQ⟩
      · have h1i : ¬ (j : Int) < (l.length : Int) := by omega
        have S6 : Hid (Sent m 60 W) := Lib.hid ⟨HSe.out.good, HSe.out.n, HSe.out.O, by have := HSe.out.c; omega⟩
        go_wp2_with fail
        go_meet
        case rel => exact ⟨W, S6, HP, HQ⟩
  case rest =>
    obtain ⟨W, HSe, HP, HQ⟩ := hcut
    clear S3 P3 Q3 HL HW
    obtain ⟨L, hLW⟩ : ∃ L, L = W.L := ⟨_, rfl⟩
    have HLW := Lib.hid hLW
    have hl96 : L.length ≤ 96 := by rw [hLW]; exact HSe.out.good.l
    have HWt : Hid (∀ w5, PP w.heap.size w5 gw W → Calls Try.prog 17 #[.pointer (some ⟨gw, 0, none⟩)] w5 fun e w' => e = .returned (.int .i64 (L.length : Int)) ∧ PP w.heap.size w' gw W ∧ QQ w.heap.size w5 w') := Lib.hid fun w5 h => p_waits h (by rw [hLW])
    have HAt := Lib.hid (fun (w5 : World) (h : PP w.heap.size w5 gw W) (i : Int) => p_at h HSe.out.good i)
    clear hLW
    go_wp2_with fail
    go_loopw [12, 13, 14, 15] (fun s12 s13 _ _ wr => ∃ (j : Nat), j ≤ L.length ∧ s13 = .int .i64 (j : Int) ∧ s12 = .int .i64 ((notP (pL a b) (L.take j)).length : Nat) ∧ Hid (PP w.heap.size wr gw W) ∧ Hid (QQ w.heap.size w wr)) (fun _ s13 _ _ _ => L.length - (intOf s13).toNat)
    case atStart => exact ⟨0, Nat.zero_le _, rfl, rfl, HP, HQ⟩
    case round =>
      obtain ⟨j, hjl, rfl, rfl, HP, HQ⟩ := hrel
      have hnl := notP_le (pL a b) L j
      by_cases h1 : j < L.length
      · have h1i : (j : Int) < (L.length : Int) := by omega
        obtain ⟨x, hx⟩ : ∃ x, x = L[j] := ⟨_, rfl⟩
        have hxs := notP_succ (pL a b) L h1
        rw [← hx] at hxs
        have ev : atV W (j : Int) = x := by
          unfold atV
          rw [if_pos (by omega), Int.toNat_natCast, ← HLW.out, List.getElem?_eq_getElem h1, hx]
          rfl
        have ee : atE W (j : Int) = 0 := by
          unfold atE
          rw [if_pos ⟨by omega, by rw [← HLW.out]; exact h1i⟩]
        have HA := Lib.hid (fun w5 h => HAt.out w5 h (j : Int))
        rw [ev, ee] at HA
        have HXS := Lib.hid hxs
        clear ev ee hx hxs
        go_upto_region 19 with (first
          | (go_at_call 21; (with_reducible refine (HA.out _ P5.out).mono ?_); rintro e w6 ⟨rfl, p6, q6⟩; have P6 := Lib.hid p6; have Q6 := Lib.hid (Q5.out.trans q6); clear p6 q6)
          | (go_at_call 17; (with_reducible refine (HWt.out _ HP.out).mono ?_); rintro e w5 ⟨rfl, p5, q5⟩; have P5 := Lib.hid p5; have Q5 := Lib.hid (HQ.out.trans q5); clear p5 q5))
        change Code.wp _ _ _ _ (w6.alloc (.cells (cL x).toArray 34))
        have R7 := Whole.fresh w6 34 (cL x).toArray
        have k0 : (w6.alloc (.cells (cL x).toArray 34)).cell? ⟨w6.heap.size, 0, none⟩ = some (.int .i64 x.f) := R7.read 0
        have k1 : (w6.alloc (.cells (cL x).toArray 34)).cell? ⟨w6.heap.size, 1, none⟩ = some (.int .i64 x.t) := R7.read 1
        have P7 := Lib.hid (P6.out.below (fresh1 w6 (.cells (cL x).toArray 34)))
        have Q7 := Lib.hid (Q6.out.trans (WB.of (fresh1 w6 (.cells (cL x).toArray 34)) P6.out.le))
        clear R7
        generalize w6.alloc (.cells (cL x).toArray 34) = w7 at k0 k1 P7 Q7 ⊢
        by_cases hf : x.f = a
        · by_cases ht : x.t = b
          · have hp : pL a b x = true := by simp [pL, hf, ht]
            have hs := HXS.out
            rw [hp, if_pos rfl] at hs
            go_wp2_with fail
            go_roundw
            case rel => exact ⟨j + 1, by omega, by go_num, by rw [hs]; rfl, P7, Q7⟩
            case measure => simp [intOf]; omega
          · have hp : pL a b x = false := by simp [pL, ht]
            have hs := HXS.out
            rw [hp, if_neg (by decide)] at hs
            go_wp2_with fail
            go_roundw
            case rel => exact ⟨j + 1, by omega, by go_num, by rw [hs]; go_num, P7, Q7⟩
            case measure => simp [intOf]; omega
        · have hp : pL a b x = false := by simp [pL, hf]
          have hs := HXS.out
          rw [hp, if_neg (by decide)] at hs
          go_wp2_with fail
          go_roundw
          case rel => exact ⟨j + 1, by omega, by go_num, by rw [hs]; go_num, P7, Q7⟩
          case measure => simp [intOf]; omega
      · obtain rfl : j = L.length := by omega
        have h1i : ¬ (L.length : Int) < (L.length : Int) := by omega
        have HCu := Lib.hid (fun (w5 : World) (h : PP w.heap.size w5 gw W) => p_cut (e := cutE W a b) (V := cutV W a b true) h HSe.out.good (by have := HSe.out.c; omega) a b true rfl rfl)
        rw [List.take_length] at hnl ⊢
        by_cases hab : a = b
        · subst hab
          have ee : cutE W a a = 1 := by
            unfold cutE linkB
            simp
          rw [ee] at HCu
          go_wp2_with (first
            | (go_at_call 15; (with_reducible refine (HCu.out _ P5.out).mono ?_); rintro e w6 ⟨rfl, p6, q6⟩; have Q6 := Lib.hid (Q5.out.trans q6); clear p6 q6)
            | (go_at_call 17; (with_reducible refine (HWt.out _ HP.out).mono ?_); rintro e w5 ⟨rfl, p5, q5⟩; have P5 := Lib.hid p5; have Q5 := Lib.hid (HQ.out.trans q5); clear p5 q5))
          go_ret
          exact ⟨rfl, Q6.out.below⟩
        · obtain ⟨ee, hIC⟩ := cut_is HSe.out ham hbm hab
          rw [ee] at HCu
          generalize cutV W a b true = V at HCu hIC
          have IC := Lib.hid hIC
          have hVn : V.n = m := hIC.n.trans HSe.out.n
          have hi : a * 16 + b < 256 := by omega
          have hVL : (V.L.length : Int) = ((notP (pL a b) L).length : Nat) := by rw [hIC.L, ← HLW.out]
          have o1 : outB V a b = true := by
            rw [out_is hVn ham hbm hab, hIC.O, List.getElem?_set_self (by unfold O0; rw [List.length_replicate]; exact hi)]
            rfl
          have o2 : outB V b a = false := by
            rw [out_is hVn hbm ham (fun e => hab e.symm), hIC.O, List.getElem?_set_ne (by omega)]
            exact o0_at _
          have hlk : linkB V a b = true := link_is hVn ham hbm hab
          have hc0 := hIC.good.c0
          have hc1 := hIC.c
          have s1 : sendE V ⟨a, b, []⟩ = 14 := by
            unfold sendE
            rw [if_pos hlk, if_neg (show ¬ 8192 < ([] : Bs).length by decide), if_pos o1]
          have s2 : sendV V ⟨a, b, []⟩ = { V with c := V.c + 1 } := by
            unfold sendV
            rw [if_pos hlk, if_neg (show ¬ 8192 < ([] : Bs).length by decide), if_pos o1]
          obtain ⟨V2, hV2⟩ : ∃ V2, V2 = { V with c := V.c + 1 } := ⟨_, rfl⟩
          have G2 : GoodW V2 := by rw [hV2]; exact good_lost hIC.good (by omega) (by omega)
          have hV2L : V2.L = notP (pL a b) L := by rw [hV2, HLW.out]; exact hIC.L
          have hlk2 : linkB V2 a b = true := link_is (by rw [hV2]; exact hVn) ham hbm hab
          obtain ⟨V3, hV3⟩ : ∃ V3, V3 = cutV V2 a b false := ⟨_, rfl⟩
          have hV3e : V3 = { V2 with O := V2.O.set (a * 16 + b) false } := by
            rw [hV3]
            unfold cutV
            rw [if_pos hlk2, if_neg (by decide), Int.toNat_natCast, Int.toNat_natCast]
          have c3 : cutE V2 a b = 0 := by unfold cutE; rw [if_pos hlk2]
          have G3 : GoodW V3 := by
            rw [hV3e]
            exact ⟨G2.n0, G2.n1, by show (V2.O.set _ _).length = 256; rw [List.length_set]; exact G2.o, G2.l, G2.c0, G2.c1⟩
          have hV3n : V3.n = m := by rw [hV3e, hV2]; exact hVn
          have hV3L : V3.L = notP (pL a b) L := by rw [hV3e]; exact hV2L
          have hV3c : V3.c ≤ 201 := by rw [hV3e, hV2]; show V.c + 1 ≤ 201; omega
          have o3 : outB V3 a b = false := by
            rw [out_is hV3n ham hbm hab, hV3e]
            show ((V2.O.set (a * 16 + b) false)[a * 16 + b]?).getD false = false
            rw [List.getElem?_set_self (by rw [G2.o]; exact hi)]
            rfl
          have s3 : ¬ 96 ≤ (notP (pL a b) L).length → sendE V3 ⟨a, b, []⟩ = 0 := fun h => by
            unfold sendE layE
            rw [if_pos (link_is hV3n ham hbm hab), if_neg (show ¬ 8192 < ([] : Bs).length by decide), if_neg (by rw [o3]; decide), if_neg (by rw [hV3L]; exact h)]
          have HS3 := Lib.hid s3
          have HWV : Hid (∀ w5, PP w.heap.size w5 gw V → Calls Try.prog 17 #[.pointer (some ⟨gw, 0, none⟩)] w5 fun e w' => e = .returned (.int .i64 ((notP (pL a b) L).length : Nat)) ∧ PP w.heap.size w' gw V ∧ QQ w.heap.size w5 w') := Lib.hid fun w5 h => p_waits h hVL
          have HO1 := Lib.hid (fun (w5 : World) (h : PP w.heap.size w5 gw V) => p_out h hIC.good a b o1)
          have HO2 := Lib.hid (fun (w5 : World) (h : PP w.heap.size w5 gw V) => p_out h hIC.good b a o2)
          have HSd : Hid (∀ w5, PP w.heap.size w5 gw V → Calls Try.prog 8 #[.pointer (some ⟨gw, 0, none⟩), .agg #[.int .i64 a, .int .i64 b, sV []]] w5 fun e w' => e = .returned (.int .i64 14) ∧ PP w.heap.size w' gw V2 ∧ QQ w.heap.size w5 w') := Lib.hid fun w5 h => p_send h hIC.good (by omega) ⟨a, b, []⟩ (by simp) s1 (by rw [s2, hV2])
          have HW2 : Hid (∀ w5, PP w.heap.size w5 gw V2 → Calls Try.prog 17 #[.pointer (some ⟨gw, 0, none⟩)] w5 fun e w' => e = .returned (.int .i64 ((notP (pL a b) L).length : Nat)) ∧ PP w.heap.size w' gw V2 ∧ QQ w.heap.size w5 w') := Lib.hid fun w5 h => p_waits h (by rw [hV2L])
          have HA2 := Lib.hid (fun (w5 : World) (h : PP w.heap.size w5 gw V2) (i : Int) => p_at h G2 i)
          have HC2 := Lib.hid (fun (w5 : World) (h : PP w.heap.size w5 gw V2) => p_cut h G2 (by rw [hV2]; show V.c + 1 + 96 ≤ 1000000; omega) a b false c3 hV3.symm)
          have HO3 := Lib.hid (fun (w5 : World) (h : PP w.heap.size w5 gw V3) => p_out h G3 a b o3)
          have HW3 : Hid (∀ w5, PP w.heap.size w5 gw V3 → Calls Try.prog 17 #[.pointer (some ⟨gw, 0, none⟩)] w5 fun e w' => e = .returned (.int .i64 ((notP (pL a b) L).length : Nat)) ∧ PP w.heap.size w' gw V3 ∧ QQ w.heap.size w5 w') := Lib.hid fun w5 h => p_waits h (by rw [hV3L])
          have HSz : Hid (∀ w5, PP w.heap.size w5 gw V3 → Calls Try.prog 8 #[.pointer (some ⟨gw, 0, none⟩), .agg #[.int .i64 a, .int .i64 b, sV []]] w5 fun e w' => e = .returned (.int .i64 (sendE V3 ⟨a, b, []⟩)) ∧ PP w.heap.size w' gw (sendV V3 ⟨a, b, []⟩) ∧ QQ w.heap.size w5 w') := Lib.hid fun w5 h => p_send h G3 (by omega) ⟨a, b, []⟩ (by simp) rfl rfl
          have HV2L := Lib.hid hV2L
          have habi : ((a : Int) == (b : Int)) = false := beq_eq_false_iff_ne.2 (by omega)
          clear ee hIC hVn hVL o1 o2 hlk hc0 hc1 s1 s2 hV2 G2 hV2L hlk2 hV3 hV3e c3 G3 hV3n hV3L hV3c o3 s3 hi HAt
          have hnp : (notP (pL a b) L).length ≤ L.length := List.length_filter_le _ _
          obtain ⟨N, hN⟩ : ∃ N, N = notP (pL a b) L := ⟨_, rfl⟩
          rw [← hN] at HWV HW2 HW3 HV2L HS3 hnp ⊢
          have HNN := Lib.hid hN
          clear hN
          go_wp2_with (first
            | (go_at_call 8; (with_reducible refine (HSd.out _ P9.out).mono ?_); rintro e wt ⟨rfl, p10, q10⟩; have P10 := Lib.hid p10; have Q10 := Lib.hid (Q9.out.trans q10); clear p10 q10)
            | (go_at_call 19; (with_reducible refine (HO2.out _ P8.out).mono ?_); rintro e w9 ⟨rfl, p9, q9⟩; have P9 := Lib.hid p9; have Q9 := Lib.hid (Q8.out.trans q9); clear p9 q9)
            | (go_at_call 19; (with_reducible refine (HO1.out _ P7.out).mono ?_); rintro e w8 ⟨rfl, p8, q8⟩; have P8 := Lib.hid p8; have Q8 := Lib.hid (Q7.out.trans q8); clear p8 q8)
            | (go_at_call 17; (with_reducible refine (HWV.out _ P6.out).mono ?_); rintro e w7 ⟨rfl, p7, q7⟩; have P7 := Lib.hid p7; have Q7 := Lib.hid (Q6.out.trans q7); clear p7 q7)
            | (go_at_call 15; (with_reducible refine (HCu.out _ P5.out).mono ?_); rintro e w6 ⟨rfl, p6, q6⟩; have P6 := Lib.hid p6; have Q6 := Lib.hid (Q5.out.trans q6); clear p6 q6)
            | (go_at_call 17; (with_reducible refine (HWt.out _ HP.out).mono ?_); rintro e w5 ⟨rfl, p5, q5⟩; have P5 := Lib.hid p5; have Q5 := Lib.hid (HQ.out.trans q5); clear p5 q5))
          clear HSd HO2 HO1 HWV HCu HWt
          go_loopw [17, 18, 19] (fun s17 _ _ wr => ∃ (j : Nat), j ≤ N.length ∧ s17 = .int .i64 (j : Int) ∧ Hid (PP w.heap.size wr gw V2) ∧ Hid (QQ w.heap.size w wr)) (fun s17 _ _ _ => N.length - (intOf s17).toNat)
          case atStart => exact ⟨0, Nat.zero_le _, rfl, P10, Q10⟩
          case round =>
            obtain ⟨j, hjn, rfl, HPr, HQr⟩ := hrel
            by_cases h2 : j < N.length
            · have h2i : (j : Int) < (N.length : Int) := by omega
              obtain ⟨x, hx⟩ : ∃ x, x = N[j] := ⟨_, rfl⟩
              have hxp : pL a b x = false := by
                have hm : x ∈ N := by rw [hx]; exact List.getElem_mem h2
                rw [HNN.out] at hm
                have := (List.mem_filter.1 hm).2
                simpa using this
              have ev : atV V2 (j : Int) = x := by
                unfold atV
                rw [if_pos (by omega), Int.toNat_natCast, HV2L.out, List.getElem?_eq_getElem h2, hx]
                rfl
              have ee : atE V2 (j : Int) = 0 := by
                unfold atE
                rw [if_pos ⟨by omega, by rw [HV2L.out]; exact h2i⟩]
              have HA := Lib.hid (fun w5 h => HA2.out w5 h (j : Int))
              rw [ev, ee] at HA
              clear ev ee hx
              go_upto_region 30 with (first
                | (go_at_call 21; (with_reducible refine (HA.out _ P15.out).mono ?_); rintro e w16 ⟨rfl, p16, q16⟩; have P16 := Lib.hid p16; have Q16 := Lib.hid (Q15.out.trans q16); clear p16 q16)
                | (go_at_call 17; (with_reducible refine (HW2.out _ HPr.out).mono ?_); rintro e w15 ⟨rfl, p15, q15⟩; have P15 := Lib.hid p15; have Q15 := Lib.hid (HQr.out.trans q15); clear p15 q15))
              change Code.wp _ _ _ _ (w16.alloc (.cells (cL x).toArray 34))
              have R7 := Whole.fresh w16 34 (cL x).toArray
              have k0 : (w16.alloc (.cells (cL x).toArray 34)).cell? ⟨w16.heap.size, 0, none⟩ = some (.int .i64 x.f) := R7.read 0
              have k1 : (w16.alloc (.cells (cL x).toArray 34)).cell? ⟨w16.heap.size, 1, none⟩ = some (.int .i64 x.t) := R7.read 1
              have P17 := Lib.hid (P16.out.below (fresh1 w16 (.cells (cL x).toArray 34)))
              have Q17 := Lib.hid (Q16.out.trans (WB.of (fresh1 w16 (.cells (cL x).toArray 34)) P16.out.le))
              clear R7
              generalize w16.alloc (.cells (cL x).toArray 34) = w17 at k0 k1 P17 Q17 ⊢
              by_cases hf : x.f = a
              · have ht : ¬ x.t = b := fun e => by simp [pL, hf, e] at hxp
                go_wp2_with fail
                go_roundw
                case rel => exact ⟨j + 1, by omega, by go_num, P17, Q17⟩
                case measure => simp [intOf]; omega
              · go_wp2_with fail
                go_roundw
                case rel => exact ⟨j + 1, by omega, by go_num, P17, Q17⟩
                case measure => simp [intOf]; omega
            · obtain rfl : j = N.length := by omega
              have h2i : ¬ (N.length : Int) < (N.length : Int) := by omega
              by_cases h96 : 96 ≤ N.length
              · have h96i : (96 : Int) ≤ (N.length : Int) := by omega
                go_wp2_with (first
                  | (go_at_call 17; (with_reducible refine (HW3.out _ P17.out).mono ?_); rintro e w18 ⟨rfl, p18, q18⟩; have P18 := Lib.hid p18; have Q18 := Lib.hid (Q17.out.trans q18); clear p18 q18)
                  | (go_at_call 19; (with_reducible refine (HO3.out _ P16.out).mono ?_); rintro e w17 ⟨rfl, p17, q17⟩; have P17 := Lib.hid p17; have Q17 := Lib.hid (Q16.out.trans q17); clear p17 q17)
                  | (go_at_call 15; (with_reducible refine (HC2.out _ P15.out).mono ?_); rintro e w16 ⟨rfl, p16, q16⟩; have P16 := Lib.hid p16; have Q16 := Lib.hid (Q15.out.trans q16); clear p16 q16)
                  | (go_at_call 17; (with_reducible refine (HW2.out _ HPr.out).mono ?_); rintro e w15 ⟨rfl, p15, q15⟩; have P15 := Lib.hid p15; have Q15 := Lib.hid (HQr.out.trans q15); clear p15 q15))
                go_ret
                exact ⟨rfl, Q18.out.below⟩
              · have h96i : ¬ (96 : Int) ≤ (N.length : Int) := by omega
                have e3 := HS3.out h96
                rw [e3] at HSz
                go_wp2_with (first
                  | (go_at_call 8; (with_reducible refine (HSz.out _ P18.out).mono ?_); rintro e w19 ⟨rfl, p19, q19⟩; have Q19 := Lib.hid (Q18.out.trans q19); clear p19 q19)
                  | (go_at_call 17; (with_reducible refine (HW3.out _ P17.out).mono ?_); rintro e w18 ⟨rfl, p18, q18⟩; have P18 := Lib.hid p18; have Q18 := Lib.hid (Q17.out.trans q18); clear p18 q18)
                  | (go_at_call 19; (with_reducible refine (HO3.out _ P16.out).mono ?_); rintro e w17 ⟨rfl, p17, q17⟩; have P17 := Lib.hid p17; have Q17 := Lib.hid (Q16.out.trans q17); clear p17 q17)
                  | (go_at_call 15; (with_reducible refine (HC2.out _ P15.out).mono ?_); rintro e w16 ⟨rfl, p16, q16⟩; have P16 := Lib.hid p16; have Q16 := Lib.hid (Q15.out.trans q16); clear p16 q16)
                  | (go_at_call 17; (with_reducible refine (HW2.out _ HPr.out).mono ?_); rintro e w15 ⟨rfl, p15, q15⟩; have P15 := Lib.hid p15; have Q15 := Lib.hid (HQr.out.trans q15); clear p15 q15))
                go_ret
                exact ⟨rfl, Q19.out.below⟩
end
end Go.Proofs.Ytfpmcomigolacaa.wan
