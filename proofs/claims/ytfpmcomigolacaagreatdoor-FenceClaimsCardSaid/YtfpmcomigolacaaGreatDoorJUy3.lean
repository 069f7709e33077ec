/-
  The walk of WalLasts.
  The walk of FenceRises.
-/
import Derived.Test.YtfpmcomigolacaaGreatDoorJUy1
import Derived.Test.YtfpmcomigolacaaGreatDoorJFv1
set_option linter.unusedSimpArgs false
set_option linter.unusedVariables false
namespace Go.Proofs.YtfpmcomigolacaaGreatDoor.wal
open Go.ChangeShapes Go.WideShapes Go.ChangeAt Go.RowKit Go.Maps Go.WideMaps
open Go.Proofs.YtfpmcomigolacaaGreatDoor.opened Go.Proofs.YtfpmcomigolacaaGreatDoor.block Go.Proofs.YtfpmcomigolacaaGreatDoor.words Go.Proofs.YtfpmcomigolacaaGreatDoor.disk Go.Proofs.YtfpmcomigolacaaGreatDoor.tailed Go.Proofs.YtfpmcomigolacaaGreatDoor.enc Go.Proofs.YtfpmcomigolacaaGreatDoor.code
theorem per_of8 (per : Int) : ∃ P : Nat, 1 ≤ P ∧ P ≤ 8 ∧ wrap64 (1 + wrap64 ((IntKind.u64.wrap per).tmod 8)) = (P : Int) := by
  have h0 : 0 ≤ IntKind.u64.wrap per := by
    show 0 ≤ per % 18446744073709551616
    omega
  have h1 : (IntKind.u64.wrap per).tmod 8 = IntKind.u64.wrap per % 8 := Int.tmod_eq_emod_of_nonneg h0
  rw [h1]
  generalize IntKind.u64.wrap per = x at h0
  refine ⟨(1 + x % 8).toNat, by omega, by omega, ?_⟩
  rw [IntWalk.wrap64_in (x % 8) (by omega), IntWalk.wrap64_in _ (by omega)]
  omega
theorem infoOw : (Tryz.prog.info? 33).map (·.size) = some 5 := by kernel_rfl
abbrev cOw (o : Ow) : Array Value := #[.int .i64 o.k, sV o.s, .int .i64 o.m, sV o.n, .slice o.K o.keep.length o.kc]
/-- Of a log that was opened anew, against the one that there was. -/
theorem anew_get {L M : Lg} {D D' : Dk} {fs gs : List Fi} {X : Int × Lg × Dk} (h : Anew L D D' fs gs X) (hM : M = X.2.1) {i : Int} (h0 : baseN M ≤ i) (h1 : i < nextN M) : gtE M i = 0 ∧ gtE L i = 0 ∧ gtV L i = gtV M i := by
  subst hM
  have hne : X.2.1.heads ≠ [] := fun e => by
    have hb := h.run.bare e
    have hbase : baseN X.2.1 = 0 := by unfold baseN; rw [e]; rfl
    unfold nextN at h1
    rw [hb, hbase] at h1
    rw [hbase] at h0
    have : i < 0 := h1
    omega
  have hb := h.base hne
  obtain ⟨t, ht⟩ := h.pre
  have hup := h.upto
  have e1 : ¬ (i < baseN X.2.1 ∨ nextN X.2.1 ≤ i) := by omega
  have e2 : ¬ (i < baseN L ∨ nextN L ≤ i) := by omega
  unfold gtE gtV
  rw [if_neg e1, if_neg e1, if_neg e2, if_neg e2]
  refine ⟨rfl, rfl, ?_⟩
  rw [hb, ht, List.getElem?_append_left]
  unfold nextN at h1
  omega
section
variable {w : World}
set_option maxRecDepth 100000 in
set_option maxHeartbeats 8000000 in
theorem walkLasts (per : Int) (A : Option Addr) (c : Nat) (l : List Ow) (K : Option Addr) (kc : Nat) (keep : List Int) (hl : l.length ≤ 4611686018427387903) (hw : Env w) (hL : Actw w A l) (hki : ∀ x ∈ keep, IntIn x) (hkl : keep.length ≤ 140737488351232) (hK : Lies w K (keep.map (Value.int .i64))) :
    Calls Tryz.prog 3 #[.int .i64 per, .slice A l.length c, .slice K keep.length kc] w fun e w' => e = .returned (.bool true) ∧ Below w.heap.size w w' := by
  have HW := Lib.hid (works_any hw)
  have HE := Lib.hid (EnvB.start hw)
  obtain ⟨P, P1, P8, hP⟩ := per_of8 per
  have HL := Lib.hid hL
  have HKL := Lib.hid hK
  have HKI := Lib.hid hki
  clear hL hw hK hki
  go_enter Tryz.func3, Tryz.ntmps3
  go_upto_region 3 with (go_at_call 7; refine HW.out.mono ?_; rintro e w1 ⟨rfl, b1⟩; have B1 := Lib.hid b1; clear b1)
  by_cases hk100 : 100 < keep.length
  · have hk100i : (100 : Int) < (keep.length : Int) := by omega
    go_wp2_with fail
    go_ret
    exact ⟨rfl, B1.out⟩
  have hk100i : ¬ (100 : Int) < (keep.length : Int) := by omega
  go_upto_region 6 with fail
  rw [hP]
  clear hP hk100i
  generalize wrap64 ((IntKind.u64.wrap per).tmod 8) = g1
  generalize (IntKind.u64.wrap per).tmod 8 = g2
  generalize IntKind.u64.wrap per = g3
  have hpP : (1 : Int) ≤ (P : Int) ∧ (P : Int) ≤ 64 := by omega
  have HOp := Lib.hid (opn_new (nm := [113]) (per := (P : Int)) (by decide) (by decide) (by decide) hpP)
  have HK0 : Hid (Kp [113] (P : Int) 0 (lg0 [113] (P : Int))) := Lib.hid (kp_new _ (by decide))
  have HI0 : Hid (∃ fs, Inv (lg0 [113] (P : Int)) K0 fs) := Lib.hid ⟨_, inv_new [113] (P : Int)⟩
  have HN := Lib.hid (Go.Proofs.YtfpmcomigolacaaGreatDoor.disk.newB w1 w.heap.size B1.out.size)
  go_upto_region 7 with (go_at_call 8; refine HN.out.mono ?_; rintro e w2 ⟨rfl, d2, b2⟩; have DK2 := Lib.hid d2; have B2 := Lib.hid (B1.out.trans b2); clear d2 b2)
  generalize w1.heap.size + 1 = gd at *
  have HO1 := Lib.hid (open_st DK2.out (HE.out.step B2.out) good_new (Nat.zero_le _) [113] (by decide) (P : Int) HOp.out rfl HK0.out.good good_new)
  go_upto_region 8 with (go_at_call 9; refine HO1.out.mono ?_; rintro e w3 ⟨ga, rfl, s3, -, b3⟩; have S3 : Hid (St w.heap.size gd ga (lg0 [113] (P : Int)) K0 w3) := Lib.hid s3; have B3 := Lib.hid (B2.out.trans b3); clear s3 b3)
  clear HO1 HN HW B1 B2 DK2 HOp
  have HZ0 : Hid (Sz 0 K0) := Lib.hid sz_new
  generalize lg0 [113] (P : Int) = L0 at *
  generalize K0 = D0 at *
  go_upto_block 0 with fail
  go_cut [10, 11] from 44 to 83 (fun _ _ wx => ∃ (L : Lg) (D : Dk), Hid (Kp [113] (P : Int) 60 L) ∧ Hid (Sz 60 D) ∧ Hid (∃ fs, Inv L D fs) ∧ Hid (St w.heap.size gd ga L D wx) ∧ Hid (Below w.heap.size w wx))
  case first =>
    go_wp2_with fail
    go_loopw [10, 11] (fun i _ wr => ∃ (j : Nat) (L : Lg) (D : Dk), j ≤ l.length ∧ j ≤ 60 ∧ i = .int .i64 (j : Int) ∧ Hid (Kp [113] (P : Int) j L) ∧ Hid (Sz j D) ∧ Hid (∃ fs, Inv L D fs) ∧ Hid (St w.heap.size gd ga L D wr) ∧ Hid (Below w.heap.size w wr)) (fun i _ _ => l.length - (intOf i).toNat)
    case atStart => exact ⟨0, L0, D0, Nat.zero_le _, Nat.zero_le _, rfl, HK0, HZ0, HI0, S3, B3⟩
    case round =>
      obtain ⟨j, L, D, hjl, hj1, rfl, HKp, HSz, HInv, HS, HB⟩ := hrel
      clear HK0 HZ0 HI0 S3 B3
      by_cases h1 : j < l.length
      · by_cases h2 : j < 60
        · obtain ⟨o, ho⟩ : ∃ o, l[j]? = some o := ⟨_, List.getElem?_eq_getElem h1⟩
          have HLr := HL.out.below (HB.out : Below w.heap.size w wr)
          obtain ⟨b, off, hA, hb, c0, c1, c2, c3, c4⟩ := HLr.at ho
          obtain ⟨oi, -⟩ := HLr.keep ho
          subst hA
          have h1i : (j : Int) < (l.length : Int) := by omega
          have h2i : (j : Int) < 60 := by omega
          have HG := Lib.hid (fun W => greatw_any o oi W)
          have HNO := Lib.hid (greatw_no (o := o))
          have HIm := Lib.hid oi.m
          have hz := HB.out.size
          have B2 := Lib.hid (HB.out.alloc hz (.cells (cOw o) 33))
          have S2 := Lib.hid (HS.out.below (fresh1' wr (.cells (cOw o) 33)))
          have OZ := Lib.hid (Whole.fresh wr 33 (cOw o))
          clear HLr ho oi HS hz
          go_upto_region 14 with fail
          change Code.wp _ _ _ _ (wr.alloc (.cells (cOw o) 33))
          generalize wr.alloc (.cells (cOw o) 33) = W2 at B2 S2 OZ ⊢
          generalize wr.heap.size = gz at OZ ⊢
          clear c0 c1 c2 c3 c4 hb HB
          cases hgr : greatwB o with
          | true =>
            rw [hgr] at HG
            clear hgr HNO
            go_wp2_with (first | (refine get rfl 33 (.tmp 11) rfl rfl OZ.out Tryz.underlying33 rfl infoOw ?_) | (go_at_call 10; refine (HG.out _).mono ?_; rintro e w3 ⟨rfl, b3⟩; have B3 := Lib.hid (B2.out.trans (b3.mono B2.out.size)); clear b3))
            go_ret
            exact ⟨rfl, B3.out⟩
          | false =>
            rw [hgr] at HG
            obtain ⟨os, on, -⟩ := HNO.out hgr
            clear hgr HNO
            go_upto_region 16 with (first | (refine get rfl 33 (.tmp 11) rfl rfl OZ.out Tryz.underlying33 rfl infoOw ?_) | (go_at_call 10; refine (HG.out _).mono ?_; rintro e w3 ⟨rfl, b3⟩; have B3 := Lib.hid (B2.out.trans (b3.mono B2.out.size)); have S3 := Lib.hid (S2.out.below b3); have OZ3 := Lib.hid (OZ.out.below b3 OZ.out.inside); clear b3))
            have z0 : w3.cell? ⟨gz, 0, none⟩ = some (.int .i64 o.k) := OZ3.out.read 0
            have y0 : w3.frozen? ⟨gz, 0, none⟩ = false := OZ3.out.soft 0
            have z1 : w3.cell? ⟨gz, 1, none⟩ = some (sV o.s) := OZ3.out.read 1
            have y1 : w3.frozen? ⟨gz, 1, none⟩ = false := OZ3.out.soft 1
            have z2 : w3.cell? ⟨gz, 2, none⟩ = some (.int .i64 o.m) := OZ3.out.read 2
            have y2 : w3.frozen? ⟨gz, 2, none⟩ = false := OZ3.out.soft 2
            clear HG B2 S2 OZ OZ3 on
            have hnx : nextN L ≤ 60 := by have := HKp.out.next; omega
            have hrl : L.recs.length ≤ 60 := by have := HKp.out.recs; omega
            have hlen : D.F.length ≤ 120 := by have := HSz.out.len; omega
            have hper : L.per = (P : Int) := HKp.out.per
            by_cases q0 : o.k = 0
            · rw [q0] at z0
              clear q0
              have HAp := Lib.hid (st_append S3.out (by rw [hper]; omega) (by omega) (by omega) (by omega) o.s (by omega) (HKp.out.app D o.s).good (ap_sz HSz.out o.s).gd)
              have K2 : Hid (Kp [113] (P : Int) (j + 1) (apL L D o.s)) := Lib.hid (HKp.out.app D o.s)
              have Z2 : Hid (Sz (j + 1) (apD L D o.s)) := Lib.hid (ap_sz HSz.out o.s)
              have I2 : Hid (∃ fs, Inv (apL L D o.s) (apD L D o.s) fs) := Lib.hid (by
                obtain ⟨fs, hi⟩ := HInv.out
                exact hi.app HKp.out.good HSz.out.gd HKp.out.bare o.s)
              clear HKp HSz HInv S3 hnx hrl hlen hper os
              generalize apN L D o.s = an at HAp
              generalize apE L D o.s = ae at HAp
              generalize apL L D o.s = L' at HAp K2 I2
              generalize apD L D o.s = D' at HAp Z2 I2
              generalize o.s = s at z1 HAp
              go_wp2_with (go_at_call 11; refine HAp.out.mono ?_; rintro e w4 ⟨rfl, s4, b4⟩; have S4 := Lib.hid s4; have B4 := Lib.hid (B3.out.trans b4); clear s4 b4)
              go_roundw
              case rel => exact ⟨j + 1, L', D', by omega, by omega, by go_num, K2, Z2, I2, S4, B4⟩
              case measure => simp [intOf]; omega
            · have p0 : (o.k == 0) = false := by simpa using q0
              by_cases q1 : o.k = 1
              · rw [q1] at z0
                clear q0 q1 p0
                have HAp := Lib.hid (st_sync S3.out (by omega) (by omega))
                have K2 : Hid (Kp [113] (P : Int) (j + 1) (syL L D)) := Lib.hid ((HKp.out.sync D).more (Nat.le_succ _))
                have Z2 : Hid (Sz (j + 1) (syD L D)) := Lib.hid (sy_sz HSz.out)
                have I2 : Hid (∃ fs, Inv (syL L D) (syD L D) fs) := Lib.hid (by
                  obtain ⟨fs, hi⟩ := HInv.out
                  exact ⟨fs, (hi.sync HKp.out.good HSz.out.gd).1⟩)
                clear HKp HSz HInv S3 hnx hrl hlen hper os
                generalize syE L D = ae at HAp
                generalize syL L D = L' at HAp K2 I2
                generalize syD L D = D' at HAp Z2 I2
                go_wp2_with (go_at_call 12; refine HAp.out.mono ?_; rintro e w4 ⟨rfl, s4, b4⟩; have S4 := Lib.hid s4; have B4 := Lib.hid (B3.out.trans b4); clear s4 b4)
                go_roundw
                case rel => exact ⟨j + 1, L', D', by omega, by omega, by go_num, K2, Z2, I2, S4, B4⟩
                case measure => simp [intOf]; omega
              · have p1 : (o.k == 1) = false := by simpa using q1
                by_cases q2 : o.k = 2
                · rw [q2] at z0
                  clear q0 q1 q2 p0 p1
                  have HAp := Lib.hid (st_drop S3.out (by omega) (by omega) o.m (HKp.out.drop HSz.out.gd o.m).good (dr_sz HKp.out HSz.out o.m).gd)
                  have K2 : Hid (Kp [113] (P : Int) (j + 1) (drV L D o.m).2.1) := Lib.hid ((HKp.out.drop HSz.out.gd o.m).more (Nat.le_succ _))
                  have Z2 : Hid (Sz (j + 1) (drV L D o.m).2.2) := Lib.hid (dr_sz HKp.out HSz.out o.m)
                  have I2 : Hid (∃ fs, Inv (drV L D o.m).2.1 (drV L D o.m).2.2 fs) := Lib.hid (by
                    obtain ⟨fs, hi⟩ := HInv.out
                    exact hi.drop HKp.out.good HSz.out.gd o.m)
                  clear HKp HSz HInv S3 hnx hrl hlen hper os
                  generalize (drV L D o.m).1 = ae at HAp
                  generalize (drV L D o.m).2.1 = L' at HAp K2 I2
                  generalize (drV L D o.m).2.2 = D' at HAp Z2 I2
                  generalize o.m = m at z2 HAp
                  go_wp2_with (go_at_call 13; refine HAp.out.mono ?_; rintro e w4 ⟨rfl, s4, b4⟩; have S4 := Lib.hid s4; have B4 := Lib.hid (B3.out.trans b4); clear s4 b4)
                  go_roundw
                  case rel => exact ⟨j + 1, L', D', by omega, by omega, by go_num, K2, Z2, I2, S4, B4⟩
                  case measure => simp [intOf]; omega
                · have p2 : (o.k == 2) = false := by simpa using q2
                  by_cases q3 : o.k = 3
                  · rw [q3] at z0
                    clear q0 q1 q2 q3 p0 p1 p2
                    have hm0 := HIm.out.1
                    have hm1 := HIm.out.2
                    have HAp := Lib.hid (st_arm S3.out o.m hm0 hm1)
                    have K2 : Hid (Kp [113] (P : Int) (j + 1) L) := Lib.hid (HKp.out.more (Nat.le_succ _))
                    have Z2 : Hid (Sz (j + 1) (armV D o.m)) := Lib.hid ((arm_sz HSz.out hm0 hm1).more (Nat.le_succ _))
                    have I2 : Hid (∃ fs, Inv L (armV D o.m) fs) := Lib.hid (by
                      obtain ⟨fs, hi⟩ := HInv.out
                      exact ⟨fs, hi.disk HKp.out.good fun _ _ _ => rfl⟩)
                    clear HKp HSz HInv S3 hnx hrl hlen hper os hm0 hm1 HIm
                    generalize armV D o.m = D' at HAp Z2 I2
                    generalize o.m = m at z2 HAp
                    go_wp2_with (go_at_call 14; refine HAp.out.mono ?_; rintro e w4 ⟨rfl, s4, b4⟩; have S4 := Lib.hid s4; have B4 := Lib.hid (B3.out.trans b4); clear s4 b4)
                    go_roundw
                    case rel => exact ⟨j + 1, L, D', by omega, by omega, by go_num, K2, Z2, I2, S4, B4⟩
                    case measure => simp [intOf]; omega
                  · have p3 : (o.k == 3) = false := by simpa using q3
                    have K2 : Hid (Kp [113] (P : Int) (j + 1) L) := Lib.hid (HKp.out.more (Nat.le_succ _))
                    have Z2 : Hid (Sz (j + 1) D) := Lib.hid (HSz.out.more (Nat.le_succ _))
                    clear q0 q1 q2 q3 HKp HSz hnx hrl hlen hper os HIm
                    go_wp2_with fail
                    go_roundw
                    case rel => exact ⟨j + 1, L, D, by omega, by omega, by go_num, K2, Z2, HInv, S3, B3⟩
                    case measure => simp [intOf]; omega
        · have h2i : ¬ (j : Int) < 60 := by omega
          have h1i : (j : Int) < (l.length : Int) := by omega
          have hj : j = 60 := by omega
          subst hj
          go_wp2_with fail
          go_meet
          case rel => exact ⟨L, D, HKp, HSz, HInv, HS, HB⟩
      · have h1i : ¬ (j : Int) < (l.length : Int) := by omega
        have K2 : Hid (Kp [113] (P : Int) 60 L) := Lib.hid (HKp.out.more hj1)
        have Z2 : Hid (Sz 60 D) := Lib.hid (HSz.out.more hj1)
        go_wp2_with fail
        go_meet
        case rel => exact ⟨L, D, K2, Z2, HInv, HS, HB⟩
  case rest =>
    obtain ⟨L, D, HKp, HSz, HInv, HS, HB⟩ := hcut
    clear HK0 HZ0 HI0 S3 B3 HL
    have HLo := Lib.hid HS.out.lat
    have HKw := Lib.hid (lies_below HKL.out HB.out)
    obtain ⟨A', c', w4, hap, hl4, hn4, b4⟩ := own_ints wc K kc keep (by omega) HKw.out 23
    have hnx := HKp.out.next
    have hlen : D.F.length ≤ 120 := by have := HSz.out.len; omega
    have HM := Lib.hid (mendN HSz.out.gd (by omega) A' c' keep (fun x hx => (HKI.out x hx).2) (by omega) HS.out.le HS.out.disk b4 hl4 hn4)
    obtain ⟨fs, hinv⟩ := HInv.out
    have HX := anew hinv HKp.out.good (by omega) (cut_mend HSz.out.gd keep) (good_mend HSz.out.gd keep) (by rw [HKp.out.nm]; decide) (by rw [HKp.out.nm]; decide) (by rw [HKp.out.per]; omega)
    rw [HKp.out.nm, HKp.out.per] at HX
    obtain ⟨gs, X, hX, hA⟩ := HX
    have HAn := Lib.hid hA
    have HOX := Lib.hid hX
    have hsz := mend_sz HSz.out keep
    have HDsz := Lib.hid hsz
    have hFm : (mendV D keep).F.length ≤ 120 := by have := hsz.len; omega
    have HG := Lib.hid HKp.out.good
    clear hl4 hn4 HKw HKL HKI hinv HInv hX hA hsz
    have HSw := Lib.hid HS.out
    go_upto_region 26 with (first | (at_builtin; refine wpList_append_run rfl _ _ 23 23 rfl rfl rfl hap ?_) | (go_at_call 15; refine HM.out.mono ?_; rintro e w5 ⟨rfl, d5, t5, b5⟩; have DK5 := Lib.hid d5; have LA5 := Lib.hid (HLo.out.wt t5); have B5 := Lib.hid (HB.out.trans b5); clear d5 t5 b5))
    clear hap b4 HM HLo HS HSw
    have HO := Lib.hid (open_st DK5.out (HE.out.step B5.out) HDsz.out.gd (by omega) [113] (by decide) (P : Int) HOX.out HAn.out.ok HAn.out.run.good HAn.out.run.gd)
    go_upto_region 27 with (go_at_call 9; refine HO.out.mono ?_; rintro e w6 ⟨gb, rfl, s6, t6, b6⟩; have S6 := Lib.hid s6; have LA6 := Lib.hid (LA5.out.wt t6); have B6 := Lib.hid (B5.out.trans b6); clear s6 t6 b6)
    clear HO DK5 LA5 B5 HOX
    have hlasts := HAn.out.lasts
    have hupto := HAn.out.upto
    have hbase := HAn.out.base
    have hrg := HAn.out.run.good
    have hb0 := hrg.base
    have hbn := base_le hrg
    have HNb : Hid (∀ w1, Lat w1 gb gd X.2.1 → Calls Tryz.prog 16 #[.pointer (some ⟨gb, 0, none⟩)] w1 fun e w' => e = .returned (.int .i64 (nextN X.2.1)) ∧ Below w1.heap.size w1 w') := Lib.hid fun w1 h => lat_next h hrg (by omega)
    have HNa : Hid (∀ w1, Lat w1 ga gd L → Calls Tryz.prog 16 #[.pointer (some ⟨ga, 0, none⟩)] w1 fun e w' => e = .returned (.int .i64 (nextN L)) ∧ Below w1.heap.size w1 w') := Lib.hid fun w1 h => lat_next h HG.out (by omega)
    have HSa : Hid (∀ w1, Lat w1 ga gd L → Calls Tryz.prog 17 #[.pointer (some ⟨ga, 0, none⟩)] w1 fun e w' => e = .returned (.int .i64 L.syn) ∧ Below w1.heap.size w1 w') := Lib.hid fun w1 h => lat_synced h
    have HFb : Hid (∀ w1, Lat w1 gb gd X.2.1 → Calls Tryz.prog 18 #[.pointer (some ⟨gb, 0, none⟩)] w1 fun e w' => e = .returned (.int .i64 (X.2.1.heads.length : Int)) ∧ Below w1.heap.size w1 w') := Lib.hid fun w1 h => lat_files h
    have HBb : Hid (∀ w1, Lat w1 gb gd X.2.1 → Calls Tryz.prog 19 #[.pointer (some ⟨gb, 0, none⟩)] w1 fun e w' => e = .returned (.int .i64 (baseN X.2.1)) ∧ Below w1.heap.size w1 w') := Lib.hid fun w1 h => lat_base h
    have HBa : Hid (∀ w1, Lat w1 ga gd L → Calls Tryz.prog 19 #[.pointer (some ⟨ga, 0, none⟩)] w1 fun e w' => e = .returned (.int .i64 (baseN L)) ∧ Below w1.heap.size w1 w') := Lib.hid fun w1 h => lat_base h
    have HGb : Hid (∀ w1 i, Lat w1 gb gd X.2.1 → baseN X.2.1 ≤ i → i < nextN X.2.1 → Calls Tryz.prog 20 #[.pointer (some ⟨gb, 0, none⟩), .int .i64 i] w1 fun e w' => e = .returned (.tuple #[sV (gtV X.2.1 i), .int .i64 0]) ∧ Below w1.heap.size w1 w') := Lib.hid fun w1 i h i0 i1 => by
      have := lat_get h hrg (by omega) i (by omega) (by omega)
      rwa [(anew_get HAn.out rfl i0 i1).1] at this
    have HGa : Hid (∀ w1 i, Lat w1 ga gd L → baseN X.2.1 ≤ i → i < nextN X.2.1 → Calls Tryz.prog 20 #[.pointer (some ⟨ga, 0, none⟩), .int .i64 i] w1 fun e w' => e = .returned (.tuple #[sV (gtV X.2.1 i), .int .i64 0]) ∧ Below w1.heap.size w1 w') := Lib.hid fun w1 i h i0 i1 => by
      have := lat_get h HG.out (by omega) i (by omega) (by omega)
      obtain ⟨-, e2, e3⟩ := anew_get HAn.out rfl i0 i1
      rwa [e2, e3] at this
    have hu : used X.2.2.F ≤ 248040 := by
      have h1 := HAn.out.used
      have h2 := HDsz.out.used
      omega
    have hnf : nextF X.2.1 ≤ 61 := by
      have h1 := HAn.out.next
      have h2 := HKp.out.files
      omega
    have hF6 : X.2.2.F.length ≤ 121 := by
      have := HAn.out.files
      omega
    have hper : X.2.1.per = (P : Int) := HAn.out.per.trans HKp.out.per
    have hrun := HAn.out.run
    have hmore := hrun.app (s := [109, 111, 114, 101]) (by decide) (by omega) (by show used X.2.2.F + (4 + 38) ≤ 262144; omega)
    have hrl : X.2.1.recs.length ≤ 60 := by
      unfold nextN at hupto hnx
      have : nextN X.2.1 ≤ 60 := by unfold nextN; omega
      unfold nextN at this
      omega
    obtain ⟨m1, m2, m3, m4, m5, m6, m7, m8, m9, -⟩ := hmore
    obtain ⟨x1, x2, x3, x4⟩ := ap_next (D := X.2.2) hrun.bare [109, 111, 114, 101]
    rw [m1, if_pos rfl] at x2
    have HAp := Lib.hid (fun w1 (h : St w.heap.size gd gb X.2.1 X.2.2 w1) => st_append h (by rw [hper]; omega) (by omega) (by omega) (by omega) [109, 111, 114, 101] (by decide) m2.good m2.gd)
    have hapn : apN X.2.1 X.2.2 [109, 111, 114, 101] = nextN X.2.1 := by unfold apN; rw [m1, if_pos rfl]
    rw [m1, hapn] at HAp
    have hgl : gtE (apL X.2.1 X.2.2 [109, 111, 114, 101]) (nextN X.2.1) = 0 ∧ gtV (apL X.2.1 X.2.2 [109, 111, 114, 101]) (nextN X.2.1) = [109, 111, 114, 101] := by
      have e1 : ¬ (nextN X.2.1 < baseN (apL X.2.1 X.2.2 [109, 111, 114, 101]) ∨ nextN (apL X.2.1 X.2.2 [109, 111, 114, 101]) ≤ nextN X.2.1) := by rw [x1, x2]; omega
      unfold gtE gtV
      rw [if_neg e1, if_neg e1, x1, m5]
      refine ⟨rfl, ?_⟩
      have e2 : (nextN X.2.1 - baseN X.2.1).toNat = X.2.1.recs.length := by unfold nextN; omega
      rw [e2, List.getElem?_append_right (Nat.le_refl _)]
      simp
    have HGl : Hid (∀ w1, St w.heap.size gd gb (apL X.2.1 X.2.2 [109, 111, 114, 101]) (apD X.2.1 X.2.2 [109, 111, 114, 101]) w1 → Calls Tryz.prog 20 #[.pointer (some ⟨gb, 0, none⟩), .int .i64 (nextN X.2.1)] w1 fun e w' => e = .returned (.tuple #[sV [109, 111, 114, 101], .int .i64 0]) ∧ Below w1.heap.size w1 w') := Lib.hid fun w1 h => by
      have := st_get h (by rw [x2]; omega) (nextN X.2.1) (by omega) (by omega)
      rwa [hgl.1, hgl.2] at this
    have HNl : Hid (∀ w1, St w.heap.size gd gb (apL X.2.1 X.2.2 [109, 111, 114, 101]) (apD X.2.1 X.2.2 [109, 111, 114, 101]) w1 → Calls Tryz.prog 16 #[.pointer (some ⟨gb, 0, none⟩)] w1 fun e w' => e = .returned (.int .i64 (nextN X.2.1 + 1)) ∧ Below w1.heap.size w1 w') := Lib.hid fun w1 h => by
      have := st_next h (by rw [x2]; omega)
      rwa [x2] at this
    clear m1 m2 m3 m4 m5 m6 m7 m8 m9 x1 x2 x3 x4 hapn hgl hrun hu hnf hF6 hper hrl hrg HAn HDsz HKp HSz HG hlen hFm
    have hzb : X.2.1.heads.length = 0 ∨ (0 < X.2.1.heads.length ∧ baseN X.2.1 = baseN L) := by
      cases e : X.2.1.heads with
      | nil => exact .inl rfl
      | cons a r => exact .inr ⟨by simp, hbase (by rw [e]; simp)⟩
    clear hbase
    generalize apL X.2.1 X.2.2 [109, 111, 114, 101] = M2 at HAp HGl HNl
    generalize apD X.2.1 X.2.2 [109, 111, 114, 101] = D2 at HAp HGl HNl
    generalize X.2.2 = D1 at *
    have HGV : ∃ gv : Int → Bs, gv = gtV X.2.1 := ⟨_, rfl⟩
    obtain ⟨gv, hgv⟩ := HGV
    rw [← hgv] at HGa HGb
    clear hgv
    generalize X.2.1 = M at *
    generalize M.heads.length = fl at *
    have S6' := S6
    generalize baseN M = bb at *
    generalize nextN M = nb at *
    generalize baseN L = ba at *
    generalize nextN L = na at *
    generalize L.syn = sy at *
    have LB6 := Lib.hid S6.out.lat
    clear S6'
    have hn1 : ¬ nb < sy := by omega
    have hn2 : ¬ na < nb := by omega
    have CNb : ∀ w1, Hid (Lat w1 gb gd M) → Calls Tryz.prog 16 #[.pointer (some ⟨gb, 0, none⟩)] w1 fun e w' => e = .returned (.int .i64 nb) ∧ Below w1.heap.size w1 w' := fun w1 h => HNb.out w1 h.out
    clear CNb
    have step : ∀ {w1 w2 : World}, Lat w1 gb gd M ∧ Lat w1 ga gd L ∧ St w.heap.size gd gb M D1 w1 ∧ Below w.heap.size w w1 → Below w1.heap.size w1 w2 → Lat w2 gb gd M ∧ Lat w2 ga gd L ∧ St w.heap.size gd gb M D1 w2 ∧ Below w.heap.size w w2 := fun ⟨h1, h2, h3, h4⟩ hb => ⟨h1.below hb, h2.below hb, h3.below hb, then_below h4 hb⟩
    have ALL := Lib.hid (show Lat w6 gb gd M ∧ Lat w6 ga gd L ∧ St w.heap.size gd gb M D1 w6 ∧ Below w.heap.size w w6 from ⟨LB6.out, LA6.out, S6.out, B6.out⟩)
    clear LB6 LA6 S6 B6 hlasts hupto
    have hflz : ((0 : Int) < (fl : Int)) ∧ bb = ba ∨ ¬ (0 : Int) < (fl : Int) := by
      rcases hzb with h | ⟨h1, h2⟩
      · right; omega
      · left; exact ⟨by omega, h2⟩
    clear hzb
    have hib : -9223372036854775808 ≤ bb ∧ bb ≤ 9223372036854775807 ∧ nb ≤ 60 := by omega
    rcases hflz with ⟨hz, hbe⟩ | hz
    · subst hbe
      go_wp2_with (first
        | (go_at_call 16; (with_reducible refine (HNb.out _ ALL.out.1).mono ?_); rintro e w7 ⟨rfl, b⟩; replace ALL := Lib.hid (step ALL.out b); clear b)
        | (go_at_call 16; (with_reducible refine (HNa.out _ ALL.out.2.1).mono ?_); rintro e w7 ⟨rfl, b⟩; replace ALL := Lib.hid (step ALL.out b); clear b)
        | (go_at_call 17; (with_reducible refine (HSa.out _ ALL.out.2.1).mono ?_); rintro e w7 ⟨rfl, b⟩; replace ALL := Lib.hid (step ALL.out b); clear b)
        | (go_at_call 18; (with_reducible refine (HFb.out _ ALL.out.1).mono ?_); rintro e w7 ⟨rfl, b⟩; replace ALL := Lib.hid (step ALL.out b); clear b)
        | (go_at_call 19; (with_reducible refine (HBb.out _ ALL.out.1).mono ?_); rintro e w7 ⟨rfl, b⟩; replace ALL := Lib.hid (step ALL.out b); clear b)
        | (go_at_call 19; (with_reducible refine (HBa.out _ ALL.out.2.1).mono ?_); rintro e w7 ⟨rfl, b⟩; replace ALL := Lib.hid (step ALL.out b); clear b))
      clear HNa HSa HFb HBb HBa hz
      go_loopw [13] (fun i wr => ∃ iv : Int, bb ≤ iv ∧ iv ≤ nb ∧ i = .int .i64 iv ∧ Hid (Lat wr gb gd M ∧ Lat wr ga gd L ∧ St w.heap.size gd gb M D1 wr ∧ Below w.heap.size w wr)) (fun i _ => (nb - intOf i).toNat)
      case atStart => exact ⟨bb, Int.le_refl _, hbn, rfl, ALL⟩
      case round =>
        clear ALL
        obtain ⟨iv, hi0, hi1, rfl, ALL⟩ := hrel
        by_cases h1 : iv < nb
        · have hss : ((⟨(gv iv).toArray⟩ : ByteArray) != ⟨(gv iv).toArray⟩) = false := by
            have e : ((⟨(gv iv).toArray⟩ : ByteArray) == ⟨(gv iv).toArray⟩) = true := by first | (show ((gv iv).toArray == (gv iv).toArray) = true; simp) | exact beq_self_eq_true _
            rw [bne, e]; rfl
          have hwi : wrap64 (iv + 1) = iv + 1 := by unfold wrap64; omega
          go_wp2_with (first
            | (go_at_call 16; (with_reducible refine (HNb.out _ ALL.out.1).mono ?_); rintro e w8 ⟨rfl, b⟩; replace ALL := Lib.hid (step ALL.out b); clear b)
            | (go_at_call 20; (with_reducible refine (HGa.out _ iv ALL.out.2.1 hi0 h1).mono ?_); rintro e w9 ⟨rfl, b⟩; replace ALL := Lib.hid (step ALL.out b); clear b)
            | (go_at_call 20; (with_reducible refine (HGb.out _ iv ALL.out.1 hi0 h1).mono ?_); rintro e w9 ⟨rfl, b⟩; replace ALL := Lib.hid (step ALL.out b); clear b))
          go_roundw
          case rel => exact ⟨iv + 1, by omega, by omega, by first | rfl | go_num, ALL⟩
          case measure => simp [intOf]; omega
        · have h1e : iv = nb := by omega
          clear HGa HGb
          have hwn : wrap64 (nb + 1 - 1) = nb := by unfold wrap64; omega
          go_wp2_with (first
            | (go_at_call 16; (with_reducible refine (HNb.out _ ALL.out.1).mono ?_); rintro e w8 ⟨rfl, b⟩; have AL8 := Lib.hid (step ALL.out b); clear b)
            | (go_at_call 11; (with_reducible refine (HAp.out _ AL8.out.2.2.1).mono ?_); rintro e w9 ⟨rfl, s9, b9⟩; have S9 := Lib.hid s9; have B9 := Lib.hid (AL8.out.2.2.2.trans b9); clear s9 b9)
            | (go_at_call 20; (with_reducible refine (HGl.out _ S9.out).mono ?_); rintro e w10 ⟨rfl, b⟩; have S10 := Lib.hid (S9.out.below b); have B10 := Lib.hid (then_below B9.out b); clear b)
            | (go_at_call 16; (with_reducible refine (HNl.out _ S10.out).mono ?_); rintro e w11 ⟨rfl, b⟩; have B11 := Lib.hid (then_below B10.out b); clear b))
          go_ret
          exact ⟨rfl, B11.out⟩
    · go_wp2_with (first
        | (go_at_call 16; (with_reducible refine (HNb.out _ ALL.out.1).mono ?_); rintro e w7 ⟨rfl, b⟩; replace ALL := Lib.hid (step ALL.out b); clear b)
        | (go_at_call 16; (with_reducible refine (HNa.out _ ALL.out.2.1).mono ?_); rintro e w7 ⟨rfl, b⟩; replace ALL := Lib.hid (step ALL.out b); clear b)
        | (go_at_call 17; (with_reducible refine (HSa.out _ ALL.out.2.1).mono ?_); rintro e w7 ⟨rfl, b⟩; replace ALL := Lib.hid (step ALL.out b); clear b)
        | (go_at_call 18; (with_reducible refine (HFb.out _ ALL.out.1).mono ?_); rintro e w7 ⟨rfl, b⟩; replace ALL := Lib.hid (step ALL.out b); clear b)
        | (go_at_call 19; (with_reducible refine (HBb.out _ ALL.out.1).mono ?_); rintro e w7 ⟨rfl, b⟩; replace ALL := Lib.hid (step ALL.out b); clear b)
        | (go_at_call 19; (with_reducible refine (HBa.out _ ALL.out.2.1).mono ?_); rintro e w7 ⟨rfl, b⟩; replace ALL := Lib.hid (step ALL.out b); clear b))
      clear HNa HSa HFb HBb HBa hz
      go_loopw [13] (fun i wr => ∃ iv : Int, bb ≤ iv ∧ iv ≤ nb ∧ i = .int .i64 iv ∧ Hid (Lat wr gb gd M ∧ Lat wr ga gd L ∧ St w.heap.size gd gb M D1 wr ∧ Below w.heap.size w wr)) (fun i _ => (nb - intOf i).toNat)
      case atStart => exact ⟨bb, Int.le_refl _, hbn, rfl, ALL⟩
      case round =>
        clear ALL
        obtain ⟨iv, hi0, hi1, rfl, ALL⟩ := hrel
        by_cases h1 : iv < nb
        · have hss : ((⟨(gv iv).toArray⟩ : ByteArray) != ⟨(gv iv).toArray⟩) = false := by
            have e : ((⟨(gv iv).toArray⟩ : ByteArray) == ⟨(gv iv).toArray⟩) = true := by first | (show ((gv iv).toArray == (gv iv).toArray) = true; simp) | exact beq_self_eq_true _
            rw [bne, e]; rfl
          have hwi : wrap64 (iv + 1) = iv + 1 := by unfold wrap64; omega
          go_wp2_with (first
            | (go_at_call 16; (with_reducible refine (HNb.out _ ALL.out.1).mono ?_); rintro e w8 ⟨rfl, b⟩; replace ALL := Lib.hid (step ALL.out b); clear b)
            | (go_at_call 20; (with_reducible refine (HGa.out _ iv ALL.out.2.1 hi0 h1).mono ?_); rintro e w9 ⟨rfl, b⟩; replace ALL := Lib.hid (step ALL.out b); clear b)
            | (go_at_call 20; (with_reducible refine (HGb.out _ iv ALL.out.1 hi0 h1).mono ?_); rintro e w9 ⟨rfl, b⟩; replace ALL := Lib.hid (step ALL.out b); clear b))
          go_roundw
          case rel => exact ⟨iv + 1, by omega, by omega, by first | rfl | go_num, ALL⟩
          case measure => simp [intOf]; omega
        · have h1e : iv = nb := by omega
          clear HGa HGb
          have hwn : wrap64 (nb + 1 - 1) = nb := by unfold wrap64; omega
          go_wp2_with (first
            | (go_at_call 16; (with_reducible refine (HNb.out _ ALL.out.1).mono ?_); rintro e w8 ⟨rfl, b⟩; have AL8 := Lib.hid (step ALL.out b); clear b)
            | (go_at_call 11; (with_reducible refine (HAp.out _ AL8.out.2.2.1).mono ?_); rintro e w9 ⟨rfl, s9, b9⟩; have S9 := Lib.hid s9; have B9 := Lib.hid (AL8.out.2.2.2.trans b9); clear s9 b9)
            | (go_at_call 20; (with_reducible refine (HGl.out _ S9.out).mono ?_); rintro e w10 ⟨rfl, b⟩; have S10 := Lib.hid (S9.out.below b); have B10 := Lib.hid (then_below B9.out b); clear b)
            | (go_at_call 16; (with_reducible refine (HNl.out _ S10.out).mono ?_); rintro e w11 ⟨rfl, b⟩; have B11 := Lib.hid (then_below B10.out b); clear b))
          go_ret
          exact ⟨rfl, B11.out⟩
end
end Go.Proofs.YtfpmcomigolacaaGreatDoor.wal
set_option linter.unusedSimpArgs false
set_option linter.unusedVariables false
namespace Go.Proofs.YtfpmcomigolacaaGreatDoor.fence
open Go.ChangeShapes Go.WideShapes Go.ChangeAt Go.RowKit Go.Maps Go.WideMaps
open Go.Proofs.YtfpmcomigolacaaGreatDoor.opened Go.Proofs.YtfpmcomigolacaaGreatDoor.block Go.Proofs.YtfpmcomigolacaaGreatDoor.words Go.Proofs.YtfpmcomigolacaaGreatDoor.disk Go.Proofs.YtfpmcomigolacaaGreatDoor.tailed Go.Proofs.YtfpmcomigolacaaGreatDoor.enc Go.Proofs.YtfpmcomigolacaaGreatDoor.code Go.Proofs.YtfpmcomigolacaaGreatDoor.wal
theorem infoOf : (Tryz.prog.info? 52).map (·.size) = some 5 := by kernel_rfl
abbrev cOf (o : Of) : Array Value := #[.int .i64 o.k, .int .i64 o.t, sV o.s, .int .i64 o.m, .slice o.K o.keep.length o.kc]
/-- The entry at a place, of a log whose entries follow one another. -/
theorem fol_at {L : Lg} {T tt : Int} {j : Nat} {r : Bs} (h : folV 0 L.recs = some T) (hj : folV 0 L.recs = folV tt (L.recs.drop j)) (hr : L.recs[j]? = some r) (hb : 0 ≤ baseN L) :
    (gtE L (baseN L + (j : Int)) = 0 ∧ gtV L (baseN L + (j : Int)) = r) ∧ tt ≤ (decV r).1.t ∧ ((decV r).1.c = true → tt < (decV r).1.t) ∧ folV 0 L.recs = folV (decV r).1.t (L.recs.drop (j + 1)) := by
  obtain ⟨hlt, hre⟩ := List.getElem?_eq_some_iff.1 hr
  have hd : L.recs.drop j = r :: L.recs.drop (j + 1) := by rw [List.drop_eq_getElem_cons hlt, hre]
  have e1 : ¬ (baseN L + (j : Int) < baseN L ∨ nextN L ≤ baseN L + (j : Int)) := by unfold nextN; omega
  rw [hd] at hj
  have hj2 : some T = (if (decV r).2 = true ∧ folB (decV r).1 tt = true then folV (decV r).1.t (L.recs.drop (j + 1)) else none) := by
    rw [← h, hj]
    rfl
  split at hj2
  · rename_i hc
    refine ⟨⟨by unfold gtE; rw [if_neg e1], ?_⟩, fol_le hc.2, fun ht => ?_, ?_⟩
    · unfold gtV
      rw [if_neg e1, show (baseN L + (j : Int) - baseN L).toNat = j by omega, hr]
      rfl
    · have := hc.2
      unfold folB at this
      rw [if_pos ht] at this
      exact of_decide_eq_true this
    · rw [hj]
      show (if _ then _ else _) = _
      rw [if_pos hc]
  · cases hj2
theorem fst_arm {B gd gl gf : Nat} {L : Lg} {D : Dk} {T : Int} {w : World} (h : FSt B gd gl gf L D T w) (n : Int) (h0 : -9223372036854775808 ≤ n) (h1 : n ≤ 9223372036854775807) :
    Calls Tryz.prog 14 #[.pointer (some ⟨gd, 0, none⟩), .int .i64 n] w fun e w' => e = .returned (.tuple #[]) ∧ FSt B gd gl gf L (armV D n) T w' ∧ Below B w w' := by
  obtain ⟨A, c, R, d, k1, k2⟩ := h.st.log
  exact (armW n h.st.le h.st.disk).mono fun e w' ⟨q1, q2, q3, q4⟩ => ⟨q1, ⟨⟨⟨A, c, R, d, k1.wt q3 fun _ _ f => f, k2⟩, q2, h.st.env.step q4, h.st.good, good_arm h.st.gd h0 h1⟩, Whole.wt h.cell q3 (fun f => f) (by decide) (by decide), h.low⟩, q4⟩
section
variable {w : World}
set_option maxRecDepth 100000 in
set_option maxHeartbeats 16000000 in
theorem walkRises (per : Int) (A : Option Addr) (c : Nat) (l : List Of) (hl : l.length ≤ 4611686018427387903) (hw : Env w) (hL : Actf w A l) :
    Calls Tryz.prog 5 #[.int .i64 per, .slice A l.length c] w fun e w' => e = .returned (.bool true) ∧ Below w.heap.size w w' := by
  have HW := Lib.hid (works15_any hw)
  have HE := Lib.hid (EnvB.start hw)
  obtain ⟨P, P1, P8, hP⟩ := per_of8 per
  have HL := Lib.hid hL
  clear hL hw
  go_enter Tryz.func5, Tryz.ntmps5
  go_upto_region 4 with (go_at_call 21; refine HW.out.mono ?_; rintro e w1 ⟨rfl, b1⟩; have B1 := Lib.hid b1; clear b1)
  rw [hP]
  clear hP
  generalize wrap64 ((IntKind.u64.wrap per).tmod 8) = g1
  generalize (IntKind.u64.wrap per).tmod 8 = g2
  generalize IntKind.u64.wrap per = g3
  have hpP : (1 : Int) ≤ (P : Int) ∧ (P : Int) ≤ 64 := by omega
  have HOp := Lib.hid (opn_new (nm := [103]) (per := (P : Int)) (by decide) (by decide) (by decide) hpP)
  have HF0 : Hid (Fs (P : Int) 0 (lg0 [103] (P : Int)) K0 0) := Lib.hid ⟨kp_new _ (by decide), sz_new, ⟨_, inv_new [103] (P : Int)⟩, rfl⟩
  have HN := Lib.hid (Go.Proofs.YtfpmcomigolacaaGreatDoor.disk.newB w1 w.heap.size B1.out.size)
  go_upto_region 5 with (go_at_call 8; refine HN.out.mono ?_; rintro e w2 ⟨rfl, d2, b2⟩; have DK2 := Lib.hid d2; have B2 := Lib.hid (B1.out.trans b2); clear d2 b2)
  generalize w1.heap.size + 1 = gd at *
  have HO1 := Lib.hid (fopen_any DK2.out (HE.out.step B2.out) good_new (Nat.zero_le _) [103] (by decide) (P : Int) HOp.out rfl HF0.out.a.good good_new (by show nextN (lg0 [103] (P : Int)) ≤ _; have := HF0.out.a.next; omega) HF0.out.short HF0.out.fol)
  go_upto_region 6 with (go_at_call 22; refine HO1.out.mono ?_; rintro e w3 ⟨gl, gf, rfl, s3, -, b3⟩; have S3 : Hid (FSt w.heap.size gd gl gf (lg0 [103] (P : Int)) K0 0 w3) := Lib.hid s3; have B3 := Lib.hid (B2.out.trans b3); clear s3 b3)
  clear HO1 HN HW B1 B2 DK2 HOp
  generalize lg0 [103] (P : Int) = L0 at *
  generalize K0 = D0 at *
  go_upto_block 0 with fail
  go_cut [6, 8, 9] from 41 to 155 (fun a _ _ wx => ∃ (gl gf : Nat) (L : Lg) (D : Dk) (T : Int), a = .pointer (some ⟨gf, 0, none⟩) ∧ Hid (Fs (P : Int) 60 L D T) ∧ Hid (FSt w.heap.size gd gl gf L D T wx) ∧ Hid (Below w.heap.size w wx))
  case first =>
    go_wp2_with fail
    go_loopw [6, 8, 9] (fun a i _ wr => ∃ (j gl gf : Nat) (L : Lg) (D : Dk) (T : Int), j ≤ l.length ∧ j ≤ 60 ∧ a = .pointer (some ⟨gf, 0, none⟩) ∧ i = .int .i64 (j : Int) ∧ Hid (Fs (P : Int) j L D T) ∧ Hid (FSt w.heap.size gd gl gf L D T wr) ∧ Hid (Below w.heap.size w wr)) (fun _ i _ _ => l.length - (intOf i).toNat)
    case atStart => exact ⟨0, gl, gf, L0, D0, 0, Nat.zero_le _, Nat.zero_le _, rfl, rfl, HF0, S3, B3⟩
    case round =>
      clear HF0 S3 B3
      obtain ⟨j, gl, gf, L, D, T, hjl, hj1, rfl, rfl, HFs, HS, HB⟩ := hrel
      by_cases h1 : j < l.length
      · by_cases h2 : j < 60
        · obtain ⟨o, ho⟩ : ∃ o, l[j]? = some o := ⟨_, List.getElem?_eq_getElem h1⟩
          have HLr := HL.out.below (HB.out : Below w.heap.size w wr)
          obtain ⟨b, off, hA, hb, c0, c1, c2, c3, c4⟩ := HLr.at ho
          obtain ⟨oi, hkl⟩ := HLr.keep ho
          subst hA
          have h1i : (j : Int) < (l.length : Int) := by omega
          have h2i : (j : Int) < 60 := by omega
          have HG := Lib.hid (fun W => greatf_any o oi W)
          have HNO := Lib.hid (greatf_no (o := o))
          have HIn := Lib.hid oi
          have hz := HB.out.size
          have hbl := fresh1' wr (.cells (cOf o) 52)
          have B2 := Lib.hid (HB.out.alloc hz (.cells (cOf o) 52))
          have S2 := Lib.hid (HS.out.below hbl)
          have HK2 := Lib.hid (lies_below hkl hbl)
          have OZ := Lib.hid (Whole.fresh wr 52 (cOf o))
          clear HLr ho oi HS hz hkl hbl
          go_upto_region 12 with fail
          change Code.wp _ _ _ _ (wr.alloc (.cells (cOf o) 52))
          generalize wr.alloc (.cells (cOf o) 52) = W2 at B2 S2 OZ HK2 ⊢
          generalize wr.heap.size = gz at OZ ⊢
          clear c0 c1 c2 c3 c4 hb HB
          cases hgr : greatfB o with
          | true =>
            rw [hgr] at HG
            clear hgr HNO
            go_wp2_with (first | (refine get rfl 52 (.tmp 9) rfl rfl OZ.out Tryz.underlying52 rfl infoOf ?_) | (go_at_call 23; refine (HG.out _).mono ?_; rintro e w3 ⟨rfl, b3⟩; have B3 := Lib.hid (B2.out.trans (b3.mono B2.out.size)); clear b3))
            go_ret
            exact ⟨rfl, B3.out⟩
          | false =>
            rw [hgr] at HG
            obtain ⟨os, ok⟩ := HNO.out hgr
            clear hgr HNO
            go_upto_region 14 with (first | (refine get rfl 52 (.tmp 9) rfl rfl OZ.out Tryz.underlying52 rfl infoOf ?_) | (go_at_call 23; refine (HG.out _).mono ?_; rintro e w3 ⟨rfl, b3⟩; have B3 := Lib.hid (B2.out.trans (b3.mono B2.out.size)); have S3 := Lib.hid (S2.out.below b3); have OZ3 := Lib.hid (OZ.out.below b3 OZ.out.inside); have HK3 := Lib.hid (lies_below HK2.out b3); clear b3))
            clear HG B2 S2 OZ HK2
            have HTm := Lib.hid (fTerm_any S3.out.fl)
            go_upto_region 15 with (go_at_call 24; refine HTm.out.mono ?_; rintro e w4 ⟨rfl, b4⟩; have B4 := Lib.hid (then_below B3.out b4); have S4 := Lib.hid (S3.out.below b4); have OZ4 := Lib.hid (OZ3.out.below b4 OZ3.out.inside); have HK4 := Lib.hid (lies_below HK3.out b4); clear b4)
            clear HTm B3 S3 OZ3 HK3
            have z0 : w4.cell? ⟨gz, 0, none⟩ = some (.int .i64 o.k) := OZ4.out.read 0
            have y0 : w4.frozen? ⟨gz, 0, none⟩ = false := OZ4.out.soft 0
            have z1 : w4.cell? ⟨gz, 1, none⟩ = some (.int .i64 o.t) := OZ4.out.read 1
            have y1 : w4.frozen? ⟨gz, 1, none⟩ = false := OZ4.out.soft 1
            have z2 : w4.cell? ⟨gz, 2, none⟩ = some (sV o.s) := OZ4.out.read 2
            have y2 : w4.frozen? ⟨gz, 2, none⟩ = false := OZ4.out.soft 2
            have z3 : w4.cell? ⟨gz, 3, none⟩ = some (.int .i64 o.m) := OZ4.out.read 3
            have y3 : w4.frozen? ⟨gz, 3, none⟩ = false := OZ4.out.soft 3
            have z4 : w4.cell? ⟨gz, 4, none⟩ = some (.slice o.K o.keep.length o.kc) := OZ4.out.read 4
            have y4 : w4.frozen? ⟨gz, 4, none⟩ = false := OZ4.out.soft 4
            have z5 : (w4.alloc (.cells #[] 3)).cell? ⟨gz, 4, none⟩ = some (.slice o.K o.keep.length o.kc) := (OZ4.out.alloc _).read 4
            have y5 : (w4.alloc (.cells #[] 3)).frozen? ⟨gz, 4, none⟩ = false := (OZ4.out.alloc _).soft 4
            obtain ⟨hper, hnx, hrl, hlen⟩ := HFs.out.bounds (by omega)
            have hT0 := HFs.out.t0
            by_cases q0 : o.k = 0
            · rw [q0] at z0
              clear q0
              have HC := Lib.hid (claim_any S4.out (by rw [hper]; omega) (by omega) (by omega) (by omega) HFs.out.a.bare o.t)
              have F7 : Hid (Fs (P : Int) (j + 1) (clL L D T o.t) (clD L D T o.t) (clT L D T o.t)) := Lib.hid (HFs.out.claim o.t)
              have hok := fun h => cl_ok (L := L) (D := D) (T := T) (t := o.t) h
              have hle := cl_le L D T o.t
              have hok2 : clE L D T o.t = 0 → clT L D T o.t = o.t ∧ T < o.t := fun h => ⟨(hok h).1, (hok h).2.1⟩
              have HOK := Lib.hid hok2
              clear HFs hok hok2 hper hnx hrl hlen os ok HIn HK4
              generalize clN L D T o.t = cn at HC
              generalize clE L D T o.t = ce at HC HOK
              generalize clL L D T o.t = L' at HC F7
              generalize clD L D T o.t = D' at HC F7
              generalize clT L D T o.t = T' at HC F7 HOK hle
              go_upto_region 18 with (go_at_call 25; refine HC.out.mono ?_; rintro e w7 ⟨rfl, s7, b7⟩; have S7 := Lib.hid s7; have B7 := Lib.hid (B4.out.trans b7.below); have OZ7 := Lib.hid (b7.op _ _ OZ4.out); clear b7 s7)
              clear z0 y0 z1 y1 z2 y2 z3 y3 z4 y4 z5 y5
              clear HC
              have c1x : ∀ x : Since w7, x.1.cell? ⟨gz, 1, none⟩ = some (.int .i64 o.t) := fun x => (OZ7.out.below x.2 OZ7.out.inside).read 1
              have f1x : ∀ x : Since w7, x.1.frozen? ⟨gz, 1, none⟩ = false := fun x => (OZ7.out.below x.2 OZ7.out.inside).soft 1
              have HTe : Hid (∀ w1, Below w7.heap.size w7 w1 → Calls Tryz.prog 24 #[.pointer (some ⟨gf, 0, none⟩)] w1 fun e w' => e = .returned (.int .i64 T') ∧ Below w1.heap.size w1 w') := Lib.hid fun w1 b => fTerm_any (S7.out.below b).fl
              have hlt : ¬ T' < T := by omega
              by_cases hc : ce = 0
              · subst hc
                obtain ⟨hT1, hT2⟩ := HOK.out rfl
                subst hT1
                have hT3 : (o.t != o.t) = false := by simp
                have hT4 : ¬ o.t ≤ T := by omega
                refine region_since w7 (by kernel_rfl) (by kernel_rfl) (Below.refl _ _) ?_
                repeat (go_big_quiet_step ((go_at_call 24; with_reducible exact since_callW HTe.out _)))
                refine wpQuiet_nil ?_
                rintro w8 ⟨z, rfl⟩
                have S8 := Lib.hid (S7.out.below z.2)
                have B8 := Lib.hid (then_below B7.out z.2)
                obtain ⟨w8, hw8⟩ : ∃ w8, w8 = z.1 := ⟨_, rfl⟩
                rw [← hw8] at S8 B8 ⊢
                clear hw8 c1x f1x HTe OZ7
                have HTe2 := Lib.hid (fTerm_any S8.out.fl)
                go_wp2_with (go_at_call 24; refine HTe2.out.mono ?_; rintro e w9 ⟨rfl, b9⟩; have B9 := Lib.hid (then_below B8.out b9); have S9 := Lib.hid (S8.out.below b9); clear b9)
                go_roundw
                case rel => exact ⟨j + 1, gl, gf, L', D', o.t, by omega, by omega, rfl, by go_num, F7, S9, B9⟩
                case measure => simp [intOf]; omega
              · have hcb : (ce == 0) = false := by simpa using hc
                clear hc HOK
                refine region_since w7 (by kernel_rfl) (by kernel_rfl) (Below.refl _ _) ?_
                repeat (go_big_quiet_step ((go_at_call 24; with_reducible exact since_callW HTe.out _)))
                refine wpQuiet_nil ?_
                rintro w8 ⟨z, rfl⟩
                have S8 := Lib.hid (S7.out.below z.2)
                have B8 := Lib.hid (then_below B7.out z.2)
                obtain ⟨w8, hw8⟩ : ∃ w8, w8 = z.1 := ⟨_, rfl⟩
                rw [← hw8] at S8 B8 ⊢
                clear hw8 c1x f1x HTe OZ7
                have HTe2 := Lib.hid (fTerm_any S8.out.fl)
                go_wp2_with (go_at_call 24; refine HTe2.out.mono ?_; rintro e w9 ⟨rfl, b9⟩; have B9 := Lib.hid (then_below B8.out b9); have S9 := Lib.hid (S8.out.below b9); clear b9)
                go_roundw
                case rel => exact ⟨j + 1, gl, gf, L', D', T', by omega, by omega, rfl, by go_num, F7, S9, B9⟩
                case measure => simp [intOf]; omega
            · have p0 : (o.k == 0) = false := by simpa using q0
              by_cases q1 : o.k = 1
              · rw [q1] at z0
                clear q0 q1 p0
                have HC := Lib.hid (fappend_any S4.out (by rw [hper]; omega) (by omega) (by omega) (by omega) HFs.out.a.bare o.t o.s (by omega))
                have F7 : Hid (Fs (P : Int) (j + 1) (faL L D T o.t o.s) (faD L D T o.t o.s) T) := Lib.hid (HFs.out.append o.t o.s)
                have HOK := Lib.hid (fun h => fa_ok (L := L) (D := D) (T := T) (t := o.t) (s := o.s) h)
                clear HFs hper hnx hrl hlen os ok HIn HK4
                generalize faN L D T o.t o.s = cn at HC
                generalize faE L D T o.t o.s = ce at HC HOK
                generalize faL L D T o.t o.s = L' at HC F7
                generalize faD L D T o.t o.s = D' at HC F7
                go_upto_region 22 with (go_at_call 26; refine HC.out.mono ?_; rintro e w7 ⟨rfl, s7, b7⟩; have S7 := Lib.hid s7; have B7 := Lib.hid (B4.out.trans b7.below); have OZ7 := Lib.hid (b7.op _ _ OZ4.out); clear b7 s7)
                clear z0 y0 z1 y1 z2 y2 z3 y3 z4 y4 z5 y5
                clear HC
                have z1 : w7.cell? ⟨gz, 1, none⟩ = some (.int .i64 o.t) := OZ7.out.read 1
                have y1 : w7.frozen? ⟨gz, 1, none⟩ = false := OZ7.out.soft 1
                have hlt : ¬ T < T := by omega
                by_cases hc : ce = 0
                · subst hc
                  have hT1 := HOK.out rfl
                  have hT3 : (o.t != T) = false := by simp [hT1]
                  clear hT1 HOK
                  have HTe2 := Lib.hid (fTerm_any S7.out.fl)
                  go_wp2_with (go_at_call 24; refine HTe2.out.mono ?_; rintro e w9 ⟨rfl, b9⟩; have B9 := Lib.hid (then_below B7.out b9); have S9 := Lib.hid (S7.out.below b9); clear b9)
                  go_roundw
                  case rel => exact ⟨j + 1, gl, gf, L', D', T, by omega, by omega, rfl, by go_num, F7, S9, B9⟩
                  case measure => simp [intOf]; omega
                · have hcb : (ce == 0) = false := by simpa using hc
                  clear hc HOK
                  have HTe2 := Lib.hid (fTerm_any S7.out.fl)
                  go_wp2_with (go_at_call 24; refine HTe2.out.mono ?_; rintro e w9 ⟨rfl, b9⟩; have B9 := Lib.hid (then_below B7.out b9); have S9 := Lib.hid (S7.out.below b9); clear b9)
                  go_roundw
                  case rel => exact ⟨j + 1, gl, gf, L', D', T, by omega, by omega, rfl, by go_num, F7, S9, B9⟩
                  case measure => simp [intOf]; omega
              · have p1 : (o.k == 1) = false := by simpa using q1
                by_cases q5 : o.k = 5
                · rw [q5] at z0
                  clear q0 q1 q5 p0 p1
                  have hkk := ok
                  obtain ⟨A', c', w5, hap, hl5, hn5, b5⟩ := own_ints w4 o.K o.kc o.keep (by omega) HK4.out 23
                  have HM := Lib.hid (mendN HFs.out.z.gd (by omega) A' c' o.keep (fun x hx => (HIn.out.keep x hx).2) (by omega) S4.out.st.le S4.out.st.disk b5 hl5 hn5)
                  obtain ⟨X, T2, hX, hok, hg, hgd, -, hFx, hTle, hsn, hun, -⟩ := HFs.out.anew hpP (by omega) o.keep
                  have HOX := Lib.hid hX
                  have F7 := Lib.hid hFx
                  have HGx := Lib.hid (And.intro hok (And.intro hg hgd))
                  have HGa := Lib.hid HFs.out.a.good
                  have hlm : (mendV D o.keep).F.length ≤ 900 := by have := (mend_sz HFs.out.z o.keep).len; omega
                  have HGm := Lib.hid (mend_sz HFs.out.z o.keep).gd
                  have FL4 := Lib.hid S4.out.fl
                  clear hX hok hg hgd hFx hl5 hn5 HK4 HIn hkk os ok HFs hrl hlen
                  go_upto_region 26 with (first | (at_builtin; refine wpList_append_run rfl _ _ 23 23 rfl rfl rfl hap ?_) | (go_at_call 15; refine HM.out.mono ?_; rintro e w6 ⟨rfl, d6, t6, b6⟩; have DK6 := Lib.hid d6; have FL6 := Lib.hid (FL4.out.wt t6); have B6 := Lib.hid (B4.out.trans b6); clear d6 t6 b6))
                  clear z0 y0 z1 y1 z2 y2 z3 y3 z4 y4 z5 y5
                  clear hap b5 HM FL4
                  have hnX := F7.out.a.next
                  have HO := Lib.hid (fopen_any DK6.out (HE.out.step B6.out) HGm.out hlm [103] (by decide) (P : Int) HOX.out HGx.out.1 HGx.out.2.1 HGx.out.2.2 (by omega) F7.out.short F7.out.fol)
                  go_upto_region 27 with (go_at_call 22; refine HO.out.mono ?_; rintro e w7 ⟨gl2, gf2, rfl, s7, t7, b7⟩; have S7 := Lib.hid s7; have FL7 := Lib.hid (FL6.out.wt t7); have B7 := Lib.hid (B6.out.trans b7); clear s7 t7 b7)
                  clear HO DK6 FL6 B6 HOX HGm
                  have hgX := HGx.out.2.1
                  have HNb : Hid (∀ w1, FL w1 gf2 gl2 gd X.2.1 T2 → Calls Tryz.prog 27 #[.pointer (some ⟨gf2, 0, none⟩)] w1 fun e w' => e = .returned (.int .i64 (nextN X.2.1)) ∧ Below w1.heap.size w1 w') := Lib.hid fun w1 h => fNext_any h hgX (by omega)
                  have HNa : Hid (∀ w1, FL w1 gf gl gd L T → Calls Tryz.prog 27 #[.pointer (some ⟨gf, 0, none⟩)] w1 fun e w' => e = .returned (.int .i64 (nextN L)) ∧ Below w1.heap.size w1 w') := Lib.hid fun w1 h => fNext_any h HGa.out (by omega)
                  have HSa : Hid (∀ w1, FL w1 gf gl gd L T → Calls Tryz.prog 28 #[.pointer (some ⟨gf, 0, none⟩)] w1 fun e w' => e = .returned (.int .i64 L.syn) ∧ Below w1.heap.size w1 w') := Lib.hid fun w1 h => fSynced_any h
                  have HTb : Hid (∀ w1, FL w1 gf2 gl2 gd X.2.1 T2 → Calls Tryz.prog 24 #[.pointer (some ⟨gf2, 0, none⟩)] w1 fun e w' => e = .returned (.int .i64 T2) ∧ Below w1.heap.size w1 w') := Lib.hid fun w1 h => fTerm_any h
                  have HTa : Hid (∀ w1, FL w1 gf gl gd L T → Calls Tryz.prog 24 #[.pointer (some ⟨gf, 0, none⟩)] w1 fun e w' => e = .returned (.int .i64 T) ∧ Below w1.heap.size w1 w') := Lib.hid fun w1 h => fTerm_any h
                  have hT20 := F7.out.t0
                  have hn1 : ¬ nextN X.2.1 < L.syn := by omega
                  have hn2 : ¬ nextN L < nextN X.2.1 := by omega
                  have hn3 : ¬ T < T2 := by omega
                  have hlt : ¬ T2 < 0 := by omega
                  clear hgX HGx HGa hnX hsn hun hTle hnx hper hlm
                  generalize X.2.1 = L' at *
                  generalize X.2.2 = D' at *
                  generalize nextN L' = nb at *
                  generalize nextN L = na at *
                  generalize L.syn = sy at *
                  have step : ∀ {w1 w2 : World}, FL w1 gf gl gd L T ∧ FSt w.heap.size gd gl2 gf2 L' D' T2 w1 ∧ Below w.heap.size w w1 → Below w1.heap.size w1 w2 → FL w2 gf gl gd L T ∧ FSt w.heap.size gd gl2 gf2 L' D' T2 w2 ∧ Below w.heap.size w w2 := fun ⟨h1, h2, h3⟩ hb => ⟨h1.below hb, h2.below hb, then_below h3 hb⟩
                  have ALL := Lib.hid (show FL w7 gf gl gd L T ∧ FSt w.heap.size gd gl2 gf2 L' D' T2 w7 ∧ Below w.heap.size w w7 from ⟨FL7.out, S7.out, B7.out⟩)
                  clear FL7 S7 B7
                  go_upto_region 33 with (first
                    | (go_at_call 27; (with_reducible refine (HNb.out _ ALL.out.2.1.fl).mono ?_); rintro e w9 ⟨rfl, b⟩; replace ALL := Lib.hid (step ALL.out b); clear b)
                    | (go_at_call 27; (with_reducible refine (HNa.out _ ALL.out.1).mono ?_); rintro e w9 ⟨rfl, b⟩; replace ALL := Lib.hid (step ALL.out b); clear b)
                    | (go_at_call 28; (with_reducible refine (HSa.out _ ALL.out.1).mono ?_); rintro e w9 ⟨rfl, b⟩; replace ALL := Lib.hid (step ALL.out b); clear b)
                    | (go_at_call 24; (with_reducible refine (HTb.out _ ALL.out.2.1.fl).mono ?_); rintro e w9 ⟨rfl, b⟩; replace ALL := Lib.hid (step ALL.out b); clear b)
                    | (go_at_call 24; (with_reducible refine (HTa.out _ ALL.out.1).mono ?_); rintro e w9 ⟨rfl, b⟩; replace ALL := Lib.hid (step ALL.out b); clear b))
                  have S7 := Lib.hid ALL.out.2.1
                  have B7 := Lib.hid ALL.out.2.2
                  clear ALL HNb HNa HSa HTb HTa
                  have HTe2 := Lib.hid (fTerm_any S7.out.fl)
                  go_wp2_with (go_at_call 24; refine HTe2.out.mono ?_; rintro e w9 ⟨rfl, b9⟩; have B9 := Lib.hid (then_below B7.out b9); have S9 := Lib.hid (S7.out.below b9); clear b9)
                  go_roundw
                  case rel => exact ⟨j + 1, gl2, gf2, L', D', T2, by omega, by omega, rfl, by go_num, F7, S9, B9⟩
                  case measure => simp [intOf]; omega
                · have p5 : (o.k == 5) = false := by simpa using q5
                  by_cases q4 : o.k = 4
                  · rw [q4] at z0
                    clear q0 q1 q5 q4 p0 p1 p5
                    have hm0 := HIn.out.m.1
                    have hm1 := HIn.out.m.2
                    have HC := Lib.hid (fst_arm S4.out o.m hm0 hm1)
                    have F7 : Hid (Fs (P : Int) (j + 1) L (armV D o.m) T) := Lib.hid ((HFs.out.arm hm0 hm1).more (Nat.le_succ _))
                    clear HFs hper hnx hrl hlen os ok HIn HK4 hm0 hm1
                    generalize armV D o.m = D' at HC F7
                    have hlt : ¬ T < T := by omega
                    go_upto_region 33 with (go_at_call 14; refine HC.out.mono ?_; rintro e w7 ⟨rfl, s7, b7⟩; have S7 := Lib.hid s7; have B7 := Lib.hid (B4.out.trans b7); clear b7 s7)
                    clear z0 y0 z1 y1 z2 y2 z3 y3 z4 y4 z5 y5
                    clear HC
                    have HTe2 := Lib.hid (fTerm_any S7.out.fl)
                    go_wp2_with (go_at_call 24; refine HTe2.out.mono ?_; rintro e w9 ⟨rfl, b9⟩; have B9 := Lib.hid (then_below B7.out b9); have S9 := Lib.hid (S7.out.below b9); clear b9)
                    go_roundw
                    case rel => exact ⟨j + 1, gl, gf, L, D', T, by omega, by omega, rfl, by go_num, F7, S9, B9⟩
                    case measure => simp [intOf]; omega
                  · have p4 : (o.k == 4) = false := by simpa using q4
                    clear q0 q1 q5 q4
                    have F7 : Hid (Fs (P : Int) (j + 1) L D T) := Lib.hid (HFs.out.more (Nat.le_succ _))
                    clear HFs hper hnx hrl hlen os ok HIn HK4
                    have hlt : ¬ T < T := by omega
                    go_upto_region 33 with fail
                    clear z0 y0 z1 y1 z2 y2 z3 y3 z4 y4 z5 y5
                    have HTe2 := Lib.hid (fTerm_any S4.out.fl)
                    go_wp2_with (go_at_call 24; refine HTe2.out.mono ?_; rintro e w9 ⟨rfl, b9⟩; have B9 := Lib.hid (then_below B4.out b9); have S9 := Lib.hid (S4.out.below b9); clear b9)
                    go_roundw
                    case rel => exact ⟨j + 1, gl, gf, L, D, T, by omega, by omega, rfl, by go_num, F7, S9, B9⟩
                    case measure => simp [intOf]; omega
        · have h2i : ¬ (j : Int) < 60 := by omega
          have h1i : (j : Int) < (l.length : Int) := by omega
          have hj : j = 60 := by omega
          subst hj
          go_wp2_with fail
          go_meet
          case rel => exact ⟨gl, gf, L, D, T, rfl, HFs, HS, HB⟩
      · have h1i : ¬ (j : Int) < (l.length : Int) := by omega
        have A2 : Hid (Fs (P : Int) 60 L D T) := Lib.hid (HFs.out.more hj1)
        go_wp2_with fail
        go_meet
        case rel => exact ⟨gl, gf, L, D, T, rfl, A2, HS, HB⟩
  case rest =>
    obtain ⟨gl2, gf2, L, D, T, rfl, HFs, HS, HB⟩ := hcut
    clear HF0 S3 B3 HL
    have hG := HFs.out.a.good
    have hnx := HFs.out.a.next
    have hbs := hG.base
    have hsh := HFs.out.short
    have hfol := HFs.out.fol
    have hbb : baseN L + (L.recs.length : Int) ≤ 60 := by
      have : nextN L = baseN L + (L.recs.length : Int) := rfl
      omega
    have FL0 := Lib.hid HS.out.fl
    have HB0 : Hid (∀ w1, FL w1 gf2 gl2 gd L T → Calls Tryz.prog 29 #[.pointer (some ⟨gf2, 0, none⟩)] w1 fun e w' => e = .returned (.int .i64 (baseN L)) ∧ Below w1.heap.size w1 w') := Lib.hid fun w1 h => fBase_any h
    have HN0 : Hid (∀ w1, FL w1 gf2 gl2 gd L T → Calls Tryz.prog 27 #[.pointer (some ⟨gf2, 0, none⟩)] w1 fun e w' => e = .returned (.int .i64 (baseN L + (L.recs.length : Int))) ∧ Below w1.heap.size w1 w') := Lib.hid fun w1 h => fNext_any h hG (by omega)
    have HT0 : Hid (∀ w1, FL w1 gf2 gl2 gd L T → Calls Tryz.prog 24 #[.pointer (some ⟨gf2, 0, none⟩)] w1 fun e w' => e = .returned (.int .i64 T) ∧ Below w1.heap.size w1 w') := Lib.hid fun w1 h => fTerm_any h
    have HG0 : Hid (∀ w1 (j : Nat) (r : Bs) (tt : Int), FL w1 gf2 gl2 gd L T → L.recs[j]? = some r → folV 0 L.recs = folV tt (L.recs.drop j) → Calls Tryz.prog 30 #[.pointer (some ⟨gf2, 0, none⟩), .int .i64 (baseN L + (j : Int))] w1 fun e w' => e = .returned (.tuple #[(decV r).1.val, .int .i64 0]) ∧ Below w1.heap.size w1 w') := Lib.hid fun w1 j r tt h hr hj => by
      have hlt := (List.getElem?_eq_some_iff.1 hr).1
      obtain ⟨⟨e1, e2⟩, -⟩ := fol_at hfol hj hr hbs
      have := fGet_any h hG (by omega) hsh (baseN L + (j : Int)) (by omega) (by omega)
      unfold fgV fgE at this
      rw [e1, if_pos rfl, e2] at this
      exact this
    have HAt : Hid (∀ (j : Nat) (r : Bs) (tt : Int), L.recs[j]? = some r → folV 0 L.recs = folV tt (L.recs.drop j) → tt ≤ (decV r).1.t ∧ ((decV r).1.c = true → tt < (decV r).1.t) ∧ folV 0 L.recs = folV (decV r).1.t (L.recs.drop (j + 1))) := Lib.hid fun j r tt hr hj => (fol_at hfol hj hr hbs).2
    have HFo := Lib.hid hfol
    clear HFs HS hG hnx hsh hfol HE
    generalize hR : L.recs = R at *
    clear hR
    generalize baseN L = bs at *
    go_wp2_with (go_at_call 29; refine (HB0.out _ FL0.out).mono ?_; rintro e w1 ⟨rfl, b1⟩; have B1 := Lib.hid (then_below HB.out b1); have FL1 := Lib.hid (FL0.out.below b1); clear b1)
    clear HB0 FL0 HB
    go_loopw [17, 18] (fun la i wr => ∃ (j : Nat) (tt : Int), j ≤ R.length ∧ la = .int .i64 tt ∧ i = .int .i64 (bs + (j : Int)) ∧ Hid (folV 0 R = folV tt (R.drop j)) ∧ Hid (FL wr gf2 gl2 gd L T) ∧ Hid (Below w.heap.size w wr)) (fun _ i _ => (bs + (R.length : Int) - intOf i).toNat)
    case atStart => exact ⟨0, 0, Nat.zero_le _, rfl, by simp, Lib.hid rfl, FL1, B1⟩
    case round =>
      obtain ⟨j, tt, hj, rfl, rfl, hfj, HFL, HBw⟩ := hrel
      clear FL1 B1
      by_cases hlt : j < R.length
      · obtain ⟨r, hr⟩ : ∃ r, R[j]? = some r := ⟨_, List.getElem?_eq_getElem hlt⟩
        have hlti : bs + (j : Int) < bs + (R.length : Int) := by omega
        obtain ⟨a1, a2, a3⟩ := HAt.out j r tt hr hfj.out
        have HGj := Lib.hid (fun w1 h => HG0.out w1 j r tt h hr hfj.out)
        have HFn := Lib.hid a3
        clear hfj hr a3
        generalize (decV r).1 = en at HGj HFn a1 a2
        have hwr : wrap64 (bs + (j : Int) + 1) = bs + ((j + 1 : Nat) : Int) := by unfold wrap64; push_cast; omega
        go_upto_region 40 with (first
          | (go_at_call 27; (with_reducible refine (HN0.out _ HFL.out).mono ?_); rintro e w2 ⟨rfl, b⟩; have B2 := Lib.hid (then_below HBw.out b); have FL2 := Lib.hid (HFL.out.below b); clear b)
          | (go_at_call 30; (with_reducible refine (HGj.out _ FL2.out).mono ?_); rintro e w3 ⟨rfl, b⟩; have B3 := Lib.hid (then_below B2.out b); have FL3 := Lib.hid (FL2.out.below b); clear b))
        change Code.wp _ _ _ _ (w3.alloc (.cells en.cells 57))
        have hal := fresh1' w3 (.cells en.cells 57)
        have B4 := Lib.hid (then_below B3.out hal)
        have FL4 := Lib.hid (FL3.out.below hal)
        have E4 := Lib.hid (Whole.fresh w3 57 en.cells)
        clear hal B2 B3 FL2 FL3
        generalize w3.alloc (.cells en.cells 57) = W4 at B4 FL4 E4 ⊢
        generalize w3.heap.size = g4 at E4 ⊢
        have q0 : W4.cell? ⟨g4, 0, none⟩ = some (.int .i64 en.t) := E4.out.read 0
        have q1 : W4.cell? ⟨g4, 1, none⟩ = some (.bool en.c) := E4.out.read 1
        have hlast : ¬ en.t < tt := by omega
        cases hc : en.c with
        | true =>
          rw [hc] at q1
          have hne : (en.t == tt) = false := by
            have := a2 hc
            simp
            omega
          clear a1 a2 hc
          go_wp2_with fail
          go_roundw
          case rel => exact ⟨j + 1, en.t, by omega, rfl, by first | rfl | (rw [hwr]) | go_num, HFn, FL4, B4⟩
          case measure => simp [intOf]; omega
        | false =>
          rw [hc] at q1
          clear a1 a2 hc
          go_wp2_with fail
          go_roundw
          case rel => exact ⟨j + 1, en.t, by omega, rfl, by first | rfl | (rw [hwr]) | go_num, HFn, FL4, B4⟩
          case measure => simp [intOf]; omega
      · have hje : j = R.length := by omega
        subst hje
        have hf := hfj.out
        rw [List.drop_length, HFo.out] at hf
        have htt : T = tt := Option.some.inj hf
        subst htt
        clear hf hfj
        go_wp2_with (first
          | (go_at_call 27; (with_reducible refine (HN0.out _ HFL.out).mono ?_); rintro e w2 ⟨rfl, b⟩; have B2 := Lib.hid (then_below HBw.out b); have FL2 := Lib.hid (HFL.out.below b); clear b)
          | (go_at_call 24; (with_reducible refine (HT0.out _ FL2.out).mono ?_); rintro e w3 ⟨rfl, b⟩; have B3 := Lib.hid (then_below B2.out b); clear b))
        go_ret
        exact ⟨by simp, B3.out⟩
end
end Go.Proofs.YtfpmcomigolacaaGreatDoor.fence
