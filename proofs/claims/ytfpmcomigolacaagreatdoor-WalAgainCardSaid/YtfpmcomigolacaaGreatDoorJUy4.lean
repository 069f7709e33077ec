/-
  The walk of WalAgain.
-/
import Derived.Test.YtfpmcomigolacaaGreatDoorJUy2
set_option linter.unusedSimpArgs false
set_option linter.unusedVariables false
namespace Go.Proofs.YtfpmcomigolacaaGreatDoor.wal
open Go.ChangeShapes Go.WideShapes Go.ChangeAt Go.RowKit Go.Maps Go.WideMaps
open Go.Proofs.YtfpmcomigolacaaGreatDoor.opened Go.Proofs.YtfpmcomigolacaaGreatDoor.block Go.Proofs.YtfpmcomigolacaaGreatDoor.words Go.Proofs.YtfpmcomigolacaaGreatDoor.disk Go.Proofs.YtfpmcomigolacaaGreatDoor.tailed Go.Proofs.YtfpmcomigolacaaGreatDoor.enc Go.Proofs.YtfpmcomigolacaaGreatDoor.code
section
variable {w : World}
/-- What is known of both logs and their disk at the start of a round. -/
structure Ag (P : Int) (i k : Nat) (L M : Lg) (D : Dk) : Prop where
  a : Kp [113] P i L
  b : Kp [114] P i M
  z : Sz k D
  q : Quiet D
  inv : ∃ fs, Inv L D fs
theorem Ag.append {P : Int} {i k : Nat} {L M : Lg} {D : Dk} (h : Ag P i k L M D) (s : Bs) : Ag P (i + 1) (k + 1) (apL L D s) M (apD L D s) :=
  ⟨h.a.app D s, h.b.more (Nat.le_succ _), ap_sz h.z s, quiet_ap h.q L s, by
    obtain ⟨fs, hi⟩ := h.inv
    exact hi.app h.a.good h.z.gd h.a.bare s⟩
theorem Ag.sync {P : Int} {i k : Nat} {L M : Lg} {D : Dk} (h : Ag P i k L M D) : Ag P (i + 1) (k + 1) (syL L D) M (syD L D) :=
  ⟨(h.a.sync D).more (Nat.le_succ _), h.b.more (Nat.le_succ _), sy_sz h.z, quiet_sy h.q L, by
    obtain ⟨fs, hi⟩ := h.inv
    exact ⟨fs, (hi.sync h.a.good h.z.gd).1⟩⟩
theorem Ag.drop {P : Int} {i k : Nat} {L M : Lg} {D : Dk} (h : Ag P i k L M D) (n : Int) : Ag P (i + 1) (k + 1) (drV L D n).2.1 M (drV L D n).2.2 :=
  ⟨(h.a.drop h.z.gd n).more (Nat.le_succ _), h.b.more (Nat.le_succ _), dr_sz h.a h.z n, quiet_dr h.q L n, by
    obtain ⟨fs, hi⟩ := h.inv
    exact hi.drop h.a.good h.z.gd n⟩
theorem Ag.more {P : Int} {i k i' k' : Nat} {L M : Lg} {D : Dk} (h : Ag P i k L M D) (hi : i ≤ i') (hk : k ≤ k') : Ag P i' k' L M D := ⟨h.a.more hi, h.b.more hi, h.z.more hk, h.q, h.inv⟩
/-- The other log appends. -/
theorem Ag.other {P : Int} {i k : Nat} {L M : Lg} {D : Dk} (h : Ag P i k L M D) (h1 : Kp [114] P (i - 1) M) (hi : 1 ≤ i) (s : Bs) : Ag P i (k + 1) L (apL M D s) (apD M D s) :=
  ⟨h.a, by have := h1.app D s; rwa [Nat.sub_add_cancel hi] at this, ap_sz h.z s, quiet_ap h.q M s, by
    obtain ⟨fs, hi⟩ := h.inv
    refine ⟨fs, hi.disk h.a.good fun k _ _ => ap_other h.b.good h.z.gd s _ fun j => ?_⟩
    rw [h.a.nm, h.b.nm]
    exact fn_qr k j⟩
theorem Ag.bounds {P : Int} {i k : Nat} {L M : Lg} {D : Dk} (h : Ag P i k L M D) (hi : i ≤ 50) (hk : k ≤ 102) : L.per = P ∧ M.per = P ∧ nextN L ≤ 50 ∧ nextN M ≤ 50 ∧ L.recs.length ≤ 50 ∧ M.recs.length ≤ 50 ∧ D.F.length ≤ 204 := by
  have h1 := h.a.next
  have h2 := h.b.next
  have h3 := h.a.recs
  have h4 := h.b.recs
  have h5 := h.z.len
  exact ⟨h.a.per, h.b.per, by omega, by omega, by omega, by omega, by omega⟩
set_option maxRecDepth 100000 in
set_option maxHeartbeats 16000000 in
theorem walkAgain (per : Int) (A : Option Addr) (c : Nat) (l : List Ow) (A2 : Option Addr) (c2 : Nat) (other : List Bs) (hl : l.length ≤ 4611686018427387903) (hl2 : other.length ≤ 4611686018427387903) (hw : Env w) (hL : Actw w A l) (hO : Lies w A2 (other.map sV)) :
    Calls Tryz.prog 4 #[.int .i64 per, .slice A l.length c, .slice A2 other.length c2] w fun e w' => e = .returned (.bool true) ∧ Below w.heap.size w w' := by
  have HW := Lib.hid (works_any hw)
  have HE := Lib.hid (EnvB.start hw)
  obtain ⟨P, P1, P8, hP⟩ := per_of8 per
  have HL := Lib.hid hL
  have HOt := Lib.hid hO
  clear hL hw hO
  go_enter Tryz.func4, Tryz.ntmps4
  go_upto_region 4 with (go_at_call 7; refine HW.out.mono ?_; rintro e w1 ⟨rfl, b1⟩; have B1 := Lib.hid b1; clear b1)
  rw [hP]
  clear hP
  generalize wrap64 ((IntKind.u64.wrap per).tmod 8) = g1
  generalize (IntKind.u64.wrap per).tmod 8 = g2
  generalize IntKind.u64.wrap per = g3
  have hpP : (1 : Int) ≤ (P : Int) ∧ (P : Int) ≤ 64 := by omega
  have HOp := Lib.hid (opn_new (nm := [113]) (per := (P : Int)) (by decide) (by decide) (by decide) hpP)
  have HOr := Lib.hid (opn_new (nm := [114]) (per := (P : Int)) (by decide) (by decide) (by decide) hpP)
  have HA0 : Hid (Ag (P : Int) 0 0 (lg0 [113] (P : Int)) (lg0 [114] (P : Int)) K0) := Lib.hid ⟨kp_new _ (by decide), kp_new _ (by decide), sz_new, ⟨rfl, rfl⟩, _, inv_new [113] (P : Int)⟩
  have HN := Lib.hid (Go.Proofs.YtfpmcomigolacaaGreatDoor.disk.newB w1 w.heap.size B1.out.size)
  go_upto_region 5 with (go_at_call 8; refine HN.out.mono ?_; rintro e w2 ⟨rfl, d2, b2⟩; have DK2 := Lib.hid d2; have B2 := Lib.hid (B1.out.trans b2); clear d2 b2)
  generalize w1.heap.size + 1 = gd at *
  have HO1 := Lib.hid (open_st DK2.out (HE.out.step B2.out) good_new (Nat.zero_le _) [113] (by decide) (P : Int) HOp.out rfl HA0.out.a.good good_new)
  go_upto_region 6 with (go_at_call 9; refine HO1.out.mono ?_; rintro e w3 ⟨ga, rfl, s3, -, b3⟩; have S3 : Hid (St w.heap.size gd ga (lg0 [113] (P : Int)) K0 w3) := Lib.hid s3; have B3 := Lib.hid (B2.out.trans b3); clear s3 b3)
  have HO2 := Lib.hid (pr_open S3.out (Nat.zero_le _) [114] (by decide) (P : Int) HOr.out rfl HA0.out.b.good good_new)
  go_upto_region 7 with (go_at_call 9; refine HO2.out.mono ?_; rintro e w4 ⟨gb, rfl, s4, b4⟩; have P4 : Hid (Pr w.heap.size gd ga gb (lg0 [113] (P : Int)) (lg0 [114] (P : Int)) K0 w4) := Lib.hid s4; have B4 := Lib.hid (B3.out.trans b4); clear s4 b4)
  clear HO1 HO2 HN HW B1 B2 B3 S3 DK2 HOp HOr
  generalize lg0 [113] (P : Int) = L0 at *
  generalize lg0 [114] (P : Int) = M0 at *
  generalize K0 = D0 at *
  go_upto_block 0 with fail
  go_cut [12] from 53 to 112 (fun _ wx => ∃ (L M : Lg) (D : Dk), Hid (Ag (P : Int) 50 100 L M D) ∧ Hid (Pr w.heap.size gd ga gb L M D wx) ∧ Hid (Below w.heap.size w wx))
  case first =>
    go_wp2_with fail
    go_loopw [12] (fun i wr => ∃ (j : Nat) (L M : Lg) (D : Dk), j ≤ l.length ∧ j ≤ 50 ∧ i = .int .i64 (j : Int) ∧ Hid (Ag (P : Int) j (2 * j) L M D) ∧ Hid (Pr w.heap.size gd ga gb L M D wr) ∧ Hid (Below w.heap.size w wr)) (fun i _ => l.length - (intOf i).toNat)
    case atStart => exact ⟨0, L0, M0, D0, Nat.zero_le _, Nat.zero_le _, rfl, HA0, P4, B4⟩
    case round =>
      obtain ⟨j, L, M, D, hjl, hj1, rfl, HAg, HPr, HB⟩ := hrel
      clear HA0 P4 B4
      by_cases h1 : j < l.length
      · by_cases h2 : j < 50
        · obtain ⟨o, ho⟩ : ∃ o, l[j]? = some o := ⟨_, List.getElem?_eq_getElem h1⟩
          have HLr := HL.out.below (HB.out : Below w.heap.size w wr)
          obtain ⟨b, off, hA, hb, c0, c1, c2, c3, c4⟩ := HLr.at ho
          obtain ⟨oi, -⟩ := HLr.keep ho
          subst hA
          have h1i : (j : Int) < (l.length : Int) := by omega
          have h2i : (j : Int) < 50 := by omega
          have HG := Lib.hid (greatw_any o oi wr)
          have HNO := Lib.hid (greatw_no (o := o))
          have HIm := Lib.hid oi.m
          have hz := HB.out.size
          clear HLr oi
          cases hgr : greatwB o with
          | true =>
            rw [hgr] at HG
            clear hgr HNO ho
            go_wp2_with (go_at_call 10; refine HG.out.mono ?_; rintro e w5 ⟨rfl, b5⟩; have B5 := Lib.hid (HB.out.trans (b5.mono hz)); clear b5)
            go_ret
            exact ⟨rfl, B5.out⟩
          | false =>
            rw [hgr] at HG
            obtain ⟨os, on, -⟩ := HNO.out hgr
            clear hgr HNO
            go_upto_region 14 with (go_at_call 10; refine HG.out.mono ?_; rintro e w5 ⟨rfl, b5⟩; have B5 := Lib.hid (HB.out.trans (b5.mono hz)); have P5 := Lib.hid (HPr.out.below b5); clear b5)
            clear c0 c1 c2 c3 c4 hb HG HPr HB hz
            obtain ⟨b', off', hA', hb, c0, c1, c2, c3, c4⟩ := (HL.out.below (B5.out : Below w.heap.size w w5)).at ho
            injection hA' with hA'
            injection hA' with e1 e2
            subst e1 e2
            clear ho
            obtain ⟨hpa, hpb, hna, hnb, hra, hrb, hlen⟩ := HAg.out.bounds (by omega) (by omega)
            have HKm := Lib.hid HAg.out.b
            by_cases q0 : o.k = 0
            · rw [q0] at c0
              clear q0
              have HAp := Lib.hid (pr_append P5.out (by rw [hpa]; omega) (by omega) (by omega) (by omega) o.s (by omega) (HAg.out.a.app D o.s).good (ap_sz HAg.out.z o.s).gd)
              have A6 : Hid (Ag (P : Int) (j + 1) (2 * j + 1) (apL L D o.s) M (apD L D o.s)) := Lib.hid (HAg.out.append o.s)
              clear HAg P5 hpa hpb hna hnb hra hrb hlen os HIm
              generalize apN L D o.s = an at HAp
              generalize apE L D o.s = ae at HAp
              generalize apL L D o.s = L' at HAp A6
              generalize apD L D o.s = D' at HAp A6
              go_upto_region 21 with (go_at_call 11; refine HAp.out.mono ?_; rintro e w6 ⟨rfl, s6, b6⟩; have P6 := Lib.hid s6; have B6 := Lib.hid (B5.out.trans b6); clear s6 b6)
              clear HAp B5 c0 c1 c2 c3 c4 hb
              obtain ⟨hpa, hpb, hna, hnb, hra, hrb, hlen⟩ := A6.out.bounds (by omega) (by omega)
              by_cases t1 : j < other.length
              · obtain ⟨s, hs⟩ : ∃ s, other[j]? = some s := ⟨_, List.getElem?_eq_getElem t1⟩
                obtain ⟨b2, off2, hA2, hb2, hc2⟩ := lies_at (lies_below HOt.out (B6.out : Below w.heap.size w w6)) (k := j) (x := sV s) (by rw [List.getElem?_map, hs]; rfl)
                subst hA2
                have t1i : (j : Int) < (other.length : Int) := by omega
                by_cases t2 : s.length < 1000
                · have t2i : (s.length : Int) < 1000 := by omega
                  have HBp := Lib.hid (pr_append P6.out.swap (by rw [hpb]; omega) (by omega) (by omega) (by omega) s (by omega) (HKm.out.app D' s).good (ap_sz A6.out.z s).gd)
                  have A7 : Hid (Ag (P : Int) (j + 1) (2 * (j + 1)) L' (apL M D' s) (apD M D' s)) := Lib.hid ((A6.out.other HKm.out (Nat.le_add_left 1 j) s).more (Nat.le_refl _) (by omega))
                  clear A6 P6 HKm hpa hpb hna hnb hra hrb hlen hs
                  generalize apN M D' s = an at HBp
                  generalize apE M D' s = ae at HBp
                  generalize apL M D' s = M' at HBp A7
                  generalize apD M D' s = D'' at HBp A7
                  go_wp2_with (go_at_call 11; refine HBp.out.mono ?_; rintro e w7 ⟨rfl, s7, b7⟩; have P7 := Lib.hid s7.swap; have B7 := Lib.hid (B6.out.trans b7); clear s7 b7)
                  go_roundw
                  case rel => exact ⟨j + 1, L', M', D'', by omega, by omega, by go_num, A7, P7, B7⟩
                  case measure => simp [intOf]; omega
                · have t2i : ¬ (s.length : Int) < 1000 := by omega
                  have A7 : Hid (Ag (P : Int) (j + 1) (2 * (j + 1)) L' M D') := Lib.hid (A6.out.more (Nat.le_refl _) (by omega))
                  clear A6 HKm hpa hpb hna hnb hra hrb hlen hs
                  go_wp2_with fail
                  go_roundw
                  case rel => exact ⟨j + 1, L', M, D', by omega, by omega, by go_num, A7, P6, B6⟩
                  case measure => simp [intOf]; omega
              · have t1i : ¬ (j : Int) < (other.length : Int) := by omega
                have A7 : Hid (Ag (P : Int) (j + 1) (2 * (j + 1)) L' M D') := Lib.hid (A6.out.more (Nat.le_refl _) (by omega))
                clear A6 HKm hpa hpb hna hnb hra hrb hlen
                go_wp2_with fail
                go_roundw
                case rel => exact ⟨j + 1, L', M, D', by omega, by omega, by go_num, A7, P6, B6⟩
                case measure => simp [intOf]; omega
            · have p0 : (o.k == 0) = false := by simpa using q0
              by_cases q1 : o.k = 1
              · rw [q1] at c0
                clear q0 q1 p0
                have HAp := Lib.hid (pr_sync P5.out (by omega) (by omega))
                have A6 : Hid (Ag (P : Int) (j + 1) (2 * j + 1) (syL L D) M (syD L D)) := Lib.hid (HAg.out.sync)
                clear HAg P5 hpa hpb hna hnb hra hrb hlen os HIm
                generalize syE L D = ae at HAp
                generalize syL L D = L' at HAp A6
                generalize syD L D = D' at HAp A6
                go_upto_region 21 with (go_at_call 12; refine HAp.out.mono ?_; rintro e w6 ⟨rfl, s6, b6⟩; have P6 := Lib.hid s6; have B6 := Lib.hid (B5.out.trans b6); clear s6 b6)
                clear HAp B5 c0 c1 c2 c3 c4 hb
                obtain ⟨hpa, hpb, hna, hnb, hra, hrb, hlen⟩ := A6.out.bounds (by omega) (by omega)
                by_cases t1 : j < other.length
                · obtain ⟨s, hs⟩ : ∃ s, other[j]? = some s := ⟨_, List.getElem?_eq_getElem t1⟩
                  obtain ⟨b2, off2, hA2, hb2, hc2⟩ := lies_at (lies_below HOt.out (B6.out : Below w.heap.size w w6)) (k := j) (x := sV s) (by rw [List.getElem?_map, hs]; rfl)
                  subst hA2
                  have t1i : (j : Int) < (other.length : Int) := by omega
                  by_cases t2 : s.length < 1000
                  · have t2i : (s.length : Int) < 1000 := by omega
                    have HBp := Lib.hid (pr_append P6.out.swap (by rw [hpb]; omega) (by omega) (by omega) (by omega) s (by omega) (HKm.out.app D' s).good (ap_sz A6.out.z s).gd)
                    have A7 : Hid (Ag (P : Int) (j + 1) (2 * (j + 1)) L' (apL M D' s) (apD M D' s)) := Lib.hid ((A6.out.other HKm.out (Nat.le_add_left 1 j) s).more (Nat.le_refl _) (by omega))
                    clear A6 P6 HKm hpa hpb hna hnb hra hrb hlen hs
                    generalize apN M D' s = an at HBp
                    generalize apE M D' s = ae at HBp
                    generalize apL M D' s = M' at HBp A7
                    generalize apD M D' s = D'' at HBp A7
                    go_wp2_with (go_at_call 11; refine HBp.out.mono ?_; rintro e w7 ⟨rfl, s7, b7⟩; have P7 := Lib.hid s7.swap; have B7 := Lib.hid (B6.out.trans b7); clear s7 b7)
                    go_roundw
                    case rel => exact ⟨j + 1, L', M', D'', by omega, by omega, by go_num, A7, P7, B7⟩
                    case measure => simp [intOf]; omega
                  · have t2i : ¬ (s.length : Int) < 1000 := by omega
                    have A7 : Hid (Ag (P : Int) (j + 1) (2 * (j + 1)) L' M D') := Lib.hid (A6.out.more (Nat.le_refl _) (by omega))
                    clear A6 HKm hpa hpb hna hnb hra hrb hlen hs
                    go_wp2_with fail
                    go_roundw
                    case rel => exact ⟨j + 1, L', M, D', by omega, by omega, by go_num, A7, P6, B6⟩
                    case measure => simp [intOf]; omega
                · have t1i : ¬ (j : Int) < (other.length : Int) := by omega
                  have A7 : Hid (Ag (P : Int) (j + 1) (2 * (j + 1)) L' M D') := Lib.hid (A6.out.more (Nat.le_refl _) (by omega))
                  clear A6 HKm hpa hpb hna hnb hra hrb hlen
                  go_wp2_with fail
                  go_roundw
                  case rel => exact ⟨j + 1, L', M, D', by omega, by omega, by go_num, A7, P6, B6⟩
                  case measure => simp [intOf]; omega
              · have p1 : (o.k == 1) = false := by simpa using q1
                by_cases q2 : o.k = 2
                · rw [q2] at c0
                  clear q0 q1 q2 p0 p1
                  have HAp := Lib.hid (pr_drop P5.out (by omega) (by omega) o.m (HAg.out.a.drop HAg.out.z.gd o.m).good (dr_sz HAg.out.a HAg.out.z o.m).gd)
                  have A6 : Hid (Ag (P : Int) (j + 1) (2 * j + 1) ((drV L D o.m).2.1) M ((drV L D o.m).2.2)) := Lib.hid (HAg.out.drop o.m)
                  clear HAg P5 hpa hpb hna hnb hra hrb hlen os HIm
                  generalize (drV L D o.m).1 = ae at HAp
                  generalize (drV L D o.m).2.1 = L' at HAp A6
                  generalize (drV L D o.m).2.2 = D' at HAp A6
                  go_upto_region 21 with (go_at_call 13; refine HAp.out.mono ?_; rintro e w6 ⟨rfl, s6, b6⟩; have P6 := Lib.hid s6; have B6 := Lib.hid (B5.out.trans b6); clear s6 b6)
                  clear HAp B5 c0 c1 c2 c3 c4 hb
                  obtain ⟨hpa, hpb, hna, hnb, hra, hrb, hlen⟩ := A6.out.bounds (by omega) (by omega)
                  by_cases t1 : j < other.length
                  · obtain ⟨s, hs⟩ : ∃ s, other[j]? = some s := ⟨_, List.getElem?_eq_getElem t1⟩
                    obtain ⟨b2, off2, hA2, hb2, hc2⟩ := lies_at (lies_below HOt.out (B6.out : Below w.heap.size w w6)) (k := j) (x := sV s) (by rw [List.getElem?_map, hs]; rfl)
                    subst hA2
                    have t1i : (j : Int) < (other.length : Int) := by omega
                    by_cases t2 : s.length < 1000
                    · have t2i : (s.length : Int) < 1000 := by omega
                      have HBp := Lib.hid (pr_append P6.out.swap (by rw [hpb]; omega) (by omega) (by omega) (by omega) s (by omega) (HKm.out.app D' s).good (ap_sz A6.out.z s).gd)
                      have A7 : Hid (Ag (P : Int) (j + 1) (2 * (j + 1)) L' (apL M D' s) (apD M D' s)) := Lib.hid ((A6.out.other HKm.out (Nat.le_add_left 1 j) s).more (Nat.le_refl _) (by omega))
                      clear A6 P6 HKm hpa hpb hna hnb hra hrb hlen hs
                      generalize apN M D' s = an at HBp
                      generalize apE M D' s = ae at HBp
                      generalize apL M D' s = M' at HBp A7
                      generalize apD M D' s = D'' at HBp A7
                      go_wp2_with (go_at_call 11; refine HBp.out.mono ?_; rintro e w7 ⟨rfl, s7, b7⟩; have P7 := Lib.hid s7.swap; have B7 := Lib.hid (B6.out.trans b7); clear s7 b7)
                      go_roundw
                      case rel => exact ⟨j + 1, L', M', D'', by omega, by omega, by go_num, A7, P7, B7⟩
                      case measure => simp [intOf]; omega
                    · have t2i : ¬ (s.length : Int) < 1000 := by omega
                      have A7 : Hid (Ag (P : Int) (j + 1) (2 * (j + 1)) L' M D') := Lib.hid (A6.out.more (Nat.le_refl _) (by omega))
                      clear A6 HKm hpa hpb hna hnb hra hrb hlen hs
                      go_wp2_with fail
                      go_roundw
                      case rel => exact ⟨j + 1, L', M, D', by omega, by omega, by go_num, A7, P6, B6⟩
                      case measure => simp [intOf]; omega
                  · have t1i : ¬ (j : Int) < (other.length : Int) := by omega
                    have A7 : Hid (Ag (P : Int) (j + 1) (2 * (j + 1)) L' M D') := Lib.hid (A6.out.more (Nat.le_refl _) (by omega))
                    clear A6 HKm hpa hpb hna hnb hra hrb hlen
                    go_wp2_with fail
                    go_roundw
                    case rel => exact ⟨j + 1, L', M, D', by omega, by omega, by go_num, A7, P6, B6⟩
                    case measure => simp [intOf]; omega
                · have p2 : (o.k == 2) = false := by simpa using q2
                  have A6 : Hid (Ag (P : Int) (j + 1) (2 * j + 1) L M D) := Lib.hid (HAg.out.more (Nat.le_succ _) (Nat.le_succ _))
                  clear HAg hpa hpb hna hnb hra hrb hlen os HIm q0 q1 q2
                  go_upto_region 21 with fail
                  clear c0 c1 c2 c3 c4 hb
                  obtain ⟨hpa, hpb, hna, hnb, hra, hrb, hlen⟩ := A6.out.bounds (by omega) (by omega)
                  by_cases t1 : j < other.length
                  · obtain ⟨s, hs⟩ : ∃ s, other[j]? = some s := ⟨_, List.getElem?_eq_getElem t1⟩
                    obtain ⟨b2, off2, hA2, hb2, hc2⟩ := lies_at (lies_below HOt.out (B5.out : Below w.heap.size w w5)) (k := j) (x := sV s) (by rw [List.getElem?_map, hs]; rfl)
                    subst hA2
                    have t1i : (j : Int) < (other.length : Int) := by omega
                    by_cases t2 : s.length < 1000
                    · have t2i : (s.length : Int) < 1000 := by omega
                      have HBp := Lib.hid (pr_append P5.out.swap (by rw [hpb]; omega) (by omega) (by omega) (by omega) s (by omega) (HKm.out.app D s).good (ap_sz A6.out.z s).gd)
                      have A7 : Hid (Ag (P : Int) (j + 1) (2 * (j + 1)) L (apL M D s) (apD M D s)) := Lib.hid ((A6.out.other HKm.out (Nat.le_add_left 1 j) s).more (Nat.le_refl _) (by omega))
                      clear A6 P5 HKm hpa hpb hna hnb hra hrb hlen hs
                      generalize apN M D s = an at HBp
                      generalize apE M D s = ae at HBp
                      generalize apL M D s = M' at HBp A7
                      generalize apD M D s = D2 at HBp A7
                      go_wp2_with (go_at_call 11; refine HBp.out.mono ?_; rintro e w7 ⟨rfl, s7, b7⟩; have P7 := Lib.hid s7.swap; have B7 := Lib.hid (B5.out.trans b7); clear s7 b7)
                      go_roundw
                      case rel => exact ⟨j + 1, L, M', D2, by omega, by omega, by go_num, A7, P7, B7⟩
                      case measure => simp [intOf]; omega
                    · have t2i : ¬ (s.length : Int) < 1000 := by omega
                      have A7 : Hid (Ag (P : Int) (j + 1) (2 * (j + 1)) L M D) := Lib.hid (A6.out.more (Nat.le_refl _) (by omega))
                      clear A6 HKm hpa hpb hna hnb hra hrb hlen hs
                      go_wp2_with fail
                      go_roundw
                      case rel => exact ⟨j + 1, L, M, D, by omega, by omega, by go_num, A7, P5, B5⟩
                      case measure => simp [intOf]; omega
                  · have t1i : ¬ (j : Int) < (other.length : Int) := by omega
                    have A7 : Hid (Ag (P : Int) (j + 1) (2 * (j + 1)) L M D) := Lib.hid (A6.out.more (Nat.le_refl _) (by omega))
                    clear A6 HKm hpa hpb hna hnb hra hrb hlen
                    go_wp2_with fail
                    go_roundw
                    case rel => exact ⟨j + 1, L, M, D, by omega, by omega, by go_num, A7, P5, B5⟩
                    case measure => simp [intOf]; omega
        · have h2i : ¬ (j : Int) < 50 := by omega
          have h1i : (j : Int) < (l.length : Int) := by omega
          have hj : j = 50 := by omega
          subst hj
          go_wp2_with fail
          go_meet
          case rel => exact ⟨L, M, D, HAg, HPr, HB⟩
      · have h1i : ¬ (j : Int) < (l.length : Int) := by omega
        have A2 : Hid (Ag (P : Int) 50 100 L M D) := Lib.hid (HAg.out.more hj1 (by omega))
        go_wp2_with fail
        go_meet
        case rel => exact ⟨L, M, D, A2, HPr, HB⟩
  case rest =>
    obtain ⟨L, M0, D, HAg, HPr, HB⟩ := hcut
    clear HA0 P4 B4 HL HOt
    have HLo := Lib.hid HPr.out.st.lat
    have hnx := HAg.out.a.next
    have hlen : D.F.length ≤ 200 := by have := HAg.out.z.len; omega
    obtain ⟨fs, hinv⟩ := HAg.out.inv
    have HX := anew hinv HAg.out.a.good (by omega) (cut_same HAg.out.q HAg.out.z.gd) HAg.out.z.gd (by rw [HAg.out.a.nm]; decide) (by rw [HAg.out.a.nm]; decide) (by rw [HAg.out.a.per]; omega)
    rw [HAg.out.a.nm, HAg.out.a.per] at HX
    obtain ⟨gs, X, hX, hA⟩ := HX
    obtain ⟨hh, hr⟩ := hA.whole fun k f _ _ hf => ⟨f.l, by
      obtain ⟨-, e⟩ := lk_some hf
      rw [hf, ← e]⟩
    have hG := HAg.out.a.good
    have HO := Lib.hid (open_st HPr.out.disk (HE.out.step HB.out) HAg.out.z.gd (by omega) [113] (by decide) (P : Int) hX hA.ok hA.run.good hA.run.gd)
    go_upto_region 24 with (go_at_call 9; refine HO.out.mono ?_; rintro e w6 ⟨gc, rfl, s6, t6, b6⟩; have LC6 := Lib.hid s6.lat; have LA6 := Lib.hid (HLo.out.wt t6); have B6 := Lib.hid (HB.out.trans b6); clear s6 t6 b6)
    have hb0 := hG.base
    have hbn := base_le hG
    have eb : baseN X.2.1 = baseN L := by unfold baseN; rw [hh]
    have en : nextN X.2.1 = nextN L := by unfold nextN; rw [eb, hr]
    have eg : ∀ i, gtE X.2.1 i = gtE L i ∧ gtV X.2.1 i = gtV L i := fun i => by
      unfold gtE gtV
      rw [eb, en, hr]
      exact ⟨rfl, rfl⟩
    have es := hA.syn
    have hgX := hA.run.good
    have eL : ∀ i, baseN L ≤ i → i < nextN L → gtE L i = 0 := fun i i0 i1 => by
      unfold gtE
      rw [if_neg (by omega)]
    have HNa : Hid (∀ w1, Lat w1 ga gd L → Calls Tryz.prog 16 #[.pointer (some ⟨ga, 0, none⟩)] w1 fun e w' => e = .returned (.int .i64 (nextN L)) ∧ Below w1.heap.size w1 w') := Lib.hid fun w1 h => lat_next h hG (by omega)
    have HNc : Hid (∀ w1, Lat w1 gc gd X.2.1 → Calls Tryz.prog 16 #[.pointer (some ⟨gc, 0, none⟩)] w1 fun e w' => e = .returned (.int .i64 (nextN L)) ∧ Below w1.heap.size w1 w') := Lib.hid fun w1 h => by
      have := lat_next h hgX (by omega)
      rwa [en] at this
    have HBa : Hid (∀ w1, Lat w1 ga gd L → Calls Tryz.prog 19 #[.pointer (some ⟨ga, 0, none⟩)] w1 fun e w' => e = .returned (.int .i64 (baseN L)) ∧ Below w1.heap.size w1 w') := Lib.hid fun w1 h => lat_base h
    have HBc : Hid (∀ w1, Lat w1 gc gd X.2.1 → Calls Tryz.prog 19 #[.pointer (some ⟨gc, 0, none⟩)] w1 fun e w' => e = .returned (.int .i64 (baseN L)) ∧ Below w1.heap.size w1 w') := Lib.hid fun w1 h => by
      have := lat_base h
      rwa [eb] at this
    have HFa : Hid (∀ w1, Lat w1 ga gd L → Calls Tryz.prog 18 #[.pointer (some ⟨ga, 0, none⟩)] w1 fun e w' => e = .returned (.int .i64 (L.heads.length : Int)) ∧ Below w1.heap.size w1 w') := Lib.hid fun w1 h => lat_files h
    have HFc : Hid (∀ w1, Lat w1 gc gd X.2.1 → Calls Tryz.prog 18 #[.pointer (some ⟨gc, 0, none⟩)] w1 fun e w' => e = .returned (.int .i64 (L.heads.length : Int)) ∧ Below w1.heap.size w1 w') := Lib.hid fun w1 h => by
      have := lat_files h
      rwa [hh] at this
    have HSc : Hid (∀ w1, Lat w1 gc gd X.2.1 → Calls Tryz.prog 17 #[.pointer (some ⟨gc, 0, none⟩)] w1 fun e w' => e = .returned (.int .i64 (nextN L)) ∧ Below w1.heap.size w1 w') := Lib.hid fun w1 h => by
      have := lat_synced h
      rwa [es, en] at this
    have HGa : Hid (∀ w1 i, Lat w1 ga gd L → baseN L ≤ i → i < nextN L → Calls Tryz.prog 20 #[.pointer (some ⟨ga, 0, none⟩), .int .i64 i] w1 fun e w' => e = .returned (.tuple #[sV (gtV L i), .int .i64 0]) ∧ Below w1.heap.size w1 w') := Lib.hid fun w1 i h i0 i1 => by
      have := lat_get h hG (by omega) i (by omega) (by omega)
      rwa [eL i i0 i1] at this
    have HGc : Hid (∀ w1 i, Lat w1 gc gd X.2.1 → baseN L ≤ i → i < nextN L → Calls Tryz.prog 20 #[.pointer (some ⟨gc, 0, none⟩), .int .i64 i] w1 fun e w' => e = .returned (.tuple #[sV (gtV L i), .int .i64 0]) ∧ Below w1.heap.size w1 w') := Lib.hid fun w1 i h i0 i1 => by
      have := lat_get h hgX (by omega) i (by omega) (by omega)
      rwa [(eg i).1, (eg i).2, eL i i0 i1] at this
    clear HO HLo HAg HPr HB hinv hA hX hG hgX hh hr eb en es eg eL hlen HE
    generalize X.2.1 = M at *
    obtain ⟨gv, hgv⟩ : ∃ gv : Int → Bs, gv = gtV L := ⟨_, rfl⟩
    rw [← hgv] at HGa HGc
    clear hgv
    generalize L.heads.length = fl at *
    generalize baseN L = bb at *
    generalize nextN L = nb at *
    have step : ∀ {w1 w2 : World}, Lat w1 gc gd M ∧ Lat w1 ga gd L ∧ Below w.heap.size w w1 → Below w1.heap.size w1 w2 → Lat w2 gc gd M ∧ Lat w2 ga gd L ∧ Below w.heap.size w w2 := fun ⟨h1, h2, h4⟩ hb => ⟨h1.below hb, h2.below hb, then_below h4 hb⟩
    have ALL := Lib.hid (show Lat w6 gc gd M ∧ Lat w6 ga gd L ∧ Below w.heap.size w w6 from ⟨LC6.out, LA6.out, B6.out⟩)
    clear LC6 LA6 B6
    go_wp2_with (first
      | (go_at_call 19; (with_reducible refine (HBc.out _ ALL.out.1).mono ?_); rintro e w7 ⟨rfl, b⟩; replace ALL := Lib.hid (step ALL.out b); clear b)
      | (go_at_call 19; (with_reducible refine (HBa.out _ ALL.out.2.1).mono ?_); rintro e w7 ⟨rfl, b⟩; replace ALL := Lib.hid (step ALL.out b); clear b)
      | (go_at_call 16; (with_reducible refine (HNc.out _ ALL.out.1).mono ?_); rintro e w7 ⟨rfl, b⟩; replace ALL := Lib.hid (step ALL.out b); clear b)
      | (go_at_call 16; (with_reducible refine (HNa.out _ ALL.out.2.1).mono ?_); rintro e w7 ⟨rfl, b⟩; replace ALL := Lib.hid (step ALL.out b); clear b)
      | (go_at_call 18; (with_reducible refine (HFc.out _ ALL.out.1).mono ?_); rintro e w7 ⟨rfl, b⟩; replace ALL := Lib.hid (step ALL.out b); clear b)
      | (go_at_call 18; (with_reducible refine (HFa.out _ ALL.out.2.1).mono ?_); rintro e w7 ⟨rfl, b⟩; replace ALL := Lib.hid (step ALL.out b); clear b)
      | (go_at_call 17; (with_reducible refine (HSc.out _ ALL.out.1).mono ?_); rintro e w7 ⟨rfl, b⟩; replace ALL := Lib.hid (step ALL.out b); clear b))
    clear HFa HFc HSc HBa HBc
    go_loopw [14] (fun i wr => ∃ iv : Int, bb ≤ iv ∧ iv ≤ nb ∧ i = .int .i64 iv ∧ Hid (Lat wr gc gd M ∧ Lat wr ga gd L ∧ Below w.heap.size w wr)) (fun i _ => (nb - intOf i).toNat)
    case atStart => exact ⟨bb, Int.le_refl _, hbn, rfl, ALL⟩
    case round =>
      clear ALL
      obtain ⟨iv, hi0, hi1, rfl, ALL⟩ := hrel
      by_cases h1 : iv < nb
      · have hss : ((⟨(gv iv).toArray⟩ : ByteArray) != ⟨(gv iv).toArray⟩) = false := by
          have e : ((⟨(gv iv).toArray⟩ : ByteArray) == ⟨(gv iv).toArray⟩) = true := by first | (show ((gv iv).toArray == (gv iv).toArray) = true; simp) | exact beq_self_eq_true _
          rw [bne, e]; rfl
        have hwi : wrap64 (iv + 1) = iv + 1 := by unfold wrap64; omega
        go_wp2_with (first
          | (go_at_call 16; (with_reducible refine (HNa.out _ ALL.out.2.1).mono ?_); rintro e w8 ⟨rfl, b⟩; replace ALL := Lib.hid (step ALL.out b); clear b)
          | (go_at_call 20; (with_reducible refine (HGa.out _ iv ALL.out.2.1 hi0 h1).mono ?_); rintro e w9 ⟨rfl, b⟩; replace ALL := Lib.hid (step ALL.out b); clear b)
          | (go_at_call 20; (with_reducible refine (HGc.out _ iv ALL.out.1 hi0 h1).mono ?_); rintro e w9 ⟨rfl, b⟩; replace ALL := Lib.hid (step ALL.out b); clear b))
        go_roundw
        case rel => exact ⟨iv + 1, by omega, by omega, by first | rfl | go_num, ALL⟩
        case measure => simp [intOf]; omega
      · have h1e : iv = nb := by omega
        clear HGa HGc
        go_wp2_with (first
          | (go_at_call 16; (with_reducible refine (HNa.out _ ALL.out.2.1).mono ?_); rintro e w8 ⟨rfl, b⟩; replace ALL := Lib.hid (step ALL.out b); clear b))
        go_ret
        exact ⟨rfl, ALL.out.2.2⟩
end
end Go.Proofs.YtfpmcomigolacaaGreatDoor.wal
