/-
  The walk of WalNumbers.
  The frame of the cards: a law whose arguments are only read; rows of texts.
-/
import Derived.Test.YtcogehhjofgbiaaGreatDoorJUw25
import Derived.Test.YtcogehhjofgbiaaGreatDoorJUw27
import Derived.Test.YtcogehhjofgbiaaGreatDoorRows
import Derived.Test.YtcogehhjofgbiaaGreatDoorJOpen
import Derived.ProofKit
import Derived.OpenShut
import Derived.LaidMore
import Derived.Lay
import Derived.Stop.Joined
import Derived.Stop.LaidErr
import Derived.Shelf.Vars
import Derived.Handed
set_option linter.unusedSimpArgs false
set_option linter.unusedVariables false
namespace Go.Proofs.YtcogehhjofgbiaaGreatDoor.wal
open Go.ChangeShapes Go.WideShapes Go.ChangeAt Go.RowKit Go.Maps Go.WideMaps
open Go.Proofs.YtcogehhjofgbiaaGreatDoor.opened Go.Proofs.YtcogehhjofgbiaaGreatDoor.block Go.Proofs.YtcogehhjofgbiaaGreatDoor.words Go.Proofs.YtcogehhjofgbiaaGreatDoor.disk Go.Proofs.YtcogehhjofgbiaaGreatDoor.tailed Go.Proofs.YtcogehhjofgbiaaGreatDoor.enc Go.Proofs.YtcogehhjofgbiaaGreatDoor.code
section
variable {w : World}
theorem per_of (per : Int) (p0 : -9223372036854775808 ≤ per) (p1 : per ≤ 9223372036854775807) : ∃ P : Nat, 1 ≤ P ∧ P ≤ 64 ∧ wrap64 (1 + wrap64 ((IntKind.u64.wrap per).tmod 64)) = (P : Int) := by
  have h0 : 0 ≤ IntKind.u64.wrap per := by
    show 0 ≤ per % 18446744073709551616
    omega
  have h1 : (IntKind.u64.wrap per).tmod 64 = IntKind.u64.wrap per % 64 := Int.tmod_eq_emod_of_nonneg h0
  rw [h1]
  generalize IntKind.u64.wrap per = x at h0
  refine ⟨(1 + x % 64).toNat, by omega, by omega, ?_⟩
  rw [IntWalk.wrap64_in (x % 64) (by omega), IntWalk.wrap64_in _ (by omega)]
  omega
theorem run_len {D : Dk} {P : Nat} {L : Lg} {l : List Bs} {j : Nat} (h : Num P (l.take j) L) (hj : j ≤ l.length) : L.recs.length = j ∧ nextN L = (j : Int) := by
  have hl : (l.take j).length = j := by simp; omega
  obtain ⟨-, h2, -⟩ := h.next
  rw [hl] at h2
  exact ⟨by rw [h.recs, hl], h2⟩
set_option maxRecDepth 100000 in
set_option maxHeartbeats 4000000 in
theorem walkN (per : Int) (A : Option Addr) (c : Nat) (l : List Bs) (n : Int) (p0 : -9223372036854775808 ≤ per) (p1 : per ≤ 9223372036854775807) (n0 : -9223372036854775808 ≤ n) (n1 : n ≤ 9223372036854775807) (hl : l.length ≤ 4611686018427387903) (hw : Env w) (hL : Lies w A (l.map sV)) :
    Calls Tryz.prog 4 #[.int .i64 per, .slice A l.length c, .int .i64 n] w fun e w' => e = .returned (.bool true) ∧ Below w.heap.size w w' := by
  have HW := Lib.hid (works_any hw)
  have HE := Lib.hid (EnvB.start hw)
  obtain ⟨P, P1, P64, hP⟩ := per_of per p0 p1
  have HL := Lib.hid hL
  clear hL hw
  go_enter Tryz.func4, Tryz.ntmps4
  go_upto_region 4 with (go_at_call 8; refine HW.out.mono ?_; rintro e w1 ⟨rfl, b1⟩; have B1 := Lib.hid b1; clear b1)
  rw [hP]
  clear hP
  generalize wrap64 ((IntKind.u64.wrap per).tmod 64) = g1
  generalize (IntKind.u64.wrap per).tmod 64 = g2
  generalize IntKind.u64.wrap per = g3
  have hpP : (1 : Int) ≤ (P : Int) ∧ (P : Int) ≤ 64 := by omega
  obtain ⟨r1, r2, r3⟩ := run_new (P : Int) hpP
  rw [show ((P : Int)).toNat = P by omega] at r2
  have HRun := Lib.hid r1
  have HNum := Lib.hid r2
  have HOp := Lib.hid r3
  clear r1 r2 r3
  have HN := Lib.hid (Go.Proofs.YtcogehhjofgbiaaGreatDoor.disk.newB w1 w.heap.size B1.out.size)
  go_upto_region 5 with (go_at_call 9; refine HN.out.mono ?_; rintro e w2 ⟨rfl, d2, b2⟩; have DK2 := Lib.hid d2; have B2 := Lib.hid (B1.out.trans b2); clear d2 b2)
  generalize w1.heap.size + 1 = gd at *
  have HO1 := Lib.hid (open_st DK2.out (HE.out.step B2.out) good_new (Nat.zero_le _) [113] (by decide) (P : Int) HOp.out rfl HRun.out.good good_new)
  go_upto_region 6 with (go_at_call 10; refine HO1.out.mono ?_; rintro e w3 ⟨ga, rfl, s3, -, b3⟩; have S3 : Hid (St w.heap.size gd ga (lg0 [113] (P : Int)) K0 w3) := Lib.hid s3; have B3 := Lib.hid (B2.out.trans b3); clear s3 b3)
  clear HO1 HN HW B1 B2 DK2 HOp
  have hK0 : used K0.F = 0 ∧ K0.F.length = 0 := ⟨rfl, rfl⟩
  generalize lg0 [113] (P : Int) = L0 at *
  generalize K0 = D0 at *
  go_upto_block 0 with fail
  have HCell : Hid (∀ (wr : World) (j : Nat) (s : Bs), Below w.heap.size w wr → l[j]? = some s → ∃ b off, A = some ⟨b, off, none⟩ ∧ wr.cell? ⟨b, off + j, none⟩ = some (sV s)) := Lib.hid fun wr j s hb hs => by
    obtain ⟨b, off, e1, e2, e3⟩ := lies_at HL.out (k := j) (x := sV s) (by rw [List.getElem?_map, hs]; rfl)
    exact ⟨b, off, e1, (hb.cell (p := ⟨b, off + j, none⟩) e2).trans e3⟩
  go_cut [10] from 38 to 85 (fun _ wx => ∃ (L : Lg) (D : Dk), Hid (Num P (l.take 100) L) ∧ Hid (Run L D) ∧ D.F.length ≤ 200 ∧ Hid (St w.heap.size gd ga L D wx) ∧ Hid (Below w.heap.size w wx))
  case first =>
    go_wp2_with fail
    go_loopw [10] (fun i wr => ∃ (j : Nat) (L : Lg) (D : Dk), j ≤ l.length ∧ j ≤ 100 ∧ i = .int .i64 (j : Int) ∧ Hid (Num P (l.take j) L) ∧ Hid (Run L D) ∧ used D.F ≤ j * 1038 ∧ D.F.length ≤ 2 * j ∧ Hid (St w.heap.size gd ga L D wr) ∧ Hid (Below w.heap.size w wr)) (fun i _ => l.length - (intOf i).toNat)
    case atStart => exact ⟨0, L0, D0, Nat.zero_le _, Nat.zero_le _, rfl, Lib.hid (by rw [List.take_zero]; exact HNum.out), HRun, by omega, by omega, S3, B3⟩
    case round =>
      obtain ⟨j, L, D, hjl, hj1, rfl, HNu, HRu, hu, hF, HS, HB⟩ := hrel
      by_cases h1 : j < l.length
      · by_cases h2 : j < 100
        · obtain ⟨s, hs⟩ : ∃ s, l[j]? = some s := ⟨_, List.getElem?_eq_getElem h1⟩
          obtain ⟨b, off, rfl, hcs⟩ := HCell.out wr j s HB.out hs
          have h2i : (j : Int) < 100 := by omega
          have h1i : (j : Int) < (l.length : Int) := by omega
          by_cases h3 : s.length ≤ 1000
          · have h3i : ¬ ((s.length : Int) > 1000) := by omega
            have hlt : (l.take j).length = j := by simp; omega
            obtain ⟨e1, e2, e3, e4, e5, e6, e7, e8⟩ := HNu.out.app P1 HRu.out (s := s) (by omega) (by omega) (by omega)
            rw [hlt] at e2 e8
            have htk : l.take (j + 1) = l.take j ++ [s] := by rw [List.take_add_one, hs]; rfl
            rw [← htk] at e4
            obtain ⟨q1, q2⟩ := run_len (D := D) HNu.out (by omega)
            obtain ⟨q3, q4⟩ := run_len (D := D) e4 (by omega)
            have hper : L.per = (P : Int) := HNu.out.per
            have HA := Lib.hid (st_append HS.out (by rw [hper]; omega) (by rw [q2]; omega) (by rw [q1]; omega) (by omega) s (by omega) e3.good e3.gd)
            rw [e1, e2] at HA
            have HNu2 := Lib.hid e4
            have HRu2 := Lib.hid e3
            have HF2 := Lib.hid e8
            have hu2 : used (apD L D s).F ≤ (j + 1) * 1038 := by omega
            have hF2 : (apD L D s).F.length ≤ 2 * (j + 1) := by omega
            have hq4 : Hid (nextN (apL L D s) = (j : Int) + 1) := Lib.hid (by rw [q4]; omega)
            clear e1 e2 e3 e4 e5 e6 e7 e8 htk hs q1 q2 q3 q4 hu hF hlt hper HNu HRu
            generalize apL L D s = L' at HA HNu2 HRu2 HF2 hq4
            generalize apD L D s = D' at HA HRu2 hu2 hF2
            go_upto_region 14 with (go_at_call 12; refine HA.out.mono ?_; rintro e w5 ⟨rfl, s5, b5⟩; have S5 := Lib.hid s5; have B5 := Lib.hid (HB.out.trans b5); clear s5 b5)
            have hdv : (((j / P + 1 : Nat) : Int)) = (j : Int).tdiv (P : Int) + 1 := by
              rw [Int.natCast_add, Int.natCast_ediv, Int.tdiv_eq_ediv_of_nonneg (by omega)]
              rfl
            have hd0 : 0 ≤ (j : Int).tdiv (P : Int) ∧ (j : Int).tdiv (P : Int) ≤ 100 := by
              rw [Int.tdiv_eq_ediv_of_nonneg (by omega)]
              have := Int.ediv_nonneg (a := (j : Int)) (b := (P : Int)) (by omega) (by omega)
              have := Int.ediv_le_self (P : Int) (a := (j : Int)) (by omega)
              omega
            have hd2 : 0 ≤ (j : Int) / (P : Int) ∧ (j : Int) / (P : Int) ≤ 100 := by
              rw [Int.tdiv_eq_ediv_of_nonneg (by omega)] at hd0
              exact hd0
            have hf8 := HF2.out
            rw [hdv] at hf8
            have HFv := Lib.hid hf8
            have HNx : Hid (∀ w1, Below w5.heap.size w5 w1 → Calls Tryz.prog 17 #[.pointer (some ⟨ga, 0, none⟩)] w1 fun e w' => e = .returned (.int .i64 ((j : Int) + 1)) ∧ Below w1.heap.size w1 w') := Lib.hid fun w1 b => by
              have := st_next (S5.out.below b) (by rw [hq4.out]; omega)
              rwa [hq4.out] at this
            have HFs : Hid (∀ w1, Below w5.heap.size w5 w1 → Calls Tryz.prog 19 #[.pointer (some ⟨ga, 0, none⟩)] w1 fun e w' => e = .returned (.int .i64 ((j : Int).tdiv (P : Int) + 1)) ∧ Below w1.heap.size w1 w') := Lib.hid fun w1 b => by
              have := st_files (S5.out.below b)
              rwa [HFv.out] at this
            clear hf8 hdv HA
            refine region_since w5 (by kernel_rfl) (by kernel_rfl) (Below.refl _ _) ?_
            repeat (go_big_quiet_step ((first
              | (go_at_call 17; with_reducible exact since_callW HNx.out _)
              | (go_at_call 19; with_reducible exact since_callW HFs.out _))))
            refine wpQuiet_nil ?_
            rintro w7 ⟨z, rfl⟩
            have S6 := Lib.hid (S5.out.below z.2)
            have B6 := Lib.hid (then_below B5.out z.2)
            obtain ⟨w6, hw6⟩ : ∃ w6, w6 = z.1 := ⟨_, rfl⟩
            rw [← hw6] at S6 B6 ⊢
            clear hw6 z HNx HFs HFv
            go_wp2_with fail
            go_roundw
            case rel => exact ⟨j + 1, L', D', by omega, by omega, by go_num, HNu2, HRu2, hu2, by omega, S6, B6⟩
            case measure => simp [intOf]; omega
          · have h3i : (s.length : Int) > 1000 := by omega
            clear hs
            go_wp2_with fail
            go_ret
            exact ⟨rfl, HB.out⟩
        · have h2i : ¬ (j : Int) < 100 := by omega
          have h1i : (j : Int) < (l.length : Int) := by omega
          have hj : j = 100 := by omega
          subst hj
          go_wp2_with fail
          go_meet
          case rel => exact ⟨L, D, HNu, HRu, by omega, HS, HB⟩
      · have h1i : ¬ (j : Int) < (l.length : Int) := by omega
        have HNu2 : Hid (Num P (l.take 100) L) := Lib.hid (by
          have e : l.take 100 = l.take j := by rw [List.take_of_length_le (by omega), List.take_of_length_le (by omega)]
          rw [e]
          exact HNu.out)
        go_wp2_with fail
        go_meet
        case rel => exact ⟨L, D, HNu2, HRu, by omega, HS, HB⟩
  case rest =>
    obtain ⟨L, D, HNu, HRu, hF, HS, HB⟩ := hcut
    have hm0 : (l.take 100).length = min l.length 100 := by simp; omega
    obtain ⟨m, hm⟩ : ∃ m, m = min l.length 100 := ⟨_, rfl⟩
    rw [← hm] at hm0
    have hml : m ≤ l.length ∧ m ≤ 100 := by omega
    obtain ⟨x1, x2, x3⟩ := HNu.out.next
    rw [hm0] at x2
    obtain ⟨y1, y2, y3, y4⟩ := HRu.out.sy
    have hr : L.recs.length = m := by rw [HNu.out.recs, hm0]
    have HSy := Lib.hid (st_sync HS.out (by rw [x2]; omega) (by omega))
    rw [y1, y4] at HSy
    have HF2 := (good_syD HRu.out.gd L).2
    have hNS : Num P (l.take 100) { L with syn := nextN L } := ⟨HNu.out.per, HNu.out.least, HNu.out.torn, HNu.out.recs, HNu.out.heads⟩
    rw [y4] at y2
    have hxs : nextN { L with syn := nextN L } = (m : Int) := x2
    have hsyn : ({ L with syn := nextN L } : Lg).syn = (m : Int) := x2
    generalize ({ L with syn := nextN L } : Lg) = LS at HSy y2 hNS hxs hsyn
    have hFS : (syD L D).F.length ≤ 201 := by omega
    generalize syD L D = DS at HSy y2 hFS
    obtain ⟨d1, f1, d2, d3⟩ := run_drV (n := n) y2 hNS
    have hgd := good_drV (n := n) y2.good y2.bare y2.gd
    have HDrp := Lib.hid d3
    have HRd := Lib.hid d2
    have HYS := Lib.hid y2
    have HDr : Hid (∀ w1, St w.heap.size gd ga LS DS w1 → Calls Tryz.prog 14 #[.pointer (some ⟨ga, 0, none⟩), .int .i64 n] w1 fun e w' => e = .returned (.int .i64 0) ∧ St w.heap.size gd ga (drV LS DS n).2.1 (drV LS DS n).2.2 w' ∧ Below w.heap.size w1 w') := Lib.hid fun w1 hst => by
      have := st_drop hst (by rw [hxs]; omega) (by omega) n d2.good d2.gd
      rwa [d1] at this
    have HSn : Hid (∀ w1, St w.heap.size gd ga LS DS w1 → Calls Tryz.prog 18 #[.pointer (some ⟨ga, 0, none⟩)] w1 fun e w' => e = .returned (.int .i64 (m : Int)) ∧ Below w1.heap.size w1 w') := Lib.hid fun w1 hst => by
      have := st_synced hst
      rwa [hsyn] at this
    have HNx : Hid (∀ w1, St w.heap.size gd ga LS DS w1 → Calls Tryz.prog 17 #[.pointer (some ⟨ga, 0, none⟩)] w1 fun e w' => e = .returned (.int .i64 (m : Int)) ∧ Below w1.heap.size w1 w') := Lib.hid fun w1 hst => by
      have := st_next hst (by rw [hxs]; omega)
      rwa [hxs] at this
    clear x1 x2 x3 y1 y2 y3 y4 hr HF2 hNS hxs hsyn d1 d2 d3 hgd hm0 HNu HRu HNum HRun S3 B3 HE
    generalize (drV LS DS n).2.1 = L3 at HDr HDrp HRd
    generalize (drV LS DS n).2.2 = D3 at HDr HRd
    go_upto_region 18 with (first
      | (go_at_call 13; refine HSy.out.mono ?_; rintro e w5 ⟨rfl, s5, b5⟩; have S5 := Lib.hid s5; have B5 := Lib.hid (HB.out.trans b5); clear s5 b5)
      | (go_at_call 18; refine (HSn.out _ S5.out).mono ?_; rintro e w6 ⟨rfl, b⟩; have S6 := Lib.hid (S5.out.below b); have B6 := Lib.hid (then_below B5.out b); clear b)
      | (go_at_call 17; refine (HNx.out _ S6.out).mono ?_; rintro e w7 ⟨rfl, b⟩; have S7 := Lib.hid (S6.out.below b); have B7 := Lib.hid (then_below B6.out b); clear b)
      | (go_at_call 14; refine (HDr.out _ S7.out).mono ?_; rintro e w8 ⟨rfl, s8, b8⟩; have S8 := Lib.hid s8; have B8 := Lib.hid (B7.out.trans b8); clear s8 b8))
    have hDb := HDrp.out.base
    obtain ⟨q1, q2⟩ := hDb
    have hlt : (l.take 100).length = m := by rw [List.length_take]; omega
    rw [hlt] at q2
    have hle := HDrp.out.le
    have hro := HDrp.out.room
    rw [hlt] at hro
    have HBs : Hid (∀ w1, St w.heap.size gd ga L3 D3 w1 → Calls Tryz.prog 20 #[.pointer (some ⟨ga, 0, none⟩)] w1 fun e w' => e = .returned (.int .i64 ((f1 * P : Nat) : Int)) ∧ Below w1.heap.size w1 w') := Lib.hid fun w1 hst => by
      have := st_base hst
      rwa [q1] at this
    have HN3 : Hid (∀ w1, St w.heap.size gd ga L3 D3 w1 → Calls Tryz.prog 17 #[.pointer (some ⟨ga, 0, none⟩)] w1 fun e w' => e = .returned (.int .i64 (m : Int)) ∧ Below w1.heap.size w1 w') := Lib.hid fun w1 hst => by
      have := st_next hst (by rw [q2]; omega)
      rwa [q2] at this
    have HGt : Hid (∀ w1, St w.heap.size gd ga L3 D3 w1 → ∀ (i : Nat) (s : Bs), f1 * P ≤ i → i < m → l[i]? = some s → Calls Tryz.prog 21 #[.pointer (some ⟨ga, 0, none⟩), .int .i64 (i : Int)] w1 fun e w' => e = .returned (.tuple #[sV s, .int .i64 0]) ∧ Below w1.heap.size w1 w') := Lib.hid fun w1 hst i s hi him hs => by
      obtain ⟨g1, g2⟩ := HDrp.out.get hi (s := s) (by rw [List.getElem?_take_of_lt (by omega)]; exact hs)
      have := st_get hst (by rw [q2]; omega) (i : Int) (by omega) (by omega)
      rwa [g1, g2] at this
    have HGe : Hid (∀ w1, St w.heap.size gd ga L3 D3 w1 → Calls Tryz.prog 21 #[.pointer (some ⟨ga, 0, none⟩), .int .i64 (((f1 * P : Nat) : Int) - 1)] w1 fun e w' => e = .returned (.tuple #[sV (gtV L3 (((f1 * P : Nat) : Int) - 1)), .int .i64 1]) ∧ Below w1.heap.size w1 w') := Lib.hid fun w1 hst => by
      have := st_get hst (by rw [q2]; omega) (((f1 * P : Nat) : Int) - 1) (by omega) (by omega)
      have he : gtE L3 (((f1 * P : Nat) : Int) - 1) = 1 := by unfold gtE; rw [if_pos (.inl (by rw [q1]; omega))]
      rwa [he] at this
    have hmod : (((f1 * P : Nat) : Int)).tmod (P : Int) = 0 := by
      rw [Int.natCast_mul]
      exact Int.mul_tmod_left _ _
    have hmod2 : (((f1 * P : Nat) : Int)) % (P : Int) = 0 := by
      rw [Int.natCast_mul]
      exact Int.mul_emod_left _ _
    clear hlt HSn HNx HDr HSy HDrp HRd HYS q1 q2 HS S5 S6 S7
    have hmi : min (l.length : Int) 100 = (m : Int) := by omega
    generalize f1 * P = bs at *
    have hbs : (bs : Int) ≤ 100 := by omega
    clear hm
    go_wp2_with (first
      | (go_at_call 17; refine (HN3.out _ S8.out).mono ?_; rintro e w9 ⟨rfl, b⟩; have S9 := Lib.hid (S8.out.below b); have B9 := Lib.hid (then_below B8.out b); clear b)
      | (go_at_call 20; refine (HBs.out _ S9.out).mono ?_; rintro e w10 ⟨rfl, b⟩; replace S9 := Lib.hid (S9.out.below b); replace B9 := Lib.hid (then_below B9.out b); clear b))
    go_loopw [13] (fun i wr => ∃ j : Nat, bs ≤ j ∧ j ≤ m ∧ i = .int .i64 (j : Int) ∧ Hid (St w.heap.size gd ga L3 D3 wr) ∧ Hid (Below w.heap.size w wr)) (fun i _ => m - (intOf i).toNat)
    case atStart => exact ⟨bs, Nat.le_refl _, by omega, rfl, S9, B9⟩
    case round =>
      obtain ⟨j, hj0, hj1, rfl, HS9, HB9⟩ := hrel
      by_cases h1 : j < m
      · obtain ⟨s, hs⟩ : ∃ s, l[j]? = some s := ⟨_, List.getElem?_eq_getElem (by omega)⟩
        have HGj : Hid (∀ w1, St w.heap.size gd ga L3 D3 w1 → Calls Tryz.prog 21 #[.pointer (some ⟨ga, 0, none⟩), .int .i64 (j : Int)] w1 fun e w' => e = .returned (.tuple #[sV s, .int .i64 0]) ∧ Below w1.heap.size w1 w') := Lib.hid fun w1 hst => HGt.out w1 hst j s hj0 h1 hs
        have HCs := Lib.hid (fun wr hb => HCell.out wr j s hb hs)
        obtain ⟨b0, off, rfl, -⟩ := HCs.out wr HB9.out
        have HC2 : Hid (∀ wr, Below w.heap.size w wr → wr.cell? ⟨b0, off + j, none⟩ = some (sV s)) := Lib.hid fun wr hb => by
          obtain ⟨b1, off1, e1, e2⟩ := HCs.out wr hb
          cases e1
          exact e2
        have hjm : (j : Int) < (m : Int) := by omega
        have hjl : (j : Int) < (l.length : Int) := by omega
        have hss : ((⟨s.toArray⟩ : ByteArray) != ⟨s.toArray⟩) = false := by
          have e : ((⟨s.toArray⟩ : ByteArray) == ⟨s.toArray⟩) = true := by first | (show (s.toArray == s.toArray) = true; simp) | exact beq_self_eq_true _
          rw [bne, e]; rfl
        clear HCs hs HGt HGe S9 B9 HCell HL
        go_wp2_with (first
          | (go_at_call 17; refine (HN3.out _ HS9.out).mono ?_; rintro e w12 ⟨rfl, b⟩; replace HS9 := Lib.hid (HS9.out.below b); replace HB9 := Lib.hid (then_below HB9.out b); clear b)
          | (go_at_call 21; refine (HGj.out _ HS9.out).mono ?_; rintro e w13 ⟨rfl, b⟩; replace HS9 := Lib.hid (HS9.out.below b); replace HB9 := Lib.hid (then_below HB9.out b); have hc := HC2.out _ HB9.out; clear b))
        go_roundw
        case rel => exact ⟨j + 1, by omega, by omega, by go_num, HS9, HB9⟩
        case measure => simp [intOf]; omega
      · have hjm : ¬ (j : Int) < (m : Int) := by omega
        clear HCell HL HGt S9 B9
        generalize gtV L3 ((bs : Int) - 1) = gv at HGe
        go_wp2_with (first
          | (go_at_call 17; refine (HN3.out _ HS9.out).mono ?_; rintro e w12 ⟨rfl, b⟩; replace HS9 := Lib.hid (HS9.out.below b); replace HB9 := Lib.hid (then_below HB9.out b); clear b)
          | (go_at_call 20; refine (HBs.out _ HS9.out).mono ?_; rintro e w12 ⟨rfl, b⟩; replace HS9 := Lib.hid (HS9.out.below b); replace HB9 := Lib.hid (then_below HB9.out b); clear b)
          | (go_at_call 21; refine (HGe.out _ HS9.out).mono ?_; rintro e w13 ⟨rfl, b⟩; replace HS9 := Lib.hid (HS9.out.below b); replace HB9 := Lib.hid (then_below HB9.out b); clear b))
        go_ret
        exact ⟨rfl, HB9.out⟩
end
end Go.Proofs.YtcogehhjofgbiaaGreatDoor.wal
set_option linter.unusedSimpArgs false
set_option linter.unusedVariables false
namespace Go.Proofs.YtcogehhjofgbiaaGreatDoor.wal
open Go.ChangeShapes Go.WideShapes Go.ChangeAt Go.RowKit
open Go.Proofs.YtcogehhjofgbiaaGreatDoor.opened Go.Proofs.YtcogehhjofgbiaaGreatDoor.words
theorem own : ownKnob Tryz.prog.godebug = none := by kernel_rfl
theorem laidOut : laidOutB Tryz.prog = true := by kernel_rfl
set_option maxRecDepth 100000 in
/-- THE FRAME: a law over arguments that are only read, where the listed variables read as laid. -/
theorem liftG {os : Os} {f : FuncId} {fn : Func} {s : ChangeSpec} {H : Type} {enc : TypeId × Value → H} {ts : List TypeId} {dom : List PathCond} {l : List (String × DataW Unit)} {Env : World → Prop} (hEnv : ∀ W : World, W.ShapedOpen Tryz.prog → laidMetH Tryz.prog l W → Env W)
    (started : os.Started) (noInit : Tryz.prog.inits.idxOf? f = none) (hfn : Tryz.prog.funcs[f]? = some fn)
    (hts : fn.params.toList = ts) (hrB : (ts.all fun t => Tryz.prog.readableRec t && decide (t < Tryz.prog.types.size)) = true)
    (hres : fn.resultTypes = #[4]) (hv : s.vars = [])
    (hspec : ∀ ds : List (DataW H), ds.length = ts.length → s.fn H (ds ++ []) = { results := [.lit (.bool true)], args := ds })
    (witness : ∃ (w : World) (tape : Tape) (i : Input), w.os = os ∧ (w.forCall tape i).Shaped Tryz.prog ∧ i.vars = [] ∧ Input.okWide Tryz.prog (w.forCall tape i) .any w.heap.size f i ∧
      ((s.pre enc Tryz.prog fn dom false (w.forCall tape i).memory i.args ∧ laidMetH Tryz.prog l (w.forCall tape i).memory) ∧ sizedMet enc Tryz.prog fn (OpenSpec.ofChange s) false (w.forCall tape i).memory i.args) ∧ ({} : Assume).holds Tryz.prog (lone (Frame.enter Tryz.prog f i.args .normal) [] (w.forCall tape i)))
    (walk : ∀ (W : World) (args : Array Value), Env W → Fed Tryz.prog W ts args → Calls Tryz.prog f args W fun e W' => e = .returned (.bool true) ∧ Below W.heap.size W W') :
    ReturnsInHanded {} Tryz.checked os f .any (fun w args => (s.pre enc Tryz.prog fn dom false w args ∧ laidMetH Tryz.prog l w) ∧ sizedMet enc Tryz.prog fn (OpenSpec.ofChange s) false w args) (s.post enc Tryz.prog fn false true false false) := by
  have hr : ∀ t ∈ ts, Tryz.prog.readableRec t = true ∧ t < Tryz.prog.types.size := fun t ht => by
    have := List.all_eq_true.1 hrB t ht
    simpa using this
  refine returnsInHanded_of_calls own started noInit witness ?_
  intro w tape i _ hsh _ hok hpre hholds
  obtain ⟨_, _, _, fn', hfn', _, _, _, _, hval⟩ := hok
  have e : fn' = fn := Option.some.inj (hfn'.symm.trans hfn)
  subst e
  obtain ⟨⟨⟨ds, gs, before, hw, hc⟩, hx⟩, hz⟩ := hpre
  have hW := DataW.Whole.of_heap (w' := w.forCall tape i) (by rfl) hw
  have hsz := hz.weights hw
  have hL : laidMetH Tryz.prog l (w.forCall tape i) := hx.of_heap (by rfl)
  have hE := hEnv _ hsh hL
  clear hw hz hx hL hsh
  generalize w.forCall tape i = W at *
  generalize i.args = args at *
  generalize w.heap.size = base at *
  have hW' := hW
  obtain ⟨p, q, hA, hV, rfl, _, _⟩ := hW
  rw [hv] at hV
  obtain ⟨rfl, rfl⟩ := trodVars_none hV
  have hA' := hA
  rw [hts] at hA'
  obtain ⟨n1, n2, n3⟩ := trodAll_at hA'
  have hvt : (OpenSpec.ofChange s).bare.plain.varTypes Tryz.prog = [] := by
    show s.plain.varTypes Tryz.prog = []
    simp [ChangeSpec.plain, DataSpec.varTypes, hv]
  rw [hts, hvt, List.append_nil, List.append_nil] at hsz
  refine (walk W args hE ⟨by simpa using n1, fun j t v hj hjv => ?_⟩).mono fun e W' ⟨he, bel⟩ => ?_
  · have hjv' : args.toList[j]? = some v := by simpa using hjv
    obtain ⟨d, pl, hd, fuel, hf⟩ := n3 j t v hj hjv'
    refine ⟨⟨base, hval j t v (by rw [← Array.getElem?_toList, hts]; exact hj) hjv⟩, fun hO => hO enc W fuel _ _ hf (fun k hk => ?_)⟩
    have := List.all_eq_true.1 hsz _ (DataW.weights_mem_each hj hd k hk)
    simpa using this
  · subst he
    refine ChangeSpec.post_blind (v := .bool true) ?_
    refine ⟨ds, [], _, [], p, [], hW', ?_, ?_, ?_, bel.frame _, fun h => by cases h⟩
    · rw [hspec ds n2, hres]
      exact trodAll_mk1 (shut_bool Tryz.underlying4 _)
    · rw [hspec ds n2]
      have h3 := trodAll_below laidOut bel hr hA'
      rw [hts]
      exact h3
    · rw [hspec ds n2, hv]
      rfl
set_option maxRecDepth 100000 in
theorem opens_strs : Opens Tryz.prog 45 (sliceR 1 16 strR) := opens_slice Tryz.underlying45 (m := 1) (bytes := 16) (by kernel_rfl) (by kernel_rfl) (opens_str Tryz.underlying9)
set_option maxRecDepth 100000 in
theorem top_strs {w : World} {r : Reach} {b : Nat} {v : Value} {q : Row ByteArray} (hv : Value.okWide Tryz.prog w r b 45 v) (h : sliceR 1 16 strR w v.cells.toList q) :
    ∃ (A : Option Addr) (c : Nat) (L : List Bs), v = .slice A L.length c ∧ Lies w A (L.map sV) ∧ L.length ≤ 4611686018427387903 := by
  refine ⟨q.ptr, q.cap, q.elems.map fun b => b.data.toList, by rw [top_slice Tryz.underlying45 hv h, row_val h, List.length_map], ?_, ?_⟩
  · have := lies_of (f := Value.string) (fun w cs a ha => ha.1) h
    rw [List.map_map]
    have e : (sV ∘ fun b : ByteArray => b.data.toList) = Value.string := by
      funext b
      show Value.string ⟨b.data.toList.toArray⟩ = _
      rw [Lib.mk_data]
    rw [e]
    exact this
  · have h1 := h.2.1
    have h2 := h.2.2.1
    have h3 := h.2.2.2.2.1
    rw [List.length_map]
    omega
end Go.Proofs.YtcogehhjofgbiaaGreatDoor.wal
