/-
  The walk of DiskArmed.
-/
import Derived.Test.YtkfjgmfokpgcbaaKai
namespace Go.Proofs.Ytkfjgmfokpgcbaa.disk
open Go.ChangeShapes Go.WideShapes Go.ChangeAt Go.RowKit Go.Maps Go.WideMaps
open Go.Proofs.Ytkfjgmfokpgcbaa.words Go.Proofs.Ytkfjgmfokpgcbaa.opened Go.Proofs.Ytkfjgmfokpgcbaa.block

theorem draw20 (n : Int) : ∃ r : Nat, (IntKind.u64.wrap n).tmod 20 = (r : Int) ∧ r < 20 := by
  have hu : 0 ≤ IntKind.u64.wrap n := by
    simp [IntKind.wrap, IntKind.bits, IntKind.signed]
    omega
  rw [Int.tmod_eq_emod_of_nonneg hu]
  exact ⟨(IntKind.u64.wrap n % 20).toNat, by omega, by omega⟩
theorem info31 : (Try.prog.info? 31).map (·.size) = some 5 := by kernel_rfl
theorem good_len0 {D : Dk} (h : D.F = []) (k : Nat) : D.F.length ≤ k := by rw [h]; exact Nat.zero_le _
set_option maxRecDepth 100000 in
set_option maxHeartbeats 8000000 in
theorem walkArmed (A : Option Addr) (c : Nat) (L : List Oa) (_hLl : L.length ≤ 4611686018427387903) (n : Int) (_hn : IntIn n) (w : World) (hL : Acts w A L) :
    Calls Try.prog 5 #[.slice A L.length c, .int .i64 n] w fun e w' => e = .returned (.bool true) ∧ Below w.heap.size w w' := by
  have HL := Lib.hid hL
  have HW := Lib.hid (works_any w)
  obtain ⟨r, hr, hr20⟩ := draw20 n
  have HR := Lib.hid hr
  clear hL hr
  go_enter Try.func5, Try.ntmps5
  go_upto_region 3 with (go_at_call 26; refine HW.out.mono ?_; rintro e w1 ⟨rfl, b1⟩; have B1 := Lib.hid b1; clear b1)
  have hwn : ∀ W, (convert 3 49 (.int .i64 n)).run Try.prog W = .ok (.int .u64 (IntKind.u64.wrap n)) W := fun W => by go_simp
  generalize IntKind.u64.wrap n = u at hwn HR
  have hrr := HR.out
  have hr0 : (0 : Int) ≤ r := by omega
  have hr1 : (r : Int) ≤ 19 := by omega
  go_upto_region 4 with fail
  clear hwn hrr HR
  have HN := Lib.hid (newB w1 w.heap.size B1.out.size)
  go_wp2_with (first
    | (go_at_call 15; (with_reducible refine (HA0.out D2.out).mono ?_); rintro e w3 ⟨rfl, d3, b3⟩; have D3 := Lib.hid d3; have B3 := Lib.hid (B2.out.trans b3); clear d3 b3)
    | (go_at_call 7; refine HN.out.mono ?_; rintro e w2 ⟨rfl, d2, b2⟩; have D2 := Lib.hid d2; have B2 := Lib.hid (B1.out.trans b2); have HA0 := Lib.hid (fun h => armB (B := w.heap.size) (g := w1.heap.size + 1) (D := K0) (w := w2) (r : Int) (Nat.le_trans B1.out.size b2.size) h); clear d2 b2))
  have G0 : Hid (GoodD (armV K0 r)) := Lib.hid (good_arm g0 (by omega) (by omega))
  have A0 : Hid (Armed r 0 (armV K0 r)) := Lib.hid ⟨Nat.zero_le _, fun _ => by show (r : Int) = r - (0 : Nat); omega, fun h => (nomatch h)⟩
  have hF0 : (armV K0 r).F.length ≤ 0 := Nat.le_refl _
  generalize armV K0 r = D0 at D3 G0 A0 hF0
  obtain ⟨gd, hgd⟩ : ∃ gd, gd = w1.heap.size + 1 := ⟨_, rfl⟩
  rw [← hgd] at D3 ⊢
  clear hgd D2 B2 HA0 HN B1 HW
  go_loopw [6, 7, 8, 9] (fun dn i _ _ wr => ∃ (k d : Nat) (D : Dk), k ≤ L.length ∧ k ≤ 60 ∧ i = .int .i64 (k : Int) ∧ dn = .int .i64 (d : Int) ∧ Hid (DiskB wr w.heap.size gd D) ∧ Hid (GoodD D) ∧ D.F.length ≤ k ∧ Hid (Armed r d D) ∧ Below w.heap.size w wr) (fun _ i _ _ _ => L.length - (intOf i).toNat)
  case atStart => exact ⟨0, 0, D0, Nat.zero_le _, by omega, rfl, rfl, D3, G0, hF0, A0, B3.out⟩
  case round =>
    obtain ⟨k, d, D, hk, hk60, rfl, rfl, HD, GD, hF, HA, HB⟩ := hrel
    have hdr := HA.out.le
    by_cases hgo : k < L.length ∧ k < 60
    · obtain ⟨hlt, hlt60⟩ := hgo
      obtain ⟨o, ho⟩ : ∃ o, L[k]? = some o := ⟨_, List.getElem?_eq_getElem hlt⟩
      have HLr := HL.out.below (by exact (HB.mono (Nat.le_refl _) : Below w.heap.size w wr))
      obtain ⟨b, off, hA, hb, c0, c1, c2, c3, c4⟩ := HLr.at ho
      obtain ⟨oi, -⟩ := HLr.keep ho
      subst hA
      have HG := Lib.hid (fun W => great_any o oi W)
      have HNO := Lib.hid (great_no (o := o))
      have hz := HB.size
      have B2 := Lib.hid (HB.alloc hz (.cells #[.int .i64 o.k, sV o.n, sV o.s, .int .i64 o.m, .slice o.K o.keep.length o.kc] 31))
      have D2 := Lib.hid (HD.out.below (fresh1' wr (.cells #[.int .i64 o.k, sV o.n, sV o.s, .int .i64 o.m, .slice o.K o.keep.length o.kc] 31)))
      have OZ := Lib.hid (Whole.fresh wr 31 #[.int .i64 o.k, sV o.n, sV o.s, .int .i64 o.m, .slice o.K o.keep.length o.kc])
      clear HLr ho oi HD hz
      go_upto_region 11 with fail
      change Code.wp _ _ _ _ (wr.alloc (.cells #[.int .i64 o.k, sV o.n, sV o.s, .int .i64 o.m, .slice o.K o.keep.length o.kc] 31))
      generalize wr.alloc (.cells #[.int .i64 o.k, sV o.n, sV o.s, .int .i64 o.m, .slice o.K o.keep.length o.kc] 31) = W2 at B2 D2 OZ ⊢
      generalize wr.heap.size = gz at OZ ⊢
      clear c0 c1 c2 c3 c4 hb HB
      cases hgr : greatB o with
      | true =>
        rw [hgr] at HG
        clear hgr HNO
        go_wp2_with (first | (refine get rfl 31 (.tmp 8) rfl rfl OZ.out Try.underlying31 rfl info31 ?_) | (go_at_call 8; refine (HG.out _).mono ?_; rintro e w3 ⟨rfl, b3⟩; have B3 := Lib.hid (B2.out.trans (b3.mono B2.out.size)); clear b3))
        go_ret
        exact ⟨rfl, B3.out⟩
      | false =>
        rw [hgr] at HG
        obtain ⟨on, os, -⟩ := HNO.out hgr
        clear hgr HNO
        go_upto_region 14 with (first | (refine get rfl 31 (.tmp 8) rfl rfl OZ.out Try.underlying31 rfl info31 ?_) | (go_at_call 8; refine (HG.out _).mono ?_; rintro e w3 ⟨rfl, b3⟩; have B3 := Lib.hid (B2.out.trans (b3.mono B2.out.size)); have D3 := Lib.hid (D2.out.below b3); have OZ3 := Lib.hid (OZ.out.below b3 OZ.out.inside); clear b3))
        have HB3 : w.heap.size ≤ w3.heap.size := B3.out.size
        have z0 : w3.cell? ⟨gz, 0, none⟩ = some (.int .i64 o.k) := OZ3.out.read 0
        have y0 : w3.frozen? ⟨gz, 0, none⟩ = false := OZ3.out.soft 0
        have z1 : w3.cell? ⟨gz, 1, none⟩ = some (sV o.n) := OZ3.out.read 1
        have y1 : w3.frozen? ⟨gz, 1, none⟩ = false := OZ3.out.soft 1
        have z2 : w3.cell? ⟨gz, 2, none⟩ = some (sV o.s) := OZ3.out.read 2
        have y2 : w3.frozen? ⟨gz, 2, none⟩ = false := OZ3.out.soft 2
        clear HG B2 D2 OZ
        by_cases q0 : o.k = 0
        · rw [q0] at z0
          clear q0
          have HC := Lib.hid (appendB GD.out (by omega) o.n o.s (by omega) (by omega) HB3 D3.out)
          have ES := armed_step HA.out (does_app D o.n o.s)
          have GD' := Lib.hid (good_app GD.out o.n o.s)
          have hF' := app_F (D := D) o.n o.s
          generalize appE D o.n o.s = er at HC ES
          generalize appV D o.n o.s = D' at HC ES GD' hF'
          have HDW := Lib.hid (fun W (hW : DiskB W w.heap.size gd D') => downB hW)
          rcases ES with ⟨rfl, eo, hdr, ea⟩ | ⟨rfl, eo, hdr, ea⟩ | ⟨ez, ef, eo, ea⟩
          · rw [eo] at HDW
            subst hdr
            have AA := Lib.hid ea
            have hq1 : ¬ (d : Int) > d := by omega
            have hq2 : ((d : Int) != d) = false := by simp
            clear eo ea
            go_wp2_with (first
              | (go_at_call 28; refine (HDW.out _ D4.out).mono ?_; rintro e w5 ⟨rfl, rfl⟩)
              | (go_at_call 9; refine HC.out.mono ?_; rintro e w4 ⟨rfl, d4, b4⟩; have D4 := Lib.hid d4; have B4 := Lib.hid (B3.out.trans b4); clear d4 b4))
            go_roundw
            case rel => exact ⟨k + 1, d, D', by omega, by omega, by go_num, rfl, D4, GD', by omega, AA, B4.out⟩
            case measure => simp [intOf]; omega
          · rw [eo] at HDW
            have AA := Lib.hid ea
            have hq1 : ¬ (d : Int) + 1 > r := by omega
            clear eo ea
            go_wp2_with (first
              | (go_at_call 28; refine (HDW.out _ D4.out).mono ?_; rintro e w5 ⟨rfl, rfl⟩)
              | (go_at_call 9; refine HC.out.mono ?_; rintro e w4 ⟨rfl, d4, b4⟩; have D4 := Lib.hid d4; have B4 := Lib.hid (B3.out.trans b4); clear d4 b4))
            go_roundw
            case rel => exact ⟨k + 1, d + 1, D', by omega, by omega, by go_num, by go_num, D4, GD', by omega, AA, B4.out⟩
            case measure => simp [intOf]; omega
          · rw [eo] at HDW
            have AA := Lib.hid ea
            have hez : (er == 0) = false := by simpa using ez
            have hef : (er == 14) = false := by simpa using ef
            have hq1 : ¬ (d : Int) > r := by have := HA.out.le; omega
            clear eo ea ez ef
            go_wp2_with (first
              | (go_at_call 28; refine (HDW.out _ D4.out).mono ?_; rintro e w5 ⟨rfl, rfl⟩)
              | (go_at_call 9; refine HC.out.mono ?_; rintro e w4 ⟨rfl, d4, b4⟩; have D4 := Lib.hid d4; have B4 := Lib.hid (B3.out.trans b4); clear d4 b4))
            go_roundw
            case rel => exact ⟨k + 1, d, D', by omega, by omega, by go_num, rfl, D4, GD', by omega, AA, B4.out⟩
            case measure => simp [intOf]; omega
        · have p0 : (o.k == 0) = false := by simpa using q0
          by_cases q1 : o.k = 1
          · rw [q1] at z0
            clear q0 q1 p0
            have HC := Lib.hid (syncB GD.out (by omega) o.n (by omega) HB3 D3.out)
            have ES := armed_step HA.out (does_syn D o.n)
            have GD' := Lib.hid (good_syn GD.out o.n)
            have hF' := syn_F D o.n
            generalize onE D o.n = er at HC ES
            generalize synV D o.n = D' at HC ES GD' hF'
            have HDW := Lib.hid (fun W (hW : DiskB W w.heap.size gd D') => downB hW)
            rcases ES with ⟨rfl, eo, hdr, ea⟩ | ⟨rfl, eo, hdr, ea⟩ | ⟨ez, ef, eo, ea⟩
            · rw [eo] at HDW
              subst hdr
              have AA := Lib.hid ea
              have hq1 : ¬ (d : Int) > d := by omega
              have hq2 : ((d : Int) != d) = false := by simp
              clear eo ea
              go_wp2_with (first
                | (go_at_call 28; refine (HDW.out _ D4.out).mono ?_; rintro e w5 ⟨rfl, rfl⟩)
                | (go_at_call 11; refine HC.out.mono ?_; rintro e w4 ⟨rfl, d4, b4⟩; have D4 := Lib.hid d4; have B4 := Lib.hid (B3.out.trans b4); clear d4 b4))
              go_roundw
              case rel => exact ⟨k + 1, d, D', by omega, by omega, by go_num, rfl, D4, GD', by omega, AA, B4.out⟩
              case measure => simp [intOf]; omega
            · rw [eo] at HDW
              have AA := Lib.hid ea
              have hq1 : ¬ (d : Int) + 1 > r := by omega
              clear eo ea
              go_wp2_with (first
                | (go_at_call 28; refine (HDW.out _ D4.out).mono ?_; rintro e w5 ⟨rfl, rfl⟩)
                | (go_at_call 11; refine HC.out.mono ?_; rintro e w4 ⟨rfl, d4, b4⟩; have D4 := Lib.hid d4; have B4 := Lib.hid (B3.out.trans b4); clear d4 b4))
              go_roundw
              case rel => exact ⟨k + 1, d + 1, D', by omega, by omega, by go_num, by go_num, D4, GD', by omega, AA, B4.out⟩
              case measure => simp [intOf]; omega
            · rw [eo] at HDW
              have AA := Lib.hid ea
              have hez : (er == 0) = false := by simpa using ez
              have hef : (er == 14) = false := by simpa using ef
              have hq1 : ¬ (d : Int) > r := by have := HA.out.le; omega
              clear eo ea ez ef
              go_wp2_with (first
                | (go_at_call 28; refine (HDW.out _ D4.out).mono ?_; rintro e w5 ⟨rfl, rfl⟩)
                | (go_at_call 11; refine HC.out.mono ?_; rintro e w4 ⟨rfl, d4, b4⟩; have D4 := Lib.hid d4; have B4 := Lib.hid (B3.out.trans b4); clear d4 b4))
              go_roundw
              case rel => exact ⟨k + 1, d, D', by omega, by omega, by go_num, rfl, D4, GD', by omega, AA, B4.out⟩
              case measure => simp [intOf]; omega
          · have p1 : (o.k == 1) = false := by simpa using q1
            by_cases q2 : o.k = 2
            · rw [q2] at z0
              clear q0 q1 q2 p0 p1
              have HC := Lib.hid (removeB GD.out o.n (by omega) HB3 D3.out)
              have ES := armed_step HA.out (does_rem D o.n)
              have GD' := Lib.hid (good_rem GD.out o.n)
              have hF' := rem_F D o.n
              generalize onE D o.n = er at HC ES
              generalize remV D o.n = D' at HC ES GD' hF'
              have HDW := Lib.hid (fun W (hW : DiskB W w.heap.size gd D') => downB hW)
              rcases ES with ⟨rfl, eo, hdr, ea⟩ | ⟨rfl, eo, hdr, ea⟩ | ⟨ez, ef, eo, ea⟩
              · rw [eo] at HDW
                subst hdr
                have AA := Lib.hid ea
                have hq1 : ¬ (d : Int) > d := by omega
                have hq2 : ((d : Int) != d) = false := by simp
                clear eo ea
                go_wp2_with (first
                  | (go_at_call 28; refine (HDW.out _ D4.out).mono ?_; rintro e w5 ⟨rfl, rfl⟩)
                  | (go_at_call 13; refine HC.out.mono ?_; rintro e w4 ⟨rfl, d4, b4⟩; have D4 := Lib.hid d4; have B4 := Lib.hid (B3.out.trans b4); clear d4 b4))
                go_roundw
                case rel => exact ⟨k + 1, d, D', by omega, by omega, by go_num, rfl, D4, GD', by omega, AA, B4.out⟩
                case measure => simp [intOf]; omega
              · rw [eo] at HDW
                have AA := Lib.hid ea
                have hq1 : ¬ (d : Int) + 1 > r := by omega
                clear eo ea
                go_wp2_with (first
                  | (go_at_call 28; refine (HDW.out _ D4.out).mono ?_; rintro e w5 ⟨rfl, rfl⟩)
                  | (go_at_call 13; refine HC.out.mono ?_; rintro e w4 ⟨rfl, d4, b4⟩; have D4 := Lib.hid d4; have B4 := Lib.hid (B3.out.trans b4); clear d4 b4))
                go_roundw
                case rel => exact ⟨k + 1, d + 1, D', by omega, by omega, by go_num, by go_num, D4, GD', by omega, AA, B4.out⟩
                case measure => simp [intOf]; omega
              · rw [eo] at HDW
                have AA := Lib.hid ea
                have hez : (er == 0) = false := by simpa using ez
                have hef : (er == 14) = false := by simpa using ef
                have hq1 : ¬ (d : Int) > r := by have := HA.out.le; omega
                clear eo ea ez ef
                go_wp2_with (first
                  | (go_at_call 28; refine (HDW.out _ D4.out).mono ?_; rintro e w5 ⟨rfl, rfl⟩)
                  | (go_at_call 13; refine HC.out.mono ?_; rintro e w4 ⟨rfl, d4, b4⟩; have D4 := Lib.hid d4; have B4 := Lib.hid (B3.out.trans b4); clear d4 b4))
                go_roundw
                case rel => exact ⟨k + 1, d, D', by omega, by omega, by go_num, rfl, D4, GD', by omega, AA, B4.out⟩
                case measure => simp [intOf]; omega
            · have p2 : (o.k == 2) = false := by simpa using q2
              clear q0 q1 q2
              go_wp2_with fail
              go_roundw
              case rel => exact ⟨k + 1, d, D, by omega, by omega, by go_num, rfl, D3, GD, by omega, HA, B3.out⟩
              case measure => simp [intOf]; omega
    · have hgo' : (decide ((k : Int) < (L.length : Int)) && decide ((k : Int) < 60)) = false := by
        rw [Bool.and_eq_false_iff, decide_eq_false_iff_not, decide_eq_false_iff_not]
        omega
      by_cases hlt : k < L.length
      · have h60 : ¬ (k : Int) < 60 := by omega
        clear hgo hgo'
        go_wp2_with fail
        go_ret
        exact ⟨rfl, HB⟩
      · clear hgo hgo'
        go_wp2_with fail
        go_ret
        exact ⟨rfl, HB⟩
end Go.Proofs.Ytkfjgmfokpgcbaa.disk
