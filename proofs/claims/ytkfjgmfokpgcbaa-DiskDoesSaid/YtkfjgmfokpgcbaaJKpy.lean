/-
  The contract of play.
-/
import Derived.Test.YtkfjgmfokpgcbaaJKpl
namespace Go.Proofs.Ytkfjgmfokpgcbaa.disk
open Go.ChangeShapes Go.WideShapes Go.ChangeAt Go.RowKit Go.Maps Go.WideMaps
open Go.Proofs.Ytkfjgmfokpgcbaa.words Go.Proofs.Ytkfjgmfokpgcbaa.opened Go.Proofs.Ytkfjgmfokpgcbaa.block

theorem armS {S : Nat → Prop} {g : Nat} {D : Dk} (n : Int) (w : World) (h : DiskP w S g D) :
    Calls Try.prog 15 #[.pointer (some ⟨g, 0, none⟩), .int .i64 n] w fun e w' => e = .returned (.tuple #[]) ∧ DiskP w' (More w S) g (armV D n) ∧ Turn w w' S := by
  obtain ⟨mb, E, h1, h2⟩ := h
  exact (arm_any n w h1).mono fun _ _ ⟨e1, e2, e3, _⟩ => ⟨e1, DiskP.more ⟨mb, E, e2, h2⟩, turn_grown e3 (S := S) fun k e => by cases e; exact h2 g (.inl rfl)⟩
set_option maxRecDepth 100000 in
set_option maxHeartbeats 8000000 in
theorem play_any {S : Nat → Prop} {g : Nat} {D : Dk} (G : GoodD D) (hF : D.F.length ≤ 900) (A : Option Addr) (c : Nat) (L : List Oa) (w : World) (h : DiskP w S g D) (hL : Acts w A L) (hAS : L = [] ∨ ∀ a, A = some a → ¬ S a.block) (hKS : ∀ o ∈ L, o.keep = [] ∨ ∀ a, o.K = some a → ¬ S a.block) (hsm : ∀ o ∈ L.take 60, greatB o = false) :
    Calls Try.prog 27 #[.pointer (some ⟨g, 0, none⟩), .slice A L.length c] w fun e w' => e = .returned (.tuple #[]) ∧ DiskP w' (More w S) g (runO (L.take 60) D) ∧ Turn w w' S := by
  have HL := Lib.hid hL
  have HAS := Lib.hid hAS
  have HKS := Lib.hid hKS
  have HSM := Lib.hid hsm
  have HP : Hid (DiskP w (More w S) g D) := Lib.hid h.more
  have HIN : Hid (∀ o ∈ L, o.In) := Lib.hid (fun o ho => (hL.2 o ho).1)
  clear hL hAS hKS hsm h
  go_enter Try.func27, Try.ntmps27
  go_wp2_with fail
  go_loopw [4, 5] (fun i _ wr => ∃ k : Nat, k ≤ L.length ∧ k ≤ 60 ∧ i = .int .i64 (k : Int) ∧ Hid (DiskP wr (More w S) g (runO (L.take k) D)) ∧ Hid (Turn w wr S)) (fun i _ _ => L.length - (intOf i).toNat)
  case atStart => exact ⟨0, Nat.zero_le _, by omega, rfl, HP, Lib.hid (Turn.refl w S)⟩
  case round =>
    obtain ⟨k, hk, hk60, rfl, HD, HT⟩ := hrel
    by_cases hgo : k < L.length ∧ k < 60
    · obtain ⟨hlt, hlt60⟩ := hgo
      obtain ⟨o, ho⟩ : ∃ o, L[k]? = some o := ⟨_, List.getElem?_eq_getElem hlt⟩
      have HLr := HL.out.turn HT.out HAS.out HKS.out
      obtain ⟨b, off, hA, hb, c0, c1, c2, c3, c4⟩ := HLr.at ho
      obtain ⟨oi, hkl⟩ := HLr.keep ho
      subst hA
      obtain ⟨on, os, ok⟩ := great_no (HSM.out o (List.mem_of_getElem? (i := k) (by rw [List.getElem?_take, if_pos hlt60]; exact ho)))
      have hnx := run_take ho D
      have GD := Lib.hid (good_run G (L := L.take k) (fun x hx => HIN.out x (List.mem_of_mem_take hx)))
      have hFk : (runO (L.take k) D).F.length ≤ 1000 := by
        have := run_F D (L.take k)
        rw [List.length_take] at this
        omega
      have b2 := fresh1' wr (.cells #[.int .i64 o.k, sV o.n, sV o.s, .int .i64 o.m, .slice o.K o.keep.length o.kc] 31)
      have HT2 := Lib.hid (HT.out.trans (turn_below b2 S) (fun _ hj => .inl hj))
      have D2 := Lib.hid (HD.out.below b2)
      have hk2 := Lies.below hkl b2
      have OZ := Lib.hid (Whole.fresh wr 31 #[.int .i64 o.k, sV o.n, sV o.s, .int .i64 o.m, .slice o.K o.keep.length o.kc])
      clear HLr ho b2 hkl HD HT
      go_upto_region 4 with fail
      change Code.wp _ _ _ _ (wr.alloc (.cells #[.int .i64 o.k, sV o.n, sV o.s, .int .i64 o.m, .slice o.K o.keep.length o.kc] 31))
      generalize wr.alloc (.cells #[.int .i64 o.k, sV o.n, sV o.s, .int .i64 o.m, .slice o.K o.keep.length o.kc] 31) = W2 at HT2 D2 OZ hk2 ⊢
      generalize wr.heap.size = gz at OZ ⊢
      clear c0 c1 c2 c3 c4 hb
      have z0 : W2.cell? ⟨gz, 0, none⟩ = some (.int .i64 o.k) := OZ.out.read 0
      have y0 : W2.frozen? ⟨gz, 0, none⟩ = false := OZ.out.soft 0
      have z1 : W2.cell? ⟨gz, 1, none⟩ = some (sV o.n) := OZ.out.read 1
      have y1 : W2.frozen? ⟨gz, 1, none⟩ = false := OZ.out.soft 1
      have z2 : W2.cell? ⟨gz, 2, none⟩ = some (sV o.s) := OZ.out.read 2
      have y2 : W2.frozen? ⟨gz, 2, none⟩ = false := OZ.out.soft 2
      have z3 : W2.cell? ⟨gz, 3, none⟩ = some (.int .i64 o.m) := OZ.out.read 3
      have y3 : W2.frozen? ⟨gz, 3, none⟩ = false := OZ.out.soft 3
      have z4 : W2.cell? ⟨gz, 4, none⟩ = some (.slice o.K o.keep.length o.kc) := OZ.out.read 4
      have y4 : W2.frozen? ⟨gz, 4, none⟩ = false := OZ.out.soft 4
      have z5 : (W2.alloc (.cells #[] 3)).cell? ⟨gz, 4, none⟩ = some (.slice o.K o.keep.length o.kc) := (OZ.out.alloc _).read 4
      have y5 : (W2.alloc (.cells #[] 3)).frozen? ⟨gz, 4, none⟩ = false := (OZ.out.alloc _).soft 4
      clear OZ
      by_cases hq : o.k = 0
      · have hst : stepO (runO (L.take k) D) o = appV (runO (L.take k) D) o.n o.s := by unfold stepO; rw [if_pos hq]
        have HC := Lib.hid (append_any GD.out (by omega) o.n o.s (by omega) (by omega) W2 D2.out)
        rw [← hst, ← hnx] at HC
        rw [hq] at z0
        clear hst hq hnx GD
        go_wp2_with (go_at_call 9; refine HC.out.mono ?_; rintro e w4 ⟨rfl, d4, t4⟩; have F4 := Lib.hid (fin_step HT2.out d4 t4); clear d4 t4)
        go_roundw
        case rel => exact ⟨k + 1, by omega, by omega, by go_num, Lib.hid F4.out.1, Lib.hid F4.out.2⟩
        case measure => simp [intOf]; omega
      · have p0 : (o.k == 0) = false := by simpa using hq
        have n0 := hq
        clear hq
        by_cases hq : o.k = 1
        · have hst : stepO (runO (L.take k) D) o = synV (runO (L.take k) D) o.n := by unfold stepO; rw [if_neg (by omega), if_pos hq]
          have HC := Lib.hid (sync_any GD.out (by omega) o.n (by omega) W2 D2.out)
          rw [← hst, ← hnx] at HC
          rw [hq] at z0
          clear hst hq hnx GD
          go_wp2_with (go_at_call 11; refine HC.out.mono ?_; rintro e w4 ⟨rfl, d4, t4⟩; have F4 := Lib.hid (fin_step HT2.out d4 t4); clear d4 t4)
          go_roundw
          case rel => exact ⟨k + 1, by omega, by omega, by go_num, Lib.hid F4.out.1, Lib.hid F4.out.2⟩
          case measure => simp [intOf]; omega
        · have p1 : (o.k == 1) = false := by simpa using hq
          have n1 := hq
          clear hq
          by_cases hq : o.k = 2
          · have hst : stepO (runO (L.take k) D) o = remV (runO (L.take k) D) o.n := by unfold stepO; rw [if_neg (by omega), if_neg (by omega), if_pos hq]
            have HC := Lib.hid (remove_any GD.out o.n (by omega) W2 D2.out)
            rw [← hst, ← hnx] at HC
            rw [hq] at z0
            clear hst hq hnx GD
            go_wp2_with (go_at_call 13; refine HC.out.mono ?_; rintro e w4 ⟨rfl, d4, t4⟩; have F4 := Lib.hid (fin_step HT2.out d4 t4); clear d4 t4)
            go_roundw
            case rel => exact ⟨k + 1, by omega, by omega, by go_num, Lib.hid F4.out.1, Lib.hid F4.out.2⟩
            case measure => simp [intOf]; omega
          · have p2 : (o.k == 2) = false := by simpa using hq
            have n2 := hq
            clear hq
            by_cases hq : o.k = 3
            · have hst : stepO (runO (L.take k) D) o = armV (runO (L.take k) D) o.m := by unfold stepO; rw [if_neg (by omega), if_neg (by omega), if_neg (by omega), if_pos hq]
              have HC := Lib.hid (armS o.m W2 D2.out)
              rw [← hst, ← hnx] at HC
              rw [hq] at z0
              clear hst hq hnx GD
              go_wp2_with (go_at_call 15; refine HC.out.mono ?_; rintro e w4 ⟨rfl, d4, t4⟩; have F4 := Lib.hid (fin_step HT2.out d4 t4); clear d4 t4)
              go_roundw
              case rel => exact ⟨k + 1, by omega, by omega, by go_num, Lib.hid F4.out.1, Lib.hid F4.out.2⟩
              case measure => simp [intOf]; omega
            · have p3 : (o.k == 3) = false := by simpa using hq
              have n3 := hq
              clear hq
              by_cases hq : o.k = 4
              · have hst : stepO (runO (L.take k) D) o = mendV (runO (L.take k) D) o.keep := by unfold stepO; rw [if_neg (by omega), if_neg (by omega), if_neg (by omega), if_neg (by omega), if_pos hq]
                obtain ⟨A', c', w3, hap, hl3, hn3, b3⟩ := own_ints W2 o.K o.kc o.keep (by omega) hk2 29
                have HC := Lib.hid (mendS GD.out (by omega) A' c' o.keep (fun x hx => (oi.keep x hx).2) (by omega) D2.out b3 hl3 hn3)
                rw [← hst, ← hnx] at HC
                rw [hq] at z0
                clear hst hq hnx GD hl3 hn3 b3 hk2
                go_wp2_with (first | (at_builtin; refine wpList_append_run rfl _ _ 29 29 rfl rfl rfl hap ?_) | (go_at_call 17; refine HC.out.mono ?_; rintro e w4 ⟨rfl, d4, t4⟩; have F4 := Lib.hid (fin_step HT2.out d4 t4); clear d4 t4))
                go_roundw
                case rel => exact ⟨k + 1, by omega, by omega, by go_num, Lib.hid F4.out.1, Lib.hid F4.out.2⟩
                case measure => simp [intOf]; omega
              · have p4 : (o.k == 4) = false := by simpa using hq
                have hst : stepO (runO (L.take k) D) o = runO (L.take k) D := by unfold stepO; rw [if_neg n0, if_neg n1, if_neg n2, if_neg n3, if_neg hq]
                rw [← hst, ← hnx] at D2
                clear hst hq hnx GD n0 n1 n2 n3
                go_wp2_with fail
                go_roundw
                case rel => exact ⟨k + 1, by omega, by omega, by go_num, D2, HT2⟩
                case measure => simp [intOf]; omega
    · have hfin : L.take k = L.take 60 := by
        by_cases hlt : k < L.length
        · have : k = 60 := by omega
          rw [this]
        · rw [List.take_of_length_le (by omega), List.take_of_length_le (by omega)]
      rw [hfin] at HD
      clear hfin
      by_cases hlt : k < L.length
      · have h60 : ¬ (k : Int) < 60 := by omega
        clear hgo
        go_wp2_with fail
        go_end0
        exact ⟨rfl, HD.out, HT.out⟩
      · clear hgo
        go_wp2_with fail
        go_end0
        exact ⟨rfl, HD.out, HT.out⟩
end Go.Proofs.Ytkfjgmfokpgcbaa.disk
