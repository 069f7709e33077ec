/-
  The walk of OperBounds (by gen_pb.py).
-/
import Derived.Test.YtpbdfiddgbkkmaaDoorGsb
import Derived.Test.YtpbdfiddgbkkmaaDoorWks
import Derived.Test.YtpbdfiddgbkkmaaDoorObm
namespace Go.Proofs.YtpbdfiddgbkkmaaDoor.oper
open Go.ChangeShapes Go.WideShapes Go.ChangeAt Go.RowKit
open Go.Proofs.YtpbdfiddgbkkmaaDoor.tm Go.Proofs.YtpbdfiddgbkkmaaDoor.opened Go.Proofs.YtpbdfiddgbkkmaaDoor.block Go.Proofs.YtpbdfiddgbkkmaaDoor.region Go.Proofs.YtpbdfiddgbkkmaaDoor.data

theorem fold_at (k : Int) (hk : keepsB k = true) (A : Option Addr) (c : Nat) (L : List Rc) (iL : InR L) (mL : L.length ≤ 4096) (w : World) (hL : Lr w A L) (n : Nat) (hn : (keysS L).length = n) :
    Calls Tryd.prog 15 #[.int .i64 k, .slice A L.length c] w fun e W' => ∃ B c', e = .returned (.tuple #[.slice B n c', .int .i64 0]) ∧ Lr W' B (foldV k L) ∧ Below w.heap.size w W' := by
  have h := fold_yes k hk A c L iL mL w hL
  rw [foldV_len, hn] at h
  exact h
set_option maxRecDepth 100000 in
set_option maxHeartbeats 32000000 in
theorem walkBounds (A : Option Addr) (c : Nat) (L : List Rc) (iL : InR L) (w : World) (hL : Lr w A L) :
    Calls Tryd.prog 5 #[.slice A L.length c] w fun e w' => e = .returned (.bool true) ∧ Below w.heap.size w w' := by
  have WK := Lib.hid (fun w0 => works_any w0)
  have HL1 := Lib.hid hL
  clear hL
  by_cases hl : L.length ≤ 300
  rotate_left
  · have hx : (300 : Int) < (L.length : Int) := by omega
    clear hl iL
    go_enter Tryd.func5, Tryd.ntmps5
    go_wp2_with (go_at_call 6; refine (WK.out _).mono ?_; rintro e w2 ⟨rfl, b2⟩; have HB2 := Lib.hid b2; clear b2)
    go_ret
    exact ⟨rfl, HB2.out⟩
  have hl' : ¬ (300 : Int) < (L.length : Int) := by omega
  obtain ⟨K, hK⟩ : ∃ K, K = keysS L := ⟨_, rfl⟩
  obtain ⟨n, hn⟩ : ∃ n, K.length = n := ⟨_, rfl⟩
  have hn3 : n ≤ 300 := by rw [← hn, hK]; have := keysS_len L; omega
  have OW := Lib.hid (fun A c w0 h => own_lr A c L (by omega) w0 h)
  have FC := Lib.hid (fun A c w0 h => fold_at 12 rfl A c L iL (by omega) w0 h n (by rw [← hK]; exact hn))
  have FA := Lib.hid (fun A c w0 h => fold_at 13 rfl A c L iL (by omega) w0 h n (by rw [← hK]; exact hn))
  have FB := Lib.hid (fun A c w0 h => fold_at 14 rfl A c L iL (by omega) w0 h n (by rw [← hK]; exact hn))
  have HK := Lib.hid hK
  have HN := Lib.hid hn
  have HLn := Lib.hid hl
  clear hl iL hK hn
  go_enter Tryd.func5, Tryd.ntmps5
  go_upto_region 5 with (go_at_call 6; refine (WK.out _).mono ?_; rintro e w2 ⟨rfl, b2⟩; have HB2 := Lib.hid b2; have HL2 := Lib.hid (HL1.out.below b2); clear b2)
  clear WK HL1
  go_upto_region 6 with (first | (go_at_call 15; refine (FC.out _ _ _ HX3.out).mono ?_; rintro e w4 ⟨BC, cC, rfl, lx, bx⟩; have HC4 := Lib.hid lx; have HB4 := Lib.hid (HB3.out.trans (bx.mono HB3.out.size)); have HL4 := Lib.hid (HL3.out.below bx); clear lx bx) | (go_at_call 9; refine (OW.out A c _ HL2.out).mono ?_; rintro e w3 ⟨BX3, cX3, rfl, lx, bx⟩; have HX3 := Lib.hid lx; have HB3 := Lib.hid (HB2.out.trans (bx.mono HB2.out.size)); have HL3 := Lib.hid (HL2.out.below bx); clear lx bx))
  go_upto_region 7 with (first | (go_at_call 15; refine (FA.out _ _ _ HX5.out).mono ?_; rintro e w6 ⟨BA, cA, rfl, lx, bx⟩; have HA6 := Lib.hid lx; have HB6 := Lib.hid (HB5.out.trans (bx.mono HB5.out.size)); have HL6 := Lib.hid (HL5.out.below bx); have HC6 := Lib.hid (HC5.out.below bx); clear lx bx) | (go_at_call 9; refine (OW.out A c _ HL4.out).mono ?_; rintro e w5 ⟨BX5, cX5, rfl, lx, bx⟩; have HX5 := Lib.hid lx; have HB5 := Lib.hid (HB4.out.trans (bx.mono HB4.out.size)); have HL5 := Lib.hid (HL4.out.below bx); have HC5 := Lib.hid (HC4.out.below bx); clear lx bx))
  go_upto_region 8 with (first | (go_at_call 15; refine (FB.out _ _ _ HX7.out).mono ?_; rintro e w8 ⟨BB, cB, rfl, lx, bx⟩; have HB8x := Lib.hid lx; have HB8 := Lib.hid (HB7.out.trans (bx.mono HB7.out.size)); have HL8 := Lib.hid (HL7.out.below bx); have HC8 := Lib.hid (HC7.out.below bx); have HA8 := Lib.hid (HA7.out.below bx); clear lx bx) | (go_at_call 9; refine (OW.out A c _ HL6.out).mono ?_; rintro e w7 ⟨BX7, cX7, rfl, lx, bx⟩; have HX7 := Lib.hid lx; have HB7 := Lib.hid (HB6.out.trans (bx.mono HB6.out.size)); have HL7 := Lib.hid (HL6.out.below bx); have HC7 := Lib.hid (HC6.out.below bx); have HA7 := Lib.hid (HA6.out.below bx); clear lx bx))
  clear OW FC FA FB HX3 HX5 HX7 HB2 HB3 HB4 HB5 HB6 HB7 HL2 HL3 HL4 HL5 HL6 HL7 HC4 HC5 HC6 HC7 HA6 HA7
  rename World => w8
  go_wp2_with fail
  go_loopw [9, 10] (fun v9 v10 wr => ∃ i : Nat, i ≤ n ∧ v10 = .int .i64 i ∧ v9 = .int .i64 (cntV L (K.take i) : Nat) ∧ Hid (Below w8.heap.size w8 wr)) (fun _ v10 _ => n - (intOf v10).toNat)
  case atStart => exact ⟨0, Nat.zero_le _, rfl, rfl, Lib.hid (Below.refl _ _)⟩
  case round =>
    obtain ⟨i, hi, rfl, rfl, HBr⟩ := hrel
    rename World => w4
    by_cases hlt : i < n
    · obtain ⟨q, hq⟩ : ∃ q, K[i]? = some q := ⟨_, List.getElem?_eq_getElem (by rw [HN.out]; exact hlt)⟩
      have hq' : (keysS L)[i]? = some q := by rw [← HK.out]; exact hq
      obtain ⟨bc, oc, hA1, hbc, c0, c1⟩ := at_rc HC8.out (foldV_get (k := 12) hq')
      obtain ⟨ba, oa, hA2, hba, a0, a1⟩ := at_rc HA8.out (foldV_get (k := 13) hq')
      obtain ⟨bb, ob, hA3, hbb, d0, d1⟩ := at_rc HB8x.out (foldV_get (k := 14) hq')
      subst hA1 hA2 hA3
      have hqm : ∃ r ∈ L, r.k = q := mem_keysS.1 (List.mem_of_getElem? hq')
      have hvp : vals q L ≠ [] := by obtain ⟨r, hr, e⟩ := hqm; exact vals_pos hr e
      have HLE := Lib.hid (least_is hvp)
      have HMO := Lib.hid (most_is hvp)
      have hcp : 0 < (vals q L).length := List.length_pos_iff.2 hvp
      have hcl : (vals q L).length ≤ 300 := Nat.le_trans (vals_len q L) HLn.out
      have hsl : cntV L (K.take i) ≤ 300 := by rw [HK.out]; exact Nat.le_trans (cnt_le L) HLn.out
      have HCN := Lib.hid (show cntV L (K.take (i + 1)) = cntV L (K.take i) + (vals q L).length from cnt_next hq)
      have e12 : totV 12 (vals q L) = ((vals q L).length : Nat) := by simp [totV]
      have e13 : totV 13 (vals q L) = leastV (vals q L) := by simp [totV]
      have e14 : totV 14 (vals q L) = mostV (vals q L) := by simp [totV]
      simp only [e12] at c1
      simp only [e13] at a1
      simp only [e14] at d1
      simp only at c0 a0 d0
      obtain ⟨nq, hnq⟩ : ∃ nq, nq = (vals q L).length := ⟨_, rfl⟩
      rw [← hnq] at c1 hcp hcl HCN
      obtain ⟨la, hla⟩ : ∃ la, la = leastV (vals q L) := ⟨_, rfl⟩
      rw [← hla] at a1 HLE
      obtain ⟨mb, hmb⟩ : ∃ mb, mb = mostV (vals q L) := ⟨_, rfl⟩
      rw [← hmb] at d1 HMO
      have HCC := Lib.hid (⟨fun w' (h : Below w8.heap.size w8 w') => (h.cell (p := ⟨bc, oc + i * 2, none⟩) hbc).trans c0, fun w' (h : Below w8.heap.size w8 w') => (h.cell (p := ⟨bc, oc + i * 2 + 1, none⟩) hbc).trans c1⟩ : (∀ w', Below w8.heap.size w8 w' → w'.cell? ⟨bc, oc + i * 2, none⟩ = some (.int .i64 q)) ∧ (∀ w', Below w8.heap.size w8 w' → w'.cell? ⟨bc, oc + i * 2 + 1, none⟩ = some (.int .i64 (nq : Nat))))
      have HAC := Lib.hid (⟨fun w' (h : Below w8.heap.size w8 w') => (h.cell (p := ⟨ba, oa + i * 2, none⟩) hba).trans a0, fun w' (h : Below w8.heap.size w8 w') => (h.cell (p := ⟨ba, oa + i * 2 + 1, none⟩) hba).trans a1⟩ : (∀ w', Below w8.heap.size w8 w' → w'.cell? ⟨ba, oa + i * 2, none⟩ = some (.int .i64 q)) ∧ (∀ w', Below w8.heap.size w8 w' → w'.cell? ⟨ba, oa + i * 2 + 1, none⟩ = some (.int .i64 la)))
      have HBC := Lib.hid (⟨fun w' (h : Below w8.heap.size w8 w') => (h.cell (p := ⟨bb, ob + i * 2, none⟩) hbb).trans d0, fun w' (h : Below w8.heap.size w8 w') => (h.cell (p := ⟨bb, ob + i * 2 + 1, none⟩) hbb).trans d1⟩ : (∀ w', Below w8.heap.size w8 w' → w'.cell? ⟨bb, ob + i * 2, none⟩ = some (.int .i64 q)) ∧ (∀ w', Below w8.heap.size w8 w' → w'.cell? ⟨bb, ob + i * 2 + 1, none⟩ = some (.int .i64 mb)))
      have HNQ := Lib.hid hnq
      clear hq hq' c0 c1 a0 a1 d0 d1 hbc hba hbb hqm hvp e12 e13 e14 hnq hla hmb
      go_wp2_with fail
      go_loopw [11, 12, 13, 14] (fun v11 v12 v13 v14 wr => ∃ k : Nat, k ≤ L.length ∧ v11 = .int .i64 ((vals q (L.take k)).length : Nat) ∧ v12 = .bool (decide (la ∈ vals q (L.take k))) ∧ v13 = .bool (decide (mb ∈ vals q (L.take k))) ∧ v14 = .int .i64 k ∧ Hid (Below w8.heap.size w8 wr)) (fun _ _ _ v14 _ => L.length - (intOf v14).toNat)
      case atStart => exact ⟨0, Nat.zero_le _, rfl, rfl, rfl, rfl, HBr⟩
      case round =>
        obtain ⟨k, hk, rfl, rfl, rfl, rfl, HI5⟩ := hrel
        rename World => w5
        clear HBr
        by_cases hkl : k < L.length
        · obtain ⟨x, hx, hxm⟩ := get_ltR hkl
          obtain ⟨bl, ol, hA4, hbl, l0, l1⟩ := at_rc HL8.out hx
          subst hA4
          have HXC := Lib.hid (⟨fun w' (h : Below w8.heap.size w8 w') => (h.cell (p := ⟨bl, ol + k * 2, none⟩) hbl).trans l0, fun w' (h : Below w8.heap.size w8 w') => (h.cell (p := ⟨bl, ol + k * 2 + 1, none⟩) hbl).trans l1⟩ : (∀ w', Below w8.heap.size w8 w' → w'.cell? ⟨bl, ol + k * 2, none⟩ = some (.int .i64 x.k)) ∧ (∀ w', Below w8.heap.size w8 w' → w'.cell? ⟨bl, ol + k * 2 + 1, none⟩ = some (.int .i64 x.v)))
          have hvk : (vals q (L.take k)).length ≤ 300 := Nat.le_trans (vals_len q _) (by rw [List.length_take]; have := HLn.out; omega)
          clear l0 l1 hbl
          by_cases hxq : x.k = q
          · have HVN := Lib.hid (vals_next_yes hx hxq)
            have hxv : x.v ∈ vals q L := mem_vals.2 (by rw [← hxq]; exact hxm)
            have hg1 : ¬ x.v < la := by have := HLE.out.2 _ hxv; omega
            have hg2 : ¬ mb < x.v := by have := HMO.out.2 _ hxv; omega
            have hne : (x.k != q) = false := by simp [hxq]
            clear hx hxm hxv hxq
            generalize vals q (L.take k) = V at HVN hvk ⊢
            cases hbl : decide (la ∈ V) with
            | true =>
              have HBL := Lib.hid hbl
              clear hbl
              cases hbm : decide (mb ∈ V) with
              | true =>
                have HBM := Lib.hid hbm
                clear hbm
                have s_xk : ∀ z : Since w5, z.1.cell? ⟨bl, ol + k * 2, none⟩ = some (.int .i64 x.k) := fun z => HXC.out.1 _ (HI5.out.trans (z.2.mono HI5.out.size))
                have s_ck : ∀ z : Since w5, z.1.cell? ⟨bc, oc + i * 2, none⟩ = some (.int .i64 q) := fun z => HCC.out.1 _ (HI5.out.trans (z.2.mono HI5.out.size))
                go_upto_region 18 with fail
                refine region_since w5 (by kernel_rfl) (by kernel_rfl) (Below.refl _ _) ?_
                repeat (go_big_quiet_step (fail))
                refine wpQuiet_nil ?_
                rintro w6 ⟨xx, hw9⟩
                have b9 : Below w5.heap.size w5 w6 := hw9 ▸ xx.2
                have HI6 := Lib.hid (HI5.out.trans (b9.mono HI5.out.size))
                clear hw9 xx b9 s_xk s_ck
                go_upto_region 20 with fail
                refine region_since w6 (by kernel_rfl) (by kernel_rfl) (Below.refl _ _) ?_
                repeat (go_big_quiet_step (fail))
                refine wpQuiet_nil ?_
                rintro w7 ⟨xx, hw9⟩
                have b9 : Below w6.heap.size w6 w7 := hw9 ▸ xx.2
                have HI7 := Lib.hid (HI6.out.trans (b9.mono HI6.out.size))
                clear hw9 xx b9
                go_upto_region 21 with fail
                refine region_since w7 (by kernel_rfl) (by kernel_rfl) (Below.refl _ _) ?_
                repeat (go_big_quiet_step (fail))
                refine wpQuiet_nil ?_
                rintro w8 ⟨xx, hw9⟩
                have b9 : Below w7.heap.size w7 w8 := hw9 ▸ xx.2
                have HI8 := Lib.hid (HI7.out.trans (b9.mono HI7.out.size))
                clear hw9 xx b9
                have s_xv : ∀ z : Since w8, z.1.cell? ⟨bl, ol + k * 2 + 1, none⟩ = some (.int .i64 x.v) := fun z => HXC.out.2 _ (HI8.out.trans (z.2.mono HI8.out.size))
                have s_av : ∀ z : Since w8, z.1.cell? ⟨ba, oa + i * 2 + 1, none⟩ = some (.int .i64 la) := fun z => HAC.out.2 _ (HI8.out.trans (z.2.mono HI8.out.size))
                have s_bv : ∀ z : Since w8, z.1.cell? ⟨bb, ob + i * 2 + 1, none⟩ = some (.int .i64 mb) := fun z => HBC.out.2 _ (HI8.out.trans (z.2.mono HI8.out.size))
                go_upto_region 22 with fail
                refine region_since w8 (by kernel_rfl) (by kernel_rfl) (Below.refl _ _) ?_
                repeat (go_big_quiet_step (fail))
                refine wpQuiet_nil ?_
                rintro w9 ⟨xx, hw9⟩
                have b9 : Below w8.heap.size w8 w9 := hw9 ▸ xx.2
                have HI9 := Lib.hid (HI8.out.trans (b9.mono HI8.out.size))
                clear hw9 xx b9 s_xv s_av s_bv
                go_wp2_with fail
                go_roundw
                case rel => exact ⟨k + 1, by omega, by rw [HVN.out, List.length_append]; rfl, by rw [HVN.out, seen_next, HBL.out]; rfl, by rw [HVN.out, seen_next, HBM.out]; rfl, by go_num, HI9⟩
                case measure => simp [intOf]; omega
              | false =>
                have HBM := Lib.hid hbm
                clear hbm
                have s_xk : ∀ z : Since w5, z.1.cell? ⟨bl, ol + k * 2, none⟩ = some (.int .i64 x.k) := fun z => HXC.out.1 _ (HI5.out.trans (z.2.mono HI5.out.size))
                have s_ck : ∀ z : Since w5, z.1.cell? ⟨bc, oc + i * 2, none⟩ = some (.int .i64 q) := fun z => HCC.out.1 _ (HI5.out.trans (z.2.mono HI5.out.size))
                go_upto_region 18 with fail
                refine region_since w5 (by kernel_rfl) (by kernel_rfl) (Below.refl _ _) ?_
                repeat (go_big_quiet_step (fail))
                refine wpQuiet_nil ?_
                rintro w6 ⟨xx, hw9⟩
                have b9 : Below w5.heap.size w5 w6 := hw9 ▸ xx.2
                have HI6 := Lib.hid (HI5.out.trans (b9.mono HI5.out.size))
                clear hw9 xx b9 s_xk s_ck
                go_upto_region 20 with fail
                refine region_since w6 (by kernel_rfl) (by kernel_rfl) (Below.refl _ _) ?_
                repeat (go_big_quiet_step (fail))
                refine wpQuiet_nil ?_
                rintro w7 ⟨xx, hw9⟩
                have b9 : Below w6.heap.size w6 w7 := hw9 ▸ xx.2
                have HI7 := Lib.hid (HI6.out.trans (b9.mono HI6.out.size))
                clear hw9 xx b9
                have s_xv : ∀ z : Since w7, z.1.cell? ⟨bl, ol + k * 2 + 1, none⟩ = some (.int .i64 x.v) := fun z => HXC.out.2 _ (HI7.out.trans (z.2.mono HI7.out.size))
                have s_bv : ∀ z : Since w7, z.1.cell? ⟨bb, ob + i * 2 + 1, none⟩ = some (.int .i64 mb) := fun z => HBC.out.2 _ (HI7.out.trans (z.2.mono HI7.out.size))
                go_upto_region 21 with fail
                refine region_since w7 (by kernel_rfl) (by kernel_rfl) (Below.refl _ _) ?_
                repeat (go_big_quiet_step (fail))
                refine wpQuiet_nil ?_
                rintro w8 ⟨xx, hw9⟩
                have b9 : Below w7.heap.size w7 w8 := hw9 ▸ xx.2
                have HI8 := Lib.hid (HI7.out.trans (b9.mono HI7.out.size))
                clear hw9 xx b9 s_xv s_bv
                have s_xv : ∀ z : Since w8, z.1.cell? ⟨bl, ol + k * 2 + 1, none⟩ = some (.int .i64 x.v) := fun z => HXC.out.2 _ (HI8.out.trans (z.2.mono HI8.out.size))
                have s_av : ∀ z : Since w8, z.1.cell? ⟨ba, oa + i * 2 + 1, none⟩ = some (.int .i64 la) := fun z => HAC.out.2 _ (HI8.out.trans (z.2.mono HI8.out.size))
                have s_bv : ∀ z : Since w8, z.1.cell? ⟨bb, ob + i * 2 + 1, none⟩ = some (.int .i64 mb) := fun z => HBC.out.2 _ (HI8.out.trans (z.2.mono HI8.out.size))
                go_upto_region 22 with fail
                refine region_since w8 (by kernel_rfl) (by kernel_rfl) (Below.refl _ _) ?_
                repeat (go_big_quiet_step (fail))
                refine wpQuiet_nil ?_
                rintro w9 ⟨xx, hw9⟩
                have b9 : Below w8.heap.size w8 w9 := hw9 ▸ xx.2
                have HI9 := Lib.hid (HI8.out.trans (b9.mono HI8.out.size))
                clear hw9 xx b9 s_xv s_av s_bv
                go_wp2_with fail
                go_roundw
                case rel => exact ⟨k + 1, by omega, by rw [HVN.out, List.length_append]; rfl, by rw [HVN.out, seen_next, HBL.out]; rfl, by rw [HVN.out, seen_next, HBM.out]; rfl, by go_num, HI9⟩
                case measure => simp [intOf]; omega
            | false =>
              have HBL := Lib.hid hbl
              clear hbl
              cases hbm : decide (mb ∈ V) with
              | true =>
                have HBM := Lib.hid hbm
                clear hbm
                have s_xk : ∀ z : Since w5, z.1.cell? ⟨bl, ol + k * 2, none⟩ = some (.int .i64 x.k) := fun z => HXC.out.1 _ (HI5.out.trans (z.2.mono HI5.out.size))
                have s_ck : ∀ z : Since w5, z.1.cell? ⟨bc, oc + i * 2, none⟩ = some (.int .i64 q) := fun z => HCC.out.1 _ (HI5.out.trans (z.2.mono HI5.out.size))
                go_upto_region 18 with fail
                refine region_since w5 (by kernel_rfl) (by kernel_rfl) (Below.refl _ _) ?_
                repeat (go_big_quiet_step (fail))
                refine wpQuiet_nil ?_
                rintro w6 ⟨xx, hw9⟩
                have b9 : Below w5.heap.size w5 w6 := hw9 ▸ xx.2
                have HI6 := Lib.hid (HI5.out.trans (b9.mono HI5.out.size))
                clear hw9 xx b9 s_xk s_ck
                have s_xv : ∀ z : Since w6, z.1.cell? ⟨bl, ol + k * 2 + 1, none⟩ = some (.int .i64 x.v) := fun z => HXC.out.2 _ (HI6.out.trans (z.2.mono HI6.out.size))
                have s_av : ∀ z : Since w6, z.1.cell? ⟨ba, oa + i * 2 + 1, none⟩ = some (.int .i64 la) := fun z => HAC.out.2 _ (HI6.out.trans (z.2.mono HI6.out.size))
                go_upto_region 20 with fail
                refine region_since w6 (by kernel_rfl) (by kernel_rfl) (Below.refl _ _) ?_
                repeat (go_big_quiet_step (fail))
                refine wpQuiet_nil ?_
                rintro w7 ⟨xx, hw9⟩
                have b9 : Below w6.heap.size w6 w7 := hw9 ▸ xx.2
                have HI7 := Lib.hid (HI6.out.trans (b9.mono HI6.out.size))
                clear hw9 xx b9 s_xv s_av
                go_upto_region 21 with fail
                refine region_since w7 (by kernel_rfl) (by kernel_rfl) (Below.refl _ _) ?_
                repeat (go_big_quiet_step (fail))
                refine wpQuiet_nil ?_
                rintro w8 ⟨xx, hw9⟩
                have b9 : Below w7.heap.size w7 w8 := hw9 ▸ xx.2
                have HI8 := Lib.hid (HI7.out.trans (b9.mono HI7.out.size))
                clear hw9 xx b9
                have s_xv : ∀ z : Since w8, z.1.cell? ⟨bl, ol + k * 2 + 1, none⟩ = some (.int .i64 x.v) := fun z => HXC.out.2 _ (HI8.out.trans (z.2.mono HI8.out.size))
                have s_av : ∀ z : Since w8, z.1.cell? ⟨ba, oa + i * 2 + 1, none⟩ = some (.int .i64 la) := fun z => HAC.out.2 _ (HI8.out.trans (z.2.mono HI8.out.size))
                have s_bv : ∀ z : Since w8, z.1.cell? ⟨bb, ob + i * 2 + 1, none⟩ = some (.int .i64 mb) := fun z => HBC.out.2 _ (HI8.out.trans (z.2.mono HI8.out.size))
                go_upto_region 22 with fail
                refine region_since w8 (by kernel_rfl) (by kernel_rfl) (Below.refl _ _) ?_
                repeat (go_big_quiet_step (fail))
                refine wpQuiet_nil ?_
                rintro w9 ⟨xx, hw9⟩
                have b9 : Below w8.heap.size w8 w9 := hw9 ▸ xx.2
                have HI9 := Lib.hid (HI8.out.trans (b9.mono HI8.out.size))
                clear hw9 xx b9 s_xv s_av s_bv
                go_wp2_with fail
                go_roundw
                case rel => exact ⟨k + 1, by omega, by rw [HVN.out, List.length_append]; rfl, by rw [HVN.out, seen_next, HBL.out]; rfl, by rw [HVN.out, seen_next, HBM.out]; rfl, by go_num, HI9⟩
                case measure => simp [intOf]; omega
              | false =>
                have HBM := Lib.hid hbm
                clear hbm
                have s_xk : ∀ z : Since w5, z.1.cell? ⟨bl, ol + k * 2, none⟩ = some (.int .i64 x.k) := fun z => HXC.out.1 _ (HI5.out.trans (z.2.mono HI5.out.size))
                have s_ck : ∀ z : Since w5, z.1.cell? ⟨bc, oc + i * 2, none⟩ = some (.int .i64 q) := fun z => HCC.out.1 _ (HI5.out.trans (z.2.mono HI5.out.size))
                go_upto_region 18 with fail
                refine region_since w5 (by kernel_rfl) (by kernel_rfl) (Below.refl _ _) ?_
                repeat (go_big_quiet_step (fail))
                refine wpQuiet_nil ?_
                rintro w6 ⟨xx, hw9⟩
                have b9 : Below w5.heap.size w5 w6 := hw9 ▸ xx.2
                have HI6 := Lib.hid (HI5.out.trans (b9.mono HI5.out.size))
                clear hw9 xx b9 s_xk s_ck
                have s_xv : ∀ z : Since w6, z.1.cell? ⟨bl, ol + k * 2 + 1, none⟩ = some (.int .i64 x.v) := fun z => HXC.out.2 _ (HI6.out.trans (z.2.mono HI6.out.size))
                have s_av : ∀ z : Since w6, z.1.cell? ⟨ba, oa + i * 2 + 1, none⟩ = some (.int .i64 la) := fun z => HAC.out.2 _ (HI6.out.trans (z.2.mono HI6.out.size))
                go_upto_region 20 with fail
                refine region_since w6 (by kernel_rfl) (by kernel_rfl) (Below.refl _ _) ?_
                repeat (go_big_quiet_step (fail))
                refine wpQuiet_nil ?_
                rintro w7 ⟨xx, hw9⟩
                have b9 : Below w6.heap.size w6 w7 := hw9 ▸ xx.2
                have HI7 := Lib.hid (HI6.out.trans (b9.mono HI6.out.size))
                clear hw9 xx b9 s_xv s_av
                have s_xv : ∀ z : Since w7, z.1.cell? ⟨bl, ol + k * 2 + 1, none⟩ = some (.int .i64 x.v) := fun z => HXC.out.2 _ (HI7.out.trans (z.2.mono HI7.out.size))
                have s_bv : ∀ z : Since w7, z.1.cell? ⟨bb, ob + i * 2 + 1, none⟩ = some (.int .i64 mb) := fun z => HBC.out.2 _ (HI7.out.trans (z.2.mono HI7.out.size))
                go_upto_region 21 with fail
                refine region_since w7 (by kernel_rfl) (by kernel_rfl) (Below.refl _ _) ?_
                repeat (go_big_quiet_step (fail))
                refine wpQuiet_nil ?_
                rintro w8 ⟨xx, hw9⟩
                have b9 : Below w7.heap.size w7 w8 := hw9 ▸ xx.2
                have HI8 := Lib.hid (HI7.out.trans (b9.mono HI7.out.size))
                clear hw9 xx b9 s_xv s_bv
                have s_xv : ∀ z : Since w8, z.1.cell? ⟨bl, ol + k * 2 + 1, none⟩ = some (.int .i64 x.v) := fun z => HXC.out.2 _ (HI8.out.trans (z.2.mono HI8.out.size))
                have s_av : ∀ z : Since w8, z.1.cell? ⟨ba, oa + i * 2 + 1, none⟩ = some (.int .i64 la) := fun z => HAC.out.2 _ (HI8.out.trans (z.2.mono HI8.out.size))
                have s_bv : ∀ z : Since w8, z.1.cell? ⟨bb, ob + i * 2 + 1, none⟩ = some (.int .i64 mb) := fun z => HBC.out.2 _ (HI8.out.trans (z.2.mono HI8.out.size))
                go_upto_region 22 with fail
                refine region_since w8 (by kernel_rfl) (by kernel_rfl) (Below.refl _ _) ?_
                repeat (go_big_quiet_step (fail))
                refine wpQuiet_nil ?_
                rintro w9 ⟨xx, hw9⟩
                have b9 : Below w8.heap.size w8 w9 := hw9 ▸ xx.2
                have HI9 := Lib.hid (HI8.out.trans (b9.mono HI8.out.size))
                clear hw9 xx b9 s_xv s_av s_bv
                go_wp2_with fail
                go_roundw
                case rel => exact ⟨k + 1, by omega, by rw [HVN.out, List.length_append]; rfl, by rw [HVN.out, seen_next, HBL.out]; rfl, by rw [HVN.out, seen_next, HBM.out]; rfl, by go_num, HI9⟩
                case measure => simp [intOf]; omega
          · have HVN := Lib.hid (vals_next_no hx hxq)
            have hne : (x.k != q) = true := by simpa using hxq
            clear hx hxm hxq
            have s_xk : ∀ z : Since w5, z.1.cell? ⟨bl, ol + k * 2, none⟩ = some (.int .i64 x.k) := fun z => HXC.out.1 _ (HI5.out.trans (z.2.mono HI5.out.size))
            have s_ck : ∀ z : Since w5, z.1.cell? ⟨bc, oc + i * 2, none⟩ = some (.int .i64 q) := fun z => HCC.out.1 _ (HI5.out.trans (z.2.mono HI5.out.size))
            go_upto_region 18 with fail
            refine region_since w5 (by kernel_rfl) (by kernel_rfl) (Below.refl _ _) ?_
            repeat (go_big_quiet_step (fail))
            refine wpQuiet_nil ?_
            rintro w6 ⟨xx, hw9⟩
            have b9 : Below w5.heap.size w5 w6 := hw9 ▸ xx.2
            have HI6 := Lib.hid (HI5.out.trans (b9.mono HI5.out.size))
            clear hw9 xx b9 s_xk s_ck
            go_wp2_with fail
            go_roundw
            case rel => exact ⟨k + 1, by omega, by rw [HVN.out], by rw [HVN.out], by rw [HVN.out], by go_num, HI6⟩
            case measure => simp [intOf]; omega
        · obtain rfl : k = L.length := by omega
          have eT : L.take L.length = L := List.take_length
          have h1 : decide (la ∈ vals q (L.take L.length)) = true := by rw [eT]; exact decide_eq_true HLE.out.1
          have h2 : decide (mb ∈ vals q (L.take L.length)) = true := by rw [eT]; exact decide_eq_true HMO.out.1
          rw [h1, h2, eT, ← HNQ.out]
          clear h1 h2 eT
          have hn0 : ((nq : Int) == 0) = false := by rw [beq_eq_false_iff_ne]; omega
          have s_cv : ∀ z : Since w5, z.1.cell? ⟨bc, oc + i * 2 + 1, none⟩ = some (.int .i64 (nq : Nat)) := fun z => HCC.out.2 _ (HI5.out.trans (z.2.mono HI5.out.size))
          have s_ak : ∀ z : Since w5, z.1.cell? ⟨ba, oa + i * 2, none⟩ = some (.int .i64 q) := fun z => HAC.out.1 _ (HI5.out.trans (z.2.mono HI5.out.size))
          have s_ck : ∀ z : Since w5, z.1.cell? ⟨bc, oc + i * 2, none⟩ = some (.int .i64 q) := fun z => HCC.out.1 _ (HI5.out.trans (z.2.mono HI5.out.size))
          have s_bk : ∀ z : Since w5, z.1.cell? ⟨bb, ob + i * 2, none⟩ = some (.int .i64 q) := fun z => HBC.out.1 _ (HI5.out.trans (z.2.mono HI5.out.size))
          go_upto_region 24 with fail
          refine region_since w5 (by kernel_rfl) (by kernel_rfl) (Below.refl _ _) ?_
          repeat (go_big_quiet_step (fail))
          refine wpQuiet_nil ?_
          rintro w6 ⟨xx, hw9⟩
          have b9 : Below w5.heap.size w5 w6 := hw9 ▸ xx.2
          have HI6 := Lib.hid (HI5.out.trans (b9.mono HI5.out.size))
          clear hw9 xx b9 s_cv s_ak s_ck s_bk
          go_wp2_with fail
          go_roundw
          case rel => exact ⟨i + 1, by omega, by go_num, by rw [HCN.out]; go_num, HI6⟩
          case measure => simp [intOf]; omega
    · obtain rfl : i = n := by omega
      have hend : cntV L (K.take i) = L.length := by rw [← HN.out, List.take_length, HK.out]; exact cnt_keys L
      rw [hend]
      have HB9 := Lib.hid (HB8.out.trans (HBr.out.mono HB8.out.size))
      clear hend
      go_wp2_with fail
      go_ret
      exact ⟨by first | rfl | simp, HB9.out⟩
end Go.Proofs.YtpbdfiddgbkkmaaDoor.oper
