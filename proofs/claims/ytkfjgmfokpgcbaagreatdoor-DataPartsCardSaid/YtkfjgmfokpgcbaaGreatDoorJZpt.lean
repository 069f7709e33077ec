/-
  The walk of DataParts.
-/
import Derived.Test.YtkfjgmfokpgcbaaGreatDoorJAp
namespace Go.Proofs.YtkfjgmfokpgcbaaGreatDoor.data
open Go.ChangeShapes Go.WideShapes Go.ChangeAt Go.RowKit
open Go.Proofs.YtkfjgmfokpgcbaaGreatDoor.tm Go.Proofs.YtkfjgmfokpgcbaaGreatDoor.opened Go.Proofs.YtkfjgmfokpgcbaaGreatDoor.block Go.Proofs.YtkfjgmfokpgcbaaGreatDoor.words Go.Proofs.YtkfjgmfokpgcbaaGreatDoor.region Go.Proofs.YtkfjgmfokpgcbaaGreatDoor.stamp

theorem drop_at {α : Type} {X : List α} {k : Nat} {x : α} (hx : X[k]? = some x) : X.drop k = x :: X.drop (k + 1) := by
  obtain ⟨h1, rfl⟩ := List.getElem?_eq_some_iff.1 hx
  exact List.drop_eq_getElem_cons h1
theorem sub_hit {α : Type} {X L : List α} {k a : Nat} {x y : α} (hx : X[k]? = some x) (hy : L[a]? = some y) (h : (X.drop k).Sublist (L.drop a)) (e : y = x) : (X.drop (k + 1)).Sublist (L.drop (a + 1)) := by
  rw [drop_at hx, drop_at hy] at h
  subst e
  exact List.cons_sublist_cons.1 h
theorem sub_miss {α : Type} {X L : List α} {k a : Nat} {x y : α} (hx : X[k]? = some x) (hy : L[a]? = some y) (h : (X.drop k).Sublist (L.drop a)) (e : y ≠ x) : (X.drop k).Sublist (L.drop (a + 1)) := by
  rw [drop_at hy, drop_at hx] at h
  rw [drop_at hx]
  generalize X.drop (k + 1) = X1 at h ⊢
  generalize L.drop (a + 1) = L1 at h ⊢
  cases h with
  | cons _ h3 => exact h3
  | cons_cons _ h3 => exact absurd rfl e
theorem sub_lt {α : Type} {X L : List α} {k a : Nat} (hk : k < X.length) (h : (X.drop k).Sublist (L.drop a)) : a < L.length := by
  have := h.length_le
  simp only [List.length_drop] at this
  omega
/-- What the pieces of Spread are. -/
theorem spr_facts (M : Nat) (h0 : 1 ≤ M) (h1 : M ≤ 64) (L : List Rc) : (sprV (M : Int) L).length = M ∧ num.partE (M : Int) = 0 ∧ srtR (sprV (M : Int) L).flatten = srtR L ∧ (sprV (M : Int) L).flatten.length = L.length ∧
    ∀ (i : Nat) (X : List Rc), (sprV (M : Int) L)[i]? = some X → X.Sublist L ∧ ∀ r ∈ X, num.partV r.k (M : Int) = (i : Int) := by
  have hM : 1 ≤ (M : Int) ∧ (M : Int) ≤ 64 := by omega
  have e1 : sprV (M : Int) L = spr (pt (M : Int)) M L := by unfold sprV; rw [if_pos hM]; rfl
  have hp := spr_perm (p := pt (M : Int)) (n := M) (L := L) (fun r _ => by have := (pt_lt hM r).1; omega)
  rw [e1]
  refine ⟨spr_len _ _ _, by unfold num.partE; rw [if_pos hM], srt_congr hp, hp.length_eq, fun i X hX => ?_⟩
  have hi : i < M := by
    have := (List.getElem?_eq_some_iff.1 hX).1
    rwa [spr_len] at this
  rw [spr_get hi] at hX
  obtain rfl := Option.some.inj hX
  refine ⟨List.filter_sublist, fun r hr => ?_⟩
  rw [List.mem_filter] at hr
  have := hr.2
  rw [(pt_lt hM r).2]
  simp at this
  omega
theorem parts_n (n : Int) : ∃ M : Nat, 1 ≤ M ∧ M ≤ 64 ∧ wrap64 (1 + wrap64 ((IntKind.u64.wrap n).tmod 64)) = (M : Int) := by
  have h0 := (IntKind.wrap_u64 n)
  have h1 : (IntKind.u64.wrap n).tmod 64 = IntKind.u64.wrap n % 64 := Int.tmod_eq_emod_of_nonneg (by omega)
  rw [h1]
  have h2 : 0 ≤ IntKind.u64.wrap n % 64 ∧ IntKind.u64.wrap n % 64 < 64 := by omega
  generalize IntKind.u64.wrap n % 64 = r at h2
  refine ⟨(1 + r).toNat, by omega, by omega, ?_⟩
  have e : wrap64 r = r := by unfold wrap64; omega
  rw [e]
  unfold wrap64
  omega
set_option maxRecDepth 100000 in
set_option maxHeartbeats 4000000 in
theorem walkParts (L : List Rc) (A : Option Addr) (c : Nat) (n : Int) (w : World) (hE : Env w) (hL : Lr w A L) :
    Calls Tryz.prog 3 #[.slice A L.length c, .int .i64 n] w fun e w' => e = .returned (.bool true) ∧ Below w.heap.size w w' := by
  have WK := Lib.hid (works_any w hE)
  have HL := Lib.hid hL
  clear hL hE
  by_cases hl : L.length ≤ 300
  rotate_left
  · have hl' : (300 : Int) < (L.length : Int) := by omega
    go_enter Tryz.func3, Tryz.ntmps3
    go_wp2_with (go_at_call 6; refine WK.out.mono ?_; rintro e w1 ⟨rfl, b1⟩; have B1 := Lib.hid b1; clear b1)
    go_ret
    exact ⟨rfl, B1.out⟩
  have hl' : ¬ (300 : Int) < (L.length : Int) := by omega
  obtain ⟨i0, hi0, hz0, hz1, hz2⟩ := infoR_parts
  have OW := Lib.hid (fun w0 h => own_any A c L (by omega) w0 h)
  have SP := Lib.hid (fun B c0 m w0 h => spread_any B c0 L m (by omega) w0 h)
  have SA := Lib.hid (fun B c0 D c1 (U : List Rc) hU w0 h k => same_any B D c0 c1 U L hU (by omega) w0 h k)
  have LL3 : Hid (L.length ≤ 300) := Lib.hid hl
  clear hl
  go_enter Tryz.func3, Tryz.ntmps3
  go_upto_region 6 with (go_at_call 6; refine WK.out.mono ?_; rintro e w1 ⟨rfl, b1⟩; have HL1 := Lib.hid (HL.out.below b1); have B1 := Lib.hid b1; clear b1)
  clear WK HL hl'
  obtain ⟨M, m0, m1, hM⟩ := parts_n n
  rw [hM]
  obtain ⟨f1, f2, f3, f4, f5⟩ := spr_facts M m0 m1 L
  have SP1 := Lib.hid (fun B c0 w0 h => SP.out B c0 (M : Int) w0 h)
  rw [f1, f2] at SP1
  have F5 := Lib.hid f5
  have F3 := Lib.hid f3
  have F4 := Lib.hid f4
  have F1 := Lib.hid f1
  have FL := Lib.hid (fun k => flat_le (sprV (M : Int) L) k)
  rw [f4] at FL
  clear SP f1 f2 f3 f4 f5 hM
  generalize sprV (M : Int) L = N at SP1 F1 F3 F4 F5 FL
  go_wp2_with (first
    | (go_at_call 7; refine (SP1.out _ _ _ HO.out).mono ?_; rintro e w3 ⟨P, pc, rfl, hp, b3⟩; have HP := Lib.hid hp; have HL3 := Lib.hid (HL2.out.below b3); have B3 := Lib.hid (then_below B2.out b3); clear hp b3)
    | (go_at_call 8; refine (OW.out _ HL1.out).mono ?_; rintro e w2 ⟨B, bc, rfl, ho, b2⟩; have HO := Lib.hid (OwnG.lg cellsR ho); have HL2 := Lib.hid (HL1.out.below b2); have B2 := Lib.hid (then_below B1.out b2); clear ho b2))
  clear SP1 HO HL1 HL2 B1 B2
  go_loopw [7, 8] (fun v7 s wr => ∃ (i : Nat) (V : Option Addr) (c7 : Nat) (U : List Rc), i ≤ M ∧ s = .int .i64 i ∧ v7 = .slice V U.length c7 ∧ Hid (U = (N.take i).flatten) ∧ Hid (OwnR wr w3.heap.size (.slice V U.length c7) U) ∧ Hid (Below w3.heap.size w3 wr)) (fun _ s _ => M - (intOf s).toNat)
  case atStart => exact ⟨0, none, 0, [], Nat.zero_le _, rfl, rfl, Lib.hid (by simp), Lib.hid (ownG_nil _ _), Lib.hid (Below.refl _ _)⟩
  case round =>
    rename World => w4
    obtain ⟨i, V, c7, U, hi, rfl, rfl, HU, HV, HB⟩ := hrel
    by_cases hlt : i < M
    · obtain ⟨X, hx⟩ : ∃ X, N[i]? = some X := ⟨_, List.getElem?_eq_getElem (by rw [F1.out]; exact hlt)⟩
      obtain ⟨s1, s2⟩ := F5.out i _ hx
      obtain ⟨pb, po, Y, yc, rfl, hpb, hyc, hY⟩ := (HP.out.below HB.out).rows i _ hx
      have hft := flat_take hx
      rw [← HU.out] at hft
      have hfl := FL.out (i + 1)
      have HX := Lib.hid hft.symm
      have hxl : X.length ≤ L.length := s1.length_le
      have HF : Hid (U.length + X.length ≤ 300) := Lib.hid (by rw [hft, List.length_append] at hfl; have := LL3.out; omega)
      have HSZ := Lib.hid HB.out.size
      have HY := Lib.hid hY
      have HPT := Lib.hid s2
      have HSB := Lib.hid s1
      have HYC := Lib.hid hyc
      have HPB := Lib.hid hpb
      have hl3 := LL3.out
      have hlM : (i : Int) < (M : Int) := by omega
      clear hft hfl s1 s2 hY hx HU hyc hpb
      have HB0 := HB
      have HV0 := HV
      clear HB HV
      go_wp2
      go_loopw [9, 10] (fun v9 s wr2 => ∃ (k a : Nat), k ≤ X.length ∧ a ≤ L.length ∧ s = .int .i64 k ∧ v9 = .int .i64 a ∧ Hid ((X.drop k).Sublist (L.drop a)) ∧ Hid (Below w4.heap.size w4 wr2)) (fun _ s _ => X.length - (intOf s).toNat)
      case atStart => exact ⟨0, 0, Nat.zero_le _, Nat.zero_le _, rfl, rfl, Lib.hid (by simpa using HSB.out), Lib.hid (Below.refl _ _)⟩
      case round =>
        rename World => wr2
        obtain ⟨k, a, hk, ha, rfl, rfl, HD, HB2⟩ := hrel
        have hyc := (HB2.out.cell (p := ⟨pb, po + i, none⟩) HPB.out).trans HYC.out
        by_cases hkl : k < X.length
        · obtain ⟨x, hx, hxm⟩ := get_ltR hkl
          obtain ⟨yb, yo, rfl, hyb, c0, c1⟩ := at_rc (HY.out.below HB2.out) hx
          have PA := Lib.hid (num.part_any x.k (M : Int) wr2)
          rw [HPT.out x hxm] at PA
          have HX1 := Lib.hid hx
          have C0 := Lib.hid c0
          have C1 := Lib.hid c1
          have HYB := Lib.hid hyb
          have hkx : (k : Int) < (X.length : Int) := by omega
          clear hx hxm hyb c1
          go_upto_region 18 with (go_at_call 9; refine PA.out.mono ?_; rintro e w5 ⟨rfl, rfl⟩)
          clear PA c0 hyc
          go_wp2
          go_loopw [9] (fun s wr3 => ∃ (a : Nat), a ≤ L.length ∧ s = .int .i64 a ∧ Hid ((X.drop k).Sublist (L.drop a)) ∧ Hid (Below wr2.heap.size wr2 wr3)) (fun s _ => L.length - (intOf s).toNat)
          case atStart => exact ⟨a, ha, rfl, HD, Lib.hid (Below.refl _ _)⟩
          case round =>
            clear HD ha
            rename World => wr3
            obtain ⟨a, ha, rfl, HD, HB3⟩ := hrel
            have hal : a < L.length := sub_lt hkl HD.out
            obtain ⟨y, hy, -⟩ := get_ltR hal
            have HB23 := Lib.hid (then_below HB2.out HB3.out)
            obtain ⟨ab, ao, rfl, hab, d0, d1⟩ := at_rc (HL3.out.below (then_below HB0.out HB23.out)) hy
            have c0 := (HB3.out.cell (p := ⟨yb, yo + k * 2, none⟩) HYB.out).trans C0.out
            have c1 := (HB3.out.cell (p := ⟨yb, yo + k * 2 + 1, none⟩) HYB.out).trans C1.out
            have hyc := (HB23.out.cell (p := ⟨pb, po + i, none⟩) HPB.out).trans HYC.out
            have hq := run_neR y x
            have HY1 := Lib.hid hy
            have haL : (a : Int) < (L.length : Int) := by omega
            clear hy hab
            by_cases hv : y = x
            · have HD2 := Lib.hid (sub_hit HX1.out HY1.out HD.out hv)
              rw [decide_eq_true hv] at hq
              have hne : ((a : Int) == (L.length : Int)) = false := by rw [beq_eq_false_iff_ne]; omega
              clear hv HD
              go_upto_region 20 with fail
              go_quiet (fail)
              go_wp2_with fail
              go_roundw
              case rel => exact ⟨k + 1, a + 1, by omega, by omega, by go_num, by go_num, HD2, Lib.hid (below_drewN HB23.out _)⟩
              case measure => simp [intOf]; omega
            · have HD2 := Lib.hid (sub_miss HX1.out HY1.out HD.out hv)
              rw [decide_eq_false hv] at hq
              clear hv HD
              go_upto_region 20 with fail
              go_quiet (fail)
              go_wp2_with fail
              go_roundw
              case rel => exact ⟨a + 1, by omega, by go_num, HD2, Lib.hid (below_drewN HB3.out _)⟩
              case measure => simp [intOf]; omega
        · have hkx : ¬ (k : Int) < (X.length : Int) := by omega
          have HV2 := Lib.hid (HV0.out.below HB2.out)
          have HY2 := Lib.hid (HY.out.below HB2.out)
          have HSZ2 := Lib.hid (Nat.le_trans HSZ.out HB2.out.size)
          have B02 := Lib.hid (HB0.out.trans (HB2.out.mono HB0.out.size))
          clear HD hk ha
          go_wp2_with (at_builtin; refine wpList_append_row (T := 33) (f := cR) cellsR (by decide) rfl _ _ 22 rfl w3.heap.size i0 (.agg #[.int .i64 0, .int .i64 0]) 16 Tryz.underlying22 hi0 hz0 hz1 hz2 rfl (N := U) (M := X) rfl rfl HV2.out HY2.out (by have := HF.out; unfold maxLen; omega) (by have := HF.out; omega) HSZ2.out ?_; intro B5 cap5 w5 hown5 hgrow hat; have HX5 := HX; generalize U ++ X = U5 at hown5 HX5 ⊢; have HV5 := Lib.hid hown5; have HB5 := Lib.hid (B02.out.grown hgrow HSZ2.out (fun j e => (HV2.out.lt j e).1)); clear hown5 hgrow hat)
          go_roundw
          case rel => exact ⟨i + 1, _, _, _, by omega, by go_num, rfl, HX5, HV5, HB5⟩
          case measure => simp [intOf]; omega
    · have HA : Hid (Lr w4 V U) := Lib.hid (OwnG.lg cellsR HV.out)
      have hU : U = N.flatten := by rw [HU.out, List.take_of_length_le (by rw [F1.out]; omega)]
      have HLu : Hid (U.length ≤ 4096) := Lib.hid (by have := LL3.out; rw [hU, F4.out]; omega)
      have HSu : Hid (srtR U = srtR L) := Lib.hid (by rw [hU]; exact F3.out)
      have HL4 := Lib.hid (HL3.out.below HB.out)
      have B4 := Lib.hid (then_below B3.out HB.out)
      clear HV HU hU
      go_wp2_with (first
        | (go_at_call 10; refine (SA.out _ _ _ _ _ HLu.out _ HA5.out HO.out).mono ?_; rintro e w6 ⟨rfl, b6⟩; have B6 := Lib.hid (then_below B5.out b6); clear b6)
        | (go_at_call 8; refine (OW.out _ HL4.out).mono ?_; rintro e w5 ⟨D, dc, rfl, ho, b5⟩; have HO := Lib.hid (OwnG.lg cellsR ho); have HA5 := Lib.hid (HA.out.below b5); have B5 := Lib.hid (then_below B4.out b5); clear ho b5))
      go_ret
      rw [decide_eq_true HSu.out]
      exact ⟨rfl, B6.out⟩
end Go.Proofs.YtkfjgmfokpgcbaaGreatDoor.data
