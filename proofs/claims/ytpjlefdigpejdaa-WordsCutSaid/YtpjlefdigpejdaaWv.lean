/-
  The contract of the document's Split.
-/
import Derived.Test.YtpjlefdigpejdaaWu
namespace Go.Proofs.Ytpjlefdigpejdaa.words
open Go.ChangeShapes Go.WideShapes Go.ChangeAt Go.RowKit
open Go.Proofs.Ytpjlefdigpejdaa.opened Go.Proofs.Ytpjlefdigpejdaa.block

theorem slice_str (s : Bs) (a b : Nat) (h : a ≤ b) (hb : b ≤ s.length) (W : World) : (Instr.slice 9 (.string ⟨s.toArray⟩) (some (.int .i64 (a : Int))) (some (.int .i64 (b : Int))) none).run Try.prog W = .ok (.string ((⟨s.toArray⟩ : ByteArray).extract a b)) W := by
  go_simp
theorem u8_is {c : UInt8} {n : Nat} (hn : n < 256) {z : Bool} (h : ((c.toNat : Int) == (n : Int)) = z) : c = UInt8.ofNat n ↔ z = true := by
  rw [← h, beq_iff_eq]
  constructor
  · rintro rfl
    simp
    omega
  · intro h
    refine UInt8.toNat_inj.1 ?_
    simp
    omega
theorem u8_not {c : UInt8} {n : Nat} (hn : n < 256) {z : Bool} (h : ((c.toNat : Int) != (n : Int)) = z) : c = UInt8.ofNat n ↔ z = false := by
  have := u8_is (c := c) hn (z := !z) (by rw [← h]; simp [bne])
  rw [this]
  cases z <;> simp
set_option maxRecDepth 100000 in
set_option maxHeartbeats 2000000 in
theorem splitR_any (s : Bs) (hs : s.length ≤ 100000) (w : World) :
    Calls Try.prog 43 #[.string ⟨s.toArray⟩] w fun e w' => ∃ A c, e = .returned (.slice A (splitL s).length c) ∧ OwnS w' w.heap.size (.slice A (splitL s).length c) (splitL s) ∧ Below w.heap.size w w' := by
  obtain ⟨i0, hi, hz0, hz1, hz2⟩ := infoS_parts
  have hsz := size_str s
  go_enter Try.func43, Try.ntmps43
  go_wp2_with fail
  go_loopw [3, 4, 5] (fun v xv iv wr => ∃ (x : Bs) (k : Nat) (N : List Bs) (D : Option Addr) (d : Nat), x.length ≤ k ∧ k ≤ s.length + 1 ∧ N.length ≤ k ∧ xv = sV x ∧ iv = .int .i64 k ∧ v = .slice D N.length d ∧ Hid (k ≤ s.length → splitL s = N ++ splitC x (s.drop k)) ∧ Hid (k = s.length + 1 → splitL s = N) ∧ Hid (OwnS wr w.heap.size (.slice D N.length d) N) ∧ Below w.heap.size w wr) (fun _ _ iv _ => s.length + 1 - (intOf iv).toNat)
  case atStart => exact ⟨[], 0, [], none, 0, Nat.le_refl _, Nat.zero_le _, Nat.le_refl _, rfl, rfl, rfl, Lib.hid (fun _ => rfl), Lib.hid (fun h => by omega), Lib.hid (ownS_nil _ _), Below.refl _ _⟩
  case round =>
    obtain ⟨x, k, N, D, d, hx, hk, hN, rfl, rfl, rfl, HN, HM, HO, hb⟩ := hrel
    have hbs := hb.size
    by_cases hlt : k < s.length
    · have hkS : k < (⟨s.toArray⟩ : ByteArray).size := by rw [hsz]; exact hlt
      have HC := Lib.hid (byteU hkS)
      obtain ⟨z, hz⟩ : ∃ z, ((((⟨s.toArray⟩ : ByteArray)[k]'hkS).toNat : Int) != 32) = z := ⟨_, rfl⟩
      obtain ⟨y, hy⟩ : ∃ y, ((((⟨s.toArray⟩ : ByteArray)[k]'hkS).toNat : Int) == 35) = y := ⟨_, rfl⟩
      have HZ := Lib.hid (u8_not (n := 32) (by omega) hz)
      have HY := Lib.hid (u8_is (n := 35) (by omega) hy)
      have hle : k ≤ s.length := by omega
      have HE := Lib.hid (HN.out hle)
      have hd := drop_at HC.out
      cases z
      · -- a blank
        have e : ((⟨s.toArray⟩ : ByteArray)[k]'hkS) = 32 := HZ.out.2 rfl
        cases x with
        | nil =>
          have HQ : Hid (k + 1 ≤ s.length → splitL s = N ++ splitC [] (s.drop (k + 1))) := Lib.hid (fun _ => by rw [HE.out, hd, e, splitC, if_pos rfl, if_pos rfl])
          clear HC HZ HY HE HN HM hd e
          go_wp2_with fail
          go_roundw
          case rel => exact ⟨[], k + 1, N, D, d, by simp, by omega, by omega, rfl, by go_num, rfl, HQ, Lib.hid (fun h => by omega), HO, hb⟩
          case measure => simp [intOf]; omega
        | cons x0 xr =>
          have HQ : Hid (k + 1 ≤ s.length → splitL s = (N ++ [x0 :: xr]) ++ splitC [] (s.drop (k + 1))) := Lib.hid (fun _ => by rw [HE.out, hd, e, splitC, if_pos rfl, if_neg (by simp)]; simp)
          clear HC HZ HY HE HN HM hd e
          go_wp2_with (at_builtin; refine wpList_append_own _ rfl _ _ 75 rfl w.heap.size 9 i0 (.string ByteArray.empty) 1 16 Try.underlying75 hi hz0 hz1 hz2 rfl (by decide) _ _ _ rfl (HO.out.below (fresh1 wr (.cells #[sV (x0 :: xr)] 9))) ⟨_, 0, none⟩ 1 1 [sV (x0 :: xr)] rfl rfl (cell_new1 _ _ _) (oneS _) (by unfold maxLen; omega) (by omega) (by simp; omega) ?_; intro v' w5 hown' hgrow _; obtain ⟨g', cap', rfl⟩ := ownS_succ hown'; have b5 := HO.out.grown hbs hgrow; have HO5 := Lib.hid hown'; clear hown' hgrow)
          go_roundw
          case rel => exact ⟨[], k + 1, N ++ [x0 :: xr], some ⟨g', 0, none⟩, cap', by simp, by omega, by simp; omega, rfl, by go_num, by rw [List.length_append]; rfl, HQ, Lib.hid (fun h => by omega), Lib.hid (by have := HO5.out; simpa [OwnS] using this), hb.trans b5⟩
          case measure => simp [intOf]; omega
      · have e : ((⟨s.toArray⟩ : ByteArray)[k]'hkS) ≠ 32 := fun h => by have := HZ.out.1 h; cases this
        have hex := extractU s k (k + 1)
        rw [show k + 1 - k = 1 by omega, hd] at hex
        have hrun := fun W => slice_str s k (k + 1) (by omega) (by omega) W
        rw [show (((k + 1 : Nat)) : Int) = (k : Int) + 1 from by omega] at hrun
        generalize hc0 : ((⟨s.toArray⟩ : ByteArray)[k]'hkS) = c0 at HC HZ HY e hd hex
        rw [show (c0 :: s.drop (k + 1)).take 1 = [c0] from rfl] at hex
        have hap : ({ data := x.toArray } : ByteArray) ++ { data := [c0].toArray } = ⟨(x ++ [c0]).toArray⟩ := str_app x [c0]
        rw [hc0] at hz hy
        rw [hex] at hrun
        clear hex
        cases x with
        | nil =>
          cases y
          · have e2 : c0 ≠ 35 := fun h => by have := HY.out.1 h; cases this
            have HQ : Hid (k + 1 ≤ s.length → splitL s = N ++ splitC [c0] (s.drop (k + 1))) := Lib.hid (fun _ => by rw [HE.out, hd, splitC, if_neg e, if_neg (fun h => e2 h.2)]; rfl)
            clear HC HZ HY HE HN HM hd e e2
            go_wp2_with fail
            go_roundw
            case rel => exact ⟨[c0], k + 1, N, D, d, by simp, by omega, by omega, rfl, by go_num, rfl, HQ, Lib.hid (fun h => by omega), HO, hb⟩
            case measure => simp [intOf]; omega
          · have e2 : c0 = 35 := HY.out.2 rfl
            obtain rfl : splitL s = N := by rw [HE.out, hd, splitC, if_neg e, if_pos ⟨rfl, e2⟩, List.append_nil]
            clear HC HZ HY HE HN HM hd e e2
            go_wp2_with fail
            go_ret
            exact ⟨D, d, rfl, HO.out, hb⟩
        | cons x0 xr =>
          have HQ : Hid (k + 1 ≤ s.length → splitL s = N ++ splitC ((x0 :: xr) ++ [c0]) (s.drop (k + 1))) := Lib.hid (fun _ => by rw [HE.out, hd, splitC, if_neg e, if_neg (fun h => by cases h.1)])
          have hne : ((x0 :: xr) == ([] : Bs)) = false := by rfl
          have hne2 : ¬ (x0 :: xr) = ([] : Bs) := by simp
          clear HC HZ HY HE HN HM hd e
          generalize x0 :: xr = x at hx HQ hap hne hne2 ⊢
          go_wp2_with fail
          go_roundw
          case rel => exact ⟨x ++ [c0], k + 1, N, D, d, by simp; omega, by omega, by omega, rfl, by go_num, rfl, HQ, Lib.hid (fun h => by omega), HO, hb⟩
          case measure => simp [intOf]; omega
    · by_cases hke : k = s.length
      · subst hke
        have HE := Lib.hid (HN.out (Nat.le_refl _))
        cases x with
        | nil =>
          have HQ : Hid (splitL s = N) := Lib.hid (by rw [HE.out, List.drop_length, splitC, if_pos rfl, List.append_nil])
          clear HE HN HM
          go_wp2_with fail
          go_roundw
          case rel => exact ⟨[], s.length + 1, N, D, d, by simp, by omega, by omega, rfl, by go_num, rfl, Lib.hid (fun h => by omega), Lib.hid (fun _ => HQ.out), HO, hb⟩
          case measure => simp [intOf]
        | cons x0 xr =>
          have HQ : Hid (splitL s = N ++ [x0 :: xr]) := Lib.hid (by rw [HE.out, List.drop_length, splitC, if_neg (by simp)])
          clear HE HN HM
          go_wp2_with (at_builtin; refine wpList_append_own _ rfl _ _ 75 rfl w.heap.size 9 i0 (.string ByteArray.empty) 1 16 Try.underlying75 hi hz0 hz1 hz2 rfl (by decide) _ _ _ rfl (HO.out.below (fresh1 wr (.cells #[sV (x0 :: xr)] 9))) ⟨_, 0, none⟩ 1 1 [sV (x0 :: xr)] rfl rfl (cell_new1 _ _ _) (oneS _) (by unfold maxLen; omega) (by omega) (by simp; omega) ?_; intro v' w5 hown' hgrow _; obtain ⟨g', cap', rfl⟩ := ownS_succ hown'; have b5 := HO.out.grown hbs hgrow; have HO5 := Lib.hid hown'; clear hown' hgrow)
          go_roundw
          case rel => exact ⟨[], s.length + 1, N ++ [x0 :: xr], some ⟨g', 0, none⟩, cap', by simp, by omega, by simp; omega, rfl, by go_num, by rw [List.length_append]; rfl, Lib.hid (fun h => by omega), Lib.hid (fun _ => HQ.out), Lib.hid (by have := HO5.out; simpa [OwnS] using this), hb.trans b5⟩
          case measure => simp [intOf]
      · obtain rfl : k = s.length + 1 := by omega
        obtain rfl : splitL s = N := HM.out rfl
        clear HN HM
        go_wp2_with fail
        go_ret
        exact ⟨D, d, rfl, HO.out, hb⟩
end Go.Proofs.Ytpjlefdigpejdaa.words
