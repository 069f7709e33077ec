/-
  The contracts of the document's Lines and Split.
  The contract of the document's Split.
  The contracts of the document's Name and Option.
-/
import Derived.Test.YtpblpjopinllcaaGreatDoorJLayW
import Derived.Test.YtpblpjopinllcaaGreatDoorJWn
namespace Go.Proofs.YtpblpjopinllcaaGreatDoor.words
open Go.ChangeShapes Go.WideShapes Go.ChangeAt Go.RowKit
open Go.Proofs.YtpblpjopinllcaaGreatDoor.opened Go.Proofs.YtpblpjopinllcaaGreatDoor.block

theorem size_str (s : Bs) : (⟨s.toArray⟩ : ByteArray).size = s.length := by show s.toArray.size = _; simp
theorem byteU {s : Bs} {k : Nat} (h : k < (⟨s.toArray⟩ : ByteArray).size) : s[k]? = some ((⟨s.toArray⟩ : ByteArray)[k]'h) := by
  have h' : k < s.length := by rw [size_str] at h; exact h
  rw [List.getElem?_eq_getElem h']
  rfl
theorem extractU (s : Bs) (a b : Nat) : (⟨s.toArray⟩ : ByteArray).extract a b = ⟨((s.drop a).take (b - a)).toArray⟩ := by
  have := Lib.extract_eq (⟨s.toArray⟩ : ByteArray) a b
  simpa using this
theorem drop_at {s : Bs} {k : Nat} {c : UInt8} (h : s[k]? = some c) : s.drop k = c :: s.drop (k + 1) := by
  obtain ⟨hl, e⟩ := List.getElem?_eq_some_iff.1 h
  rw [List.drop_eq_getElem_cons hl, e]
theorem piece_more {s : Bs} {a k : Nat} {c : UInt8} (h : s[k]? = some c) (ha : a ≤ k) : (s.drop a).take (k + 1 - a) = (s.drop a).take (k - a) ++ [c] := by
  rw [show k + 1 - a = (k - a) + 1 by omega, List.take_add_one, List.getElem?_drop, show a + (k - a) = k by omega, h]
  rfl
set_option maxRecDepth 100000 in
set_option maxHeartbeats 1000000 in
theorem linesR_any (s : Bs) (hs : s.length ≤ 100000) (w : World) :
    Calls Tryz.prog 76 #[.string ⟨s.toArray⟩] w fun e w' => ∃ A c, e = .returned (.slice A (linesL s).length c) ∧ OwnS w' w.heap.size (.slice A (linesL s).length c) (linesL s) ∧ Below w.heap.size w w' := by
  obtain ⟨i0, hi, hz0, hz1, hz2⟩ := infoS_parts
  have hsz := size_str s
  go_enter Tryz.func76, Tryz.ntmps76
  go_wp2_with fail
  go_loopw [3, 4, 5] (fun v av iv wr => ∃ (a k : Nat) (N : List Bs) (D : Option Addr) (d : Nat), a ≤ k ∧ k ≤ s.length ∧ N.length ≤ k ∧ av = .int .i64 a ∧ iv = .int .i64 k ∧ v = .slice D N.length d ∧ Hid (linesL s = N ++ linesC ((s.drop a).take (k - a)) (s.drop k)) ∧ Hid (OwnS wr w.heap.size (.slice D N.length d) N) ∧ Below w.heap.size w wr) (fun _ _ iv _ => s.length - (intOf iv).toNat)
  case atStart => exact ⟨0, 0, [], none, 0, Nat.le_refl _, Nat.zero_le _, Nat.le_refl _, rfl, rfl, rfl, Lib.hid rfl, Lib.hid (ownS_nil _ _), Below.refl _ _⟩
  case round =>
    obtain ⟨a, k, N, D, d, ha, hk, hN, rfl, rfl, rfl, HN, HO, hb⟩ := hrel
    have hbs := hb.size
    by_cases hlt : k < s.length
    · have hkS : k < (⟨s.toArray⟩ : ByteArray).size := by rw [hsz]; exact hlt
      have HC := Lib.hid (byteU hkS)
      obtain ⟨z, hz⟩ : ∃ z, ((((⟨s.toArray⟩ : ByteArray)[k]'hkS).toNat : Int) == 10) = z := ⟨_, rfl⟩
      have HZ : Hid (((⟨s.toArray⟩ : ByteArray)[k]'hkS) = 10 ↔ z = true) := Lib.hid (by
        rw [← hz, beq_iff_eq]
        constructor
        · intro h; rw [h]; rfl
        · intro h; exact UInt8.toNat_inj.1 (by show _ = 10; omega))
      cases z
      · have HQ : Hid (linesL s = N ++ linesC ((s.drop a).take (k + 1 - a)) (s.drop (k + 1))) := Lib.hid (by
          rw [HN.out, drop_at HC.out, linesC, if_neg (fun h => by have := HZ.out.1 h; cases this), piece_more HC.out ha])
        clear HC HZ HN
        go_wp2_with fail
        go_roundw
        case rel => exact ⟨a, k + 1, N, D, d, by omega, by omega, by omega, rfl, by go_num, rfl, HQ, HO, hb⟩
        case measure => simp [intOf]; omega
      · have HQ : Hid (linesL s = (N ++ [(s.drop a).take (k - a)]) ++ linesC ((s.drop (k + 1)).take (k + 1 - (k + 1))) (s.drop (k + 1))) := Lib.hid (by
          rw [HN.out, drop_at HC.out, linesC, if_pos (HZ.out.2 rfl), Nat.sub_self, List.take_zero]
          simp)
        have hex := extractU s a k
        clear HC HZ HN
        generalize (s.drop a).take (k - a) = x at hex HQ
        go_wp2_with (at_builtin; refine wpList_append_own _ rfl _ _ 126 rfl w.heap.size 9 i0 (.string ByteArray.empty) 1 16 Tryz.underlying126 hi hz0 hz1 hz2 rfl (by decide) _ _ _ rfl (HO.out.below (fresh1 wr (.cells #[sV x] 9))) ⟨_, 0, none⟩ 1 1 [sV x] rfl rfl (cell_new1 _ _ _) (oneS _) (by unfold maxLen; omega) (by omega) (by simp; omega) ?_; intro v' w5 hown' hgrow _; obtain ⟨g', cap', rfl⟩ := ownS_succ hown'; have b5 := HO.out.grown hbs hgrow; have HO5 := Lib.hid hown'; clear hown' hgrow)
        go_roundw
        case rel => exact ⟨k + 1, k + 1, N ++ [x], some ⟨g', 0, none⟩, cap', by omega, by omega, by simp; omega, by go_num, by go_num, by rw [List.length_append]; rfl, HQ, Lib.hid (by have := HO5.out; simpa [OwnS] using this), hb.trans b5⟩
        case measure => simp [intOf]; omega
    · obtain rfl : k = s.length := by omega
      by_cases hal : a < s.length
      · have HQ : Hid (linesL s = N ++ [s.drop a]) := Lib.hid (by
          have := HN.out
          rw [List.drop_length, List.take_of_length_le (by simp), linesC, if_neg (by simpa using hal)] at this
          exact this)
        have hex := extractU s a s.length
        rw [List.take_of_length_le (by simp)] at hex
        clear HN
        generalize s.drop a = x at hex HQ
        go_wp2_with (at_builtin; refine wpList_append_own _ rfl _ _ 126 rfl w.heap.size 9 i0 (.string ByteArray.empty) 1 16 Tryz.underlying126 hi hz0 hz1 hz2 rfl (by decide) _ _ _ rfl (HO.out.below (fresh1 wr (.cells #[sV x] 9))) ⟨_, 0, none⟩ 1 1 [sV x] rfl rfl (cell_new1 _ _ _) (oneS _) (by unfold maxLen; omega) (by omega) (by simp; omega) ?_; intro v' w5 hown' hgrow _; obtain ⟨g', cap', rfl⟩ := ownS_succ hown'; have b5 := HO.out.grown hbs hgrow; have HO5 := Lib.hid hown'; clear hown' hgrow)
        go_ret
        rw [HQ.out]
        exact ⟨_, cap', by rw [List.length_append]; rfl, by have := HO5.out; simpa [OwnS] using this, hb.trans b5⟩
      · obtain rfl : linesL s = N := by
          have := HN.out
          rw [List.drop_length, List.take_of_length_le (by simp), List.drop_eq_nil_of_le (by omega), linesC, if_pos rfl, List.append_nil] at this
          exact this
        clear HN
        go_wp2_with fail
        go_ret
        exact ⟨D, d, rfl, HO.out, hb⟩
end Go.Proofs.YtpblpjopinllcaaGreatDoor.words
namespace Go.Proofs.YtpblpjopinllcaaGreatDoor.words
open Go.ChangeShapes Go.WideShapes Go.ChangeAt Go.RowKit
open Go.Proofs.YtpblpjopinllcaaGreatDoor.opened Go.Proofs.YtpblpjopinllcaaGreatDoor.block

theorem slice_str (s : Bs) (a b : Nat) (h : a ≤ b) (hb : b ≤ s.length) (W : World) : (Instr.slice 9 (.string ⟨s.toArray⟩) (some (.int .i64 (a : Int))) (some (.int .i64 (b : Int))) none).run Tryz.prog W = .ok (.string ((⟨s.toArray⟩ : ByteArray).extract a b)) W := by
  go_simp
theorem u8_is {c : UInt8} {n : Nat} (hn : n < 256) {z : Bool} (h : ((c.toNat : Int) == (n : Int)) = z) : c = UInt8.ofNat n ↔ z = true := by
  rw [← h, beq_iff_eq]
  constructor
  · rintro rfl
    simp
    omega
  · intro h
    refine UInt8.toNat_inj.1 ?_
    simp
    omega
theorem u8_not {c : UInt8} {n : Nat} (hn : n < 256) {z : Bool} (h : ((c.toNat : Int) != (n : Int)) = z) : c = UInt8.ofNat n ↔ z = false := by
  have := u8_is (c := c) hn (z := !z) (by rw [← h]; simp [bne])
  rw [this]
  cases z <;> simp
set_option maxRecDepth 100000 in
set_option maxHeartbeats 2000000 in
theorem splitR_any (s : Bs) (hs : s.length ≤ 100000) (w : World) :
    Calls Tryz.prog 77 #[.string ⟨s.toArray⟩] w fun e w' => ∃ A c, e = .returned (.slice A (splitL s).length c) ∧ OwnS w' w.heap.size (.slice A (splitL s).length c) (splitL s) ∧ Below w.heap.size w w' := by
  obtain ⟨i0, hi, hz0, hz1, hz2⟩ := infoS_parts
  have hsz := size_str s
  go_enter Tryz.func77, Tryz.ntmps77
  go_wp2_with fail
  go_loopw [3, 4, 5] (fun v xv iv wr => ∃ (x : Bs) (k : Nat) (N : List Bs) (D : Option Addr) (d : Nat), x.length ≤ k ∧ k ≤ s.length + 1 ∧ N.length ≤ k ∧ xv = sV x ∧ iv = .int .i64 k ∧ v = .slice D N.length d ∧ Hid (k ≤ s.length → splitL s = N ++ splitC x (s.drop k)) ∧ Hid (k = s.length + 1 → splitL s = N) ∧ Hid (OwnS wr w.heap.size (.slice D N.length d) N) ∧ Below w.heap.size w wr) (fun _ _ iv _ => s.length + 1 - (intOf iv).toNat)
  case atStart => exact ⟨[], 0, [], none, 0, Nat.le_refl _, Nat.zero_le _, Nat.le_refl _, rfl, rfl, rfl, Lib.hid (fun _ => rfl), Lib.hid (fun h => by omega), Lib.hid (ownS_nil _ _), Below.refl _ _⟩
  case round =>
    obtain ⟨x, k, N, D, d, hx, hk, hN, rfl, rfl, rfl, HN, HM, HO, hb⟩ := hrel
    have hbs := hb.size
    by_cases hlt : k < s.length
    · have hkS : k < (⟨s.toArray⟩ : ByteArray).size := by rw [hsz]; exact hlt
      have HC := Lib.hid (byteU hkS)
      obtain ⟨z, hz⟩ : ∃ z, ((((⟨s.toArray⟩ : ByteArray)[k]'hkS).toNat : Int) != 32) = z := ⟨_, rfl⟩
      obtain ⟨y, hy⟩ : ∃ y, ((((⟨s.toArray⟩ : ByteArray)[k]'hkS).toNat : Int) == 35) = y := ⟨_, rfl⟩
      have HZ := Lib.hid (u8_not (n := 32) (by omega) hz)
      have HY := Lib.hid (u8_is (n := 35) (by omega) hy)
      have hle : k ≤ s.length := by omega
      have HE := Lib.hid (HN.out hle)
      have hd := drop_at HC.out
      cases z
      · -- a blank
        have e : ((⟨s.toArray⟩ : ByteArray)[k]'hkS) = 32 := HZ.out.2 rfl
        cases x with
        | nil =>
          have HQ : Hid (k + 1 ≤ s.length → splitL s = N ++ splitC [] (s.drop (k + 1))) := Lib.hid (fun _ => by rw [HE.out, hd, e, splitC, if_pos rfl, if_pos rfl])
          clear HC HZ HY HE HN HM hd e
          go_wp2_with fail
          go_roundw
          case rel => exact ⟨[], k + 1, N, D, d, by simp, by omega, by omega, rfl, by go_num, rfl, HQ, Lib.hid (fun h => by omega), HO, hb⟩
          case measure => simp [intOf]; omega
        | cons x0 xr =>
          have HQ : Hid (k + 1 ≤ s.length → splitL s = (N ++ [x0 :: xr]) ++ splitC [] (s.drop (k + 1))) := Lib.hid (fun _ => by rw [HE.out, hd, e, splitC, if_pos rfl, if_neg (by simp)]; simp)
          clear HC HZ HY HE HN HM hd e
          go_wp2_with (at_builtin; refine wpList_append_own _ rfl _ _ 126 rfl w.heap.size 9 i0 (.string ByteArray.empty) 1 16 Tryz.underlying126 hi hz0 hz1 hz2 rfl (by decide) _ _ _ rfl (HO.out.below (fresh1 wr (.cells #[sV (x0 :: xr)] 9))) ⟨_, 0, none⟩ 1 1 [sV (x0 :: xr)] rfl rfl (cell_new1 _ _ _) (oneS _) (by unfold maxLen; omega) (by omega) (by simp; omega) ?_; intro v' w5 hown' hgrow _; obtain ⟨g', cap', rfl⟩ := ownS_succ hown'; have b5 := HO.out.grown hbs hgrow; have HO5 := Lib.hid hown'; clear hown' hgrow)
          go_roundw
          case rel => exact ⟨[], k + 1, N ++ [x0 :: xr], some ⟨g', 0, none⟩, cap', by simp, by omega, by simp; omega, rfl, by go_num, by rw [List.length_append]; rfl, HQ, Lib.hid (fun h => by omega), Lib.hid (by have := HO5.out; simpa [OwnS] using this), hb.trans b5⟩
          case measure => simp [intOf]; omega
      · have e : ((⟨s.toArray⟩ : ByteArray)[k]'hkS) ≠ 32 := fun h => by have := HZ.out.1 h; cases this
        have hex := extractU s k (k + 1)
        rw [show k + 1 - k = 1 by omega, hd] at hex
        have hrun := fun W => slice_str s k (k + 1) (by omega) (by omega) W
        rw [show (((k + 1 : Nat)) : Int) = (k : Int) + 1 from by omega] at hrun
        generalize hc0 : ((⟨s.toArray⟩ : ByteArray)[k]'hkS) = c0 at HC HZ HY e hd hex
        rw [show (c0 :: s.drop (k + 1)).take 1 = [c0] from rfl] at hex
        have hap : ({ data := x.toArray } : ByteArray) ++ { data := [c0].toArray } = ⟨(x ++ [c0]).toArray⟩ := str_app x [c0]
        rw [hc0] at hz hy
        rw [hex] at hrun
        clear hex
        cases x with
        | nil =>
          cases y
          · have e2 : c0 ≠ 35 := fun h => by have := HY.out.1 h; cases this
            have HQ : Hid (k + 1 ≤ s.length → splitL s = N ++ splitC [c0] (s.drop (k + 1))) := Lib.hid (fun _ => by rw [HE.out, hd, splitC, if_neg e, if_neg (fun h => e2 h.2)]; rfl)
            clear HC HZ HY HE HN HM hd e e2
            go_wp2_with fail
            go_roundw
            case rel => exact ⟨[c0], k + 1, N, D, d, by simp, by omega, by omega, rfl, by go_num, rfl, HQ, Lib.hid (fun h => by omega), HO, hb⟩
            case measure => simp [intOf]; omega
          · have e2 : c0 = 35 := HY.out.2 rfl
            obtain rfl : splitL s = N := by rw [HE.out, hd, splitC, if_neg e, if_pos ⟨rfl, e2⟩, List.append_nil]
            clear HC HZ HY HE HN HM hd e e2
            go_wp2_with fail
            go_ret
            exact ⟨D, d, rfl, HO.out, hb⟩
        | cons x0 xr =>
          have HQ : Hid (k + 1 ≤ s.length → splitL s = N ++ splitC ((x0 :: xr) ++ [c0]) (s.drop (k + 1))) := Lib.hid (fun _ => by rw [HE.out, hd, splitC, if_neg e, if_neg (fun h => by cases h.1)])
          have hne : ((x0 :: xr) == ([] : Bs)) = false := by rfl
          have hne2 : ¬ (x0 :: xr) = ([] : Bs) := by simp
          clear HC HZ HY HE HN HM hd e
          generalize x0 :: xr = x at hx HQ hap hne hne2 ⊢
          go_wp2_with fail
          go_roundw
          case rel => exact ⟨x ++ [c0], k + 1, N, D, d, by simp; omega, by omega, by omega, rfl, by go_num, rfl, HQ, Lib.hid (fun h => by omega), HO, hb⟩
          case measure => simp [intOf]; omega
    · by_cases hke : k = s.length
      · subst hke
        have HE := Lib.hid (HN.out (Nat.le_refl _))
        cases x with
        | nil =>
          have HQ : Hid (splitL s = N) := Lib.hid (by rw [HE.out, List.drop_length, splitC, if_pos rfl, List.append_nil])
          clear HE HN HM
          go_wp2_with fail
          go_roundw
          case rel => exact ⟨[], s.length + 1, N, D, d, by simp, by omega, by omega, rfl, by go_num, rfl, Lib.hid (fun h => by omega), Lib.hid (fun _ => HQ.out), HO, hb⟩
          case measure => simp [intOf]
        | cons x0 xr =>
          have HQ : Hid (splitL s = N ++ [x0 :: xr]) := Lib.hid (by rw [HE.out, List.drop_length, splitC, if_neg (by simp)])
          clear HE HN HM
          go_wp2_with (at_builtin; refine wpList_append_own _ rfl _ _ 126 rfl w.heap.size 9 i0 (.string ByteArray.empty) 1 16 Tryz.underlying126 hi hz0 hz1 hz2 rfl (by decide) _ _ _ rfl (HO.out.below (fresh1 wr (.cells #[sV (x0 :: xr)] 9))) ⟨_, 0, none⟩ 1 1 [sV (x0 :: xr)] rfl rfl (cell_new1 _ _ _) (oneS _) (by unfold maxLen; omega) (by omega) (by simp; omega) ?_; intro v' w5 hown' hgrow _; obtain ⟨g', cap', rfl⟩ := ownS_succ hown'; have b5 := HO.out.grown hbs hgrow; have HO5 := Lib.hid hown'; clear hown' hgrow)
          go_roundw
          case rel => exact ⟨[], s.length + 1, N ++ [x0 :: xr], some ⟨g', 0, none⟩, cap', by simp, by omega, by simp; omega, rfl, by go_num, by rw [List.length_append]; rfl, Lib.hid (fun h => by omega), Lib.hid (fun _ => HQ.out), Lib.hid (by have := HO5.out; simpa [OwnS] using this), hb.trans b5⟩
          case measure => simp [intOf]
      · obtain rfl : k = s.length + 1 := by omega
        obtain rfl : splitL s = N := HM.out rfl
        clear HN HM
        go_wp2_with fail
        go_ret
        exact ⟨D, d, rfl, HO.out, hb⟩
end Go.Proofs.YtpblpjopinllcaaGreatDoor.words
namespace Go.Proofs.YtpblpjopinllcaaGreatDoor.words
open Go.ChangeShapes Go.WideShapes Go.ChangeAt Go.RowKit
open Go.Proofs.YtpblpjopinllcaaGreatDoor.opened Go.Proofs.YtpblpjopinllcaaGreatDoor.block

theorem nameR_yes {s : Bs} {c : UInt8} (h0 : s[0]? = some c) (h1 : isA c = true) (h2 : s.length ≤ 12) (h : ∀ (j : Nat) c, s[j]? = some c → (isA c || isD c) = true) : nameB s = true := by
  refine name_yes (List.length_pos_iff.2 (by rintro rfl; simp at h0)) h2 fun j d hj => ?_
  unfold okB
  by_cases hj0 : j = 0
  · subst hj0
    rw [h0] at hj
    cases hj
    rw [h1]
    rfl
  · have := h j d hj
    simpa [hj0] using this
theorem nameR_not {s : Bs} {j : Nat} {c : UInt8} (hj : s[j]? = some c) (h : (isA c || isD c) = false) : nameB s = false := by
  refine name_not hj ?_
  unfold okB
  rw [Bool.or_eq_false_iff] at h
  rw [h.1, h.2]
  simp
theorem isA_int (c : UInt8) : isA c = decide (97 ≤ (c.toNat : Int) ∧ (c.toNat : Int) ≤ 122) := by
  unfold isA
  rw [Bool.eq_iff_iff, decide_eq_true_iff, decide_eq_true_iff]
  omega
theorem isD_int (c : UInt8) : isD c = decide (48 ≤ (c.toNat : Int) ∧ (c.toNat : Int) ≤ 57) := by
  unfold isD
  rw [Bool.eq_iff_iff, decide_eq_true_iff, decide_eq_true_iff]
  omega
set_option maxRecDepth 100000 in
set_option maxHeartbeats 1000000 in
theorem nameR_any (s : Bs) (w : World) : Calls Tryz.prog 231 #[.string ⟨s.toArray⟩] w fun e w' => e = .returned (.bool (nameB s)) ∧ Below w.heap.size w w' := by
  have hsz := size_str s
  by_cases h1 : s.length < 1
  · have hs : s = [] := List.length_eq_zero_iff.1 (by omega)
    rw [show nameB s = false by rw [hs]; rfl]
    have h1' : (s.length : Int) < 1 := by omega
    clear hs
    go_enter Tryz.func231, Tryz.ntmps231
    go_wp2_with fail
    go_ret
    exact ⟨rfl, Below.refl _ _⟩
  · have h1' : ¬ (s.length : Int) < 1 := by omega
    by_cases h12 : s.length ≤ 12
    · have h12' : ¬ (12 : Int) < (s.length : Int) := by omega
      have h0S : 0 < (⟨s.toArray⟩ : ByteArray).size := by rw [hsz]; omega
      have HC0 := Lib.hid (byteU h0S)
      have HA0 := Lib.hid (isA_int ((⟨s.toArray⟩ : ByteArray)[0]'h0S))
      by_cases hA : isA ((⟨s.toArray⟩ : ByteArray)[0]'h0S) = true
      · have HA1 := Lib.hid hA
        have hr : (97 : Int) ≤ (((⟨s.toArray⟩ : ByteArray)[0]'h0S).toNat : Int) ∧ (((⟨s.toArray⟩ : ByteArray)[0]'h0S).toNat : Int) ≤ 122 := by
          have := HA0.out
          rw [hA] at this
          exact of_decide_eq_true this.symm
        obtain ⟨hr1, hr2⟩ := hr
        have hr1' : ¬ (((⟨s.toArray⟩ : ByteArray)[0]'h0S).toNat : Int) < 97 := by omega
        have hr2' : ¬ (122 : Int) < (((⟨s.toArray⟩ : ByteArray)[0]'h0S).toNat : Int) := by omega
        clear hA
        go_enter Tryz.func231, Tryz.ntmps231
        go_wp2_with fail
        go_loop [3] (fun iv => ∃ k : Nat, k ≤ s.length ∧ iv = .int .i64 k ∧ Hid (∀ (j : Nat) c, j < k → s[j]? = some c → (isA c || isD c) = true)) (fun iv => s.length - (intOf iv).toNat)
        case atStart => exact ⟨0, Nat.zero_le _, rfl, Lib.hid (fun j c h => absurd h (Nat.not_lt_zero _))⟩
        case round =>
          obtain ⟨k, hk, rfl, HN⟩ := hrel
          by_cases hlt : k < s.length
          · have hkS : k < (⟨s.toArray⟩ : ByteArray).size := by rw [hsz]; exact hlt
            have HC := Lib.hid (byteU hkS)
            have HA := Lib.hid (isA_int ((⟨s.toArray⟩ : ByteArray)[k]'hkS))
            have HD := Lib.hid (isD_int ((⟨s.toArray⟩ : ByteArray)[k]'hkS))
            have HM : (isA ((⟨s.toArray⟩ : ByteArray)[k]'hkS) || isD ((⟨s.toArray⟩ : ByteArray)[k]'hkS)) = true → Hid (∀ (j : Nat) d, j < k + 1 → s[j]? = some d → (isA d || isD d) = true) := fun ho => Lib.hid (fun j d hj hd => by
              by_cases hjk : j = k
              · subst hjk
                rw [HC.out] at hd
                cases hd
                exact ho
              · exact HN.out j d (by omega) hd)
            have HF : (isA ((⟨s.toArray⟩ : ByteArray)[k]'hkS) || isD ((⟨s.toArray⟩ : ByteArray)[k]'hkS)) = false → Hid (nameB s = false) := fun ho => Lib.hid (nameR_not HC.out ho)
            rw [HA.out, HD.out] at HM HF
            clear HA HD HC
            by_cases p1 : (97 : Int) ≤ (((⟨s.toArray⟩ : ByteArray)[k]'hkS).toNat : Int)
            · by_cases p2 : (((⟨s.toArray⟩ : ByteArray)[k]'hkS).toNat : Int) ≤ 122
              · replace HM := HM (by rw [decide_eq_true (And.intro p1 p2), Bool.true_or])
                clear HF
                go_wp2_with fail
                go_round
                case rel => exact ⟨k + 1, by omega, by go_num, HM⟩
                case measure => simp [intOf]; omega
              · replace HF := HF (by rw [decide_eq_false (fun h => p2 h.2), decide_eq_false (by omega)]; rfl)
                have p3 : (48 : Int) ≤ (((⟨s.toArray⟩ : ByteArray)[k]'hkS).toNat : Int) := by omega
                have p4 : ¬ (((⟨s.toArray⟩ : ByteArray)[k]'hkS).toNat : Int) ≤ 57 := by omega
                clear HM
                go_wp2_with fail
                go_ret
                rw [HF.out]
                exact ⟨rfl, Below.refl _ _⟩
            · by_cases p3 : (48 : Int) ≤ (((⟨s.toArray⟩ : ByteArray)[k]'hkS).toNat : Int)
              · by_cases p4 : (((⟨s.toArray⟩ : ByteArray)[k]'hkS).toNat : Int) ≤ 57
                · replace HM := HM (by rw [decide_eq_true (And.intro p3 p4), Bool.or_true])
                  clear HF
                  go_wp2_with fail
                  go_round
                  case rel => exact ⟨k + 1, by omega, by go_num, HM⟩
                  case measure => simp [intOf]; omega
                · replace HF := HF (by rw [decide_eq_false (fun h => p1 h.1), decide_eq_false (fun h => p4 h.2)]; rfl)
                  clear HM
                  go_wp2_with fail
                  go_ret
                  rw [HF.out]
                  exact ⟨rfl, Below.refl _ _⟩
              · replace HF := HF (by rw [decide_eq_false (fun h => p1 h.1), decide_eq_false (fun h => p3 h.1)]; rfl)
                clear HM
                go_wp2_with fail
                go_ret
                rw [HF.out]
                exact ⟨rfl, Below.refl _ _⟩
          · have hkk : k = s.length := by omega
            subst hkk
            have HY : Hid (nameB s = true) := Lib.hid (nameR_yes HC0.out HA1.out h12 (fun j c hj => HN.out j c (List.getElem?_eq_some_iff.1 hj).1 hj))
            go_wp2_with fail
            go_ret
            rw [HY.out]
            exact ⟨rfl, Below.refl _ _⟩
      · have HY : Hid (nameB s = false) := Lib.hid (name_not HC0.out (by unfold okB; simp at hA; rw [hA]; simp))
        have hr : ¬ ((97 : Int) ≤ (((⟨s.toArray⟩ : ByteArray)[0]'h0S).toNat : Int) ∧ (((⟨s.toArray⟩ : ByteArray)[0]'h0S).toNat : Int) ≤ 122) := by
          have := HA0.out
          simp only [Bool.not_eq_true] at hA
          rw [hA] at this
          exact of_decide_eq_false this.symm
        clear hA
        by_cases q1 : (((⟨s.toArray⟩ : ByteArray)[0]'h0S).toNat : Int) < 97
        · clear hr
          go_enter Tryz.func231, Tryz.ntmps231
          go_wp2_with fail
          go_ret
          rw [HY.out]
          exact ⟨rfl, Below.refl _ _⟩
        · have q2 : (122 : Int) < (((⟨s.toArray⟩ : ByteArray)[0]'h0S).toNat : Int) := by omega
          clear hr
          go_enter Tryz.func231, Tryz.ntmps231
          go_wp2_with fail
          go_ret
          rw [HY.out]
          exact ⟨rfl, Below.refl _ _⟩
    · have e : nameB s = false := by unfold nameB; rw [decide_eq_false h12, Bool.false_and]
      rw [e]
      have h12' : (12 : Int) < (s.length : Int) := by omega
      clear e
      go_enter Tryz.func231, Tryz.ntmps231
      go_wp2_with fail
      go_ret
      exact ⟨rfl, Below.refl _ _⟩

theorem optF_parts (name x : Bs) : optF name x = (decide (name.length < x.length) && ((x.take name.length == name) && (x[name.length]?.getD 0 == 61))) := by
  unfold optF
  rw [← Lib.hasPrefix_of_take]
  by_cases h : name.length < x.length
  · have h1 : (name ++ [61]).length ≤ x.length := by simp; omega
    rw [decide_eq_true h, decide_eq_true h1, Bool.true_and, Bool.true_and]
    have hx : x[name.length]? = some x[name.length] := List.getElem?_eq_getElem h
    rw [show (name ++ [(61 : UInt8)]).length = name.length + 1 from by simp, List.take_add_one, hx]
    rw [Bool.eq_iff_iff]
    simp only [beq_iff_eq, Bool.and_eq_true, Option.toList_some, Option.getD_some]
    constructor
    · intro e
      have := List.append_inj e (by simp; omega)
      exact ⟨this.1, by simpa using this.2⟩
    · rintro ⟨e1, e2⟩
      rw [e1, e2]
  · have h1 : ¬ (name ++ [61]).length ≤ x.length := by simp; omega
    rw [decide_eq_false h, decide_eq_false h1]
    rfl
theorem opt_rest {name x : Bs} (h : optF name x = true) : name.length + 1 ≤ x.length := by
  rw [optF_parts] at h
  simp at h
  omega
theorem slice_str0 (s : Bs) (b : Nat) (hb : b ≤ s.length) (W : World) : (Instr.slice 9 (.string ⟨s.toArray⟩) none (some (.int .i64 (b : Int))) none).run Tryz.prog W = .ok (.string ⟨(s.take b).toArray⟩) W := by
  have := extractU s 0 b
  simp only [List.drop_zero, Nat.sub_zero] at this
  rw [← this]
  go_simp
theorem slice_str1 (s : Bs) (a : Nat) (ha : a ≤ s.length) (W : World) : (Instr.slice 9 (.string ⟨s.toArray⟩) (some (.int .i64 (a : Int))) none none).run Tryz.prog W = .ok (.string ⟨(s.drop a).toArray⟩) W := by
  have := extractU s a s.length
  rw [List.take_of_length_le (by simp)] at this
  rw [← this]
  go_simp
end Go.Proofs.YtpblpjopinllcaaGreatDoor.words
