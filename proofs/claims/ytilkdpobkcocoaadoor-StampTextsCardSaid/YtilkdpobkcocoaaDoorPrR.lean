/-
  The contract of watershedref04.Parse: the time of any writing, in one pass.
-/
import Derived.Test.YtilkdpobkcocoaaDoorTxM
import Derived.Test.YtilkdpobkcocoaaDoorKd
import Derived.BigRegion
import Derived.Deep.Cut
import Derived.Deep.CutRange
import Derived.Deep.RegionHeld
namespace Go.Proofs.YtilkdpobkcocoaaDoor.stamp
open Go.ChangeShapes Go.WideShapes Go.ChangeAt Go.RowKit
open Go.Proofs.YtilkdpobkcocoaaDoor.tm Go.Proofs.YtilkdpobkcocoaaDoor.opened Go.Proofs.YtilkdpobkcocoaaDoor.block Go.Proofs.YtilkdpobkcocoaaDoor.code

theorem scan_end (k : Nat) (n : Nat → Nat) : scan [] k n = some (k, n) := rfl
theorem scan_at {s : ByteArray} {j : Nat} (hj : j < s.size) (h4 : j < 40) : (s.data.toList.drop j).take (40 - j) = s[j] :: (s.data.toList.drop (j + 1)).take (40 - (j + 1)) := by
  rw [drop_at hj, show 40 - j = (40 - (j + 1)) + 1 by omega, List.take_succ_cons]
theorem scan_out {s : ByteArray} {j : Nat} (hj : ¬ (j < s.size ∧ j < 40)) : (s.data.toList.drop j).take (40 - j) = [] := by
  by_cases h : j < s.size
  · rw [show 40 - j = 0 by omega]; rfl
  · rw [drop_end h]; simp
theorem str_list (s : ByteArray) : s = ⟨s.data.toList.toArray⟩ := ByteArray.ext (by simp)
set_option maxRecDepth 100000 in
set_option maxHeartbeats 8000000 in
theorem parseR_any (s : ByteArray) (_hs : s.size ≤ 5000) (w : World) : Calls Tryd.prog 12 #[.string s] w (GivesT (parseV s.data.toList) (parseE s.data.toList) w) := by
  obtain ⟨V, hV⟩ : ∃ V, parseV s.data.toList = V := ⟨_, rfl⟩
  obtain ⟨E, hE⟩ : ∃ E, parseE s.data.toList = E := ⟨_, rfl⟩
  have HN : Hid ((∀ k n, scan (s.data.toList.take 40) 0 (fun _ => 0) = some (k, n) → ¬ (k ≤ 3 ∧ chk (scT k n) = 0 ∧ txtL (scT k n) = s.data.toList)) → V = T0 ∧ E = 6) := Lib.hid (fun h => by rw [← hV, ← hE]; exact scan_no h)
  have HY : Hid (∀ k n, scan (s.data.toList.take 40) 0 (fun _ => 0) = some (k, n) → k ≤ 3 → chk (scT k n) = 0 → txtL (scT k n) = s.data.toList → V = scT k n ∧ E = 0) := Lib.hid (fun k n a b c d => by rw [← hV, ← hE]; exact scan_val a b c d)
  rw [hV, hE]
  clear hV hE
  go_enter Tryd.func12, Tryd.ntmps12
  go_wp2_with fail
  have R : Whole ((w.alloc (.cells #[.int .u32 0, .int .i64 0, .int .u32 0, .int .u32 0, .int .u32 0] 25)).alloc (.cells #[.int .u64 (0), .int .u64 (0), .int .u64 (0), .int .u64 (0), .int .u64 (0)] 67)) w.heap.size 25 #[.int .u32 0, .int .i64 0, .int .u32 0, .int .u32 0, .int .u32 0] := (Whole.fresh w _ _).alloc _
  have O : Whole ((w.alloc (.cells #[.int .u32 0, .int .i64 0, .int .u32 0, .int .u32 0, .int .u32 0] 25)).alloc (.cells #[.int .u64 (0), .int .u64 (0), .int .u64 (0), .int .u64 (0), .int .u64 (0)] 67)) (w.heap.size + 1) 67 #[.int .u64 (0), .int .u64 (0), .int .u64 (0), .int .u64 (0), .int .u64 (0)] := by
    have k := Whole.fresh (w.alloc (.cells #[.int .u32 0, .int .i64 0, .int .u32 0, .int .u32 0, .int .u32 0] 25)) 67 #[.int .u64 (0), .int .u64 (0), .int .u64 (0), .int .u64 (0), .int .u64 (0)]
    rwa [World.size_alloc] at k
  have B := fresh2 w (.cells #[.int .u32 0, .int .i64 0, .int .u32 0, .int .u32 0, .int .u32 0] 25) (.cells #[.int .u64 (0), .int .u64 (0), .int .u64 (0), .int .u64 (0), .int .u64 (0)] 67)
  generalize (w.alloc (.cells #[.int .u32 0, .int .i64 0, .int .u32 0, .int .u32 0, .int .u32 0] 25)).alloc (.cells #[.int .u64 (0), .int .u64 (0), .int .u64 (0), .int .u64 (0), .int .u64 (0)] 67) = W at R O B ⊢
  generalize hg : w.heap.size = g at R O B ⊢
  have HG := Lib.hid hg
  clear hg
  go_loopw [5, 6] (fun a i wr => ∃ (k j : Nat) (n : Nat → Nat), a = .int .i64 k ∧ i = .int .i64 j ∧ k ≤ 4 ∧ (∀ m, n m ≤ 1073741824) ∧ j ≤ 40 ∧ Hid (scan (s.data.toList.take 40) 0 (fun _ => 0) = scan ((s.data.toList.drop j).take (40 - j)) k n) ∧ Whole wr (g + 1) 67 #[.int .u64 (n 0 : Nat), .int .u64 (n 1 : Nat), .int .u64 (n 2 : Nat), .int .u64 (n 3 : Nat), .int .u64 (n 4 : Nat)] ∧ Whole wr g 25 #[.int .u32 0, .int .i64 0, .int .u32 0, .int .u32 0, .int .u32 0] ∧ Below g w wr) (fun _ i _ => 40 - (intOf i).toNat)
  case atStart => exact ⟨0, 0, fun _ => 0, rfl, rfl, by omega, fun _ => Nat.zero_le _, by omega, Lib.hid rfl, O, R, B⟩
  case round =>
    clear R O B
    obtain ⟨k, j, n, rfl, rfl, hk, hn, hj, HS, O, R, B⟩ := hrel
    by_cases hlt : j < s.size ∧ j < 40
    · obtain ⟨hj1, hj2⟩ := hlt
      have hsc := HS.out
      rw [scan_at hj1 hj2] at hsc
      have c0 : s[j].toNat < 256 := s[j].toNat_lt
      by_cases d1 : s[j].toNat = 46
      · have b1 : ((s[j].toNat : Int) == 46) = true := by rw [d1]; rfl
        by_cases k4 : k < 4
        · rw [scan, if_pos ⟨d1, k4⟩] at hsc
          have HS2 := Lib.hid hsc
          clear hsc HS d1
          go_wp2_with fail
          go_roundw
          case rel => exact ⟨k + 1, j + 1, n, by go_num, by go_num, by omega, hn, by omega, HS2, O, R, B⟩
          case measure => simp [intOf]; omega
        · obtain rfl : k = 4 := by omega
          have hno : scan (s[j] :: (s.data.toList.drop (j + 1)).take (40 - (j + 1))) 4 n = none := by rw [scan, if_neg (by omega), if_neg (by omega)]
          rw [hno] at hsc
          have HX := Lib.hid (HN.out (fun k n h => by rw [hsc] at h; cases h))
          have b2 : (decide ((48 : Int) ≤ (s[j].toNat : Int))) = false := by rw [d1]; rfl
          clear hsc HS hno
          go_wp2_with (first | (refine put rfl 25 (.tmp 2) _ rfl (g := g) rfl rfl R (by kernel_rfl) rfl (by simp [Value.oneCell']) B (by have := HG.out; omega) ?_; intro w9 hR9 hB9 hs9 ho9) | fail)
          exact bodyPost_ret (two_time Tryd.results12 rfl rfl (t := T0) hR9) rfl (givesT (by have := HG.out; subst this; exact hB9) HX.out.1.symm HX.out.2.symm)
      · have b1 : ((s[j].toNat : Int) == 46) = false := by
          rw [beq_eq_false_iff_ne]
          omega
        by_cases d2 : 48 ≤ s[j].toNat ∧ s[j].toNat ≤ 57
        · obtain ⟨d3, d4⟩ := d2
          rw [scan_dig d3 d4] at hsc
          have HS2 := Lib.hid hsc
          clear hsc HS
          obtain rfl | rfl | rfl | rfl | rfl : k = 0 ∨ k = 1 ∨ k = 2 ∨ k = 3 ∨ k = 4 := by omega
          · have h0 : (n 0 : Int) ≤ 1073741824 := by have := hn 0; omega
            have hmin : ∀ (ts : Array TypeId) (t : TypeId) (W : World), (Builtin.min_ ts t #[.int .u64 ((n 0 : Int) * 10 + ((s[j].toNat : Int) - 48)), .int .u64 1073741824]).run Tryd.prog W = .ok (.int .u64 ((min (n 0 * 10 + (s[j].toNat - 48)) 1073741824 : Nat) : Int)) W := fun ts t W => by
              rw [run_min_int2]
              congr 2
              split <;> omega
            generalize hv : ((min (n 0 * 10 + (s[j].toNat - 48)) 1073741824 : Nat) : Int) = v at hmin
            have HV := Lib.hid hv
            clear hv
            have oc := O.read
            have of := O.soft
            go_wp2_with fail
            go_region
            have O' : Whole (wr.setCell ⟨g + 1, 0, none⟩ (.int .u64 v)) (g + 1) 67 #[.int .u64 ((upd n 0 (min (n 0 * 10 + (s[j].toNat - 48)) 1073741824)) 0 : Nat), .int .u64 ((upd n 0 (min (n 0 * 10 + (s[j].toNat - 48)) 1073741824)) 1 : Nat), .int .u64 ((upd n 0 (min (n 0 * 10 + (s[j].toNat - 48)) 1073741824)) 2 : Nat), .int .u64 ((upd n 0 (min (n 0 * 10 + (s[j].toNat - 48)) 1073741824)) 3 : Nat), .int .u64 ((upd n 0 (min (n 0 * 10 + (s[j].toNat - 48)) 1073741824)) 4 : Nat)] := by
              have := O.store 0 (.int .u64 v)
              rw [← HV.out] at this ⊢
              simpa [upd] using this
            have R' := R.aside (p := ⟨g + 1, 0, none⟩) (by simp) (.int .u64 v)
            have B' := B.setCell (p := ⟨g + 1, 0, none⟩) (by simp) (.int .u64 v)
            clear oc of O R B hmin
            go_wp2_with fail
            go_roundw
            case rel => exact ⟨0, j + 1, _, by go_num, by go_num, by omega, fun m => by unfold upd; split; exact Nat.min_le_right _ _; exact hn m, by omega, HS2, O', R', below_drewN B' 1⟩
            case measure => simp [intOf]; omega
          · have h0 : (n 1 : Int) ≤ 1073741824 := by have := hn 1; omega
            have hmin : ∀ (ts : Array TypeId) (t : TypeId) (W : World), (Builtin.min_ ts t #[.int .u64 ((n 1 : Int) * 10 + ((s[j].toNat : Int) - 48)), .int .u64 1073741824]).run Tryd.prog W = .ok (.int .u64 ((min (n 1 * 10 + (s[j].toNat - 48)) 1073741824 : Nat) : Int)) W := fun ts t W => by
              rw [run_min_int2]
              congr 2
              split <;> omega
            generalize hv : ((min (n 1 * 10 + (s[j].toNat - 48)) 1073741824 : Nat) : Int) = v at hmin
            have HV := Lib.hid hv
            clear hv
            have oc := O.read
            have of := O.soft
            go_wp2_with fail
            go_region
            have O' : Whole (wr.setCell ⟨g + 1, 1, none⟩ (.int .u64 v)) (g + 1) 67 #[.int .u64 ((upd n 1 (min (n 1 * 10 + (s[j].toNat - 48)) 1073741824)) 0 : Nat), .int .u64 ((upd n 1 (min (n 1 * 10 + (s[j].toNat - 48)) 1073741824)) 1 : Nat), .int .u64 ((upd n 1 (min (n 1 * 10 + (s[j].toNat - 48)) 1073741824)) 2 : Nat), .int .u64 ((upd n 1 (min (n 1 * 10 + (s[j].toNat - 48)) 1073741824)) 3 : Nat), .int .u64 ((upd n 1 (min (n 1 * 10 + (s[j].toNat - 48)) 1073741824)) 4 : Nat)] := by
              have := O.store 1 (.int .u64 v)
              rw [← HV.out] at this ⊢
              simpa [upd] using this
            have R' := R.aside (p := ⟨g + 1, 1, none⟩) (by simp) (.int .u64 v)
            have B' := B.setCell (p := ⟨g + 1, 1, none⟩) (by simp) (.int .u64 v)
            clear oc of O R B hmin
            go_wp2_with fail
            go_roundw
            case rel => exact ⟨1, j + 1, _, by go_num, by go_num, by omega, fun m => by unfold upd; split; exact Nat.min_le_right _ _; exact hn m, by omega, HS2, O', R', below_drewN B' 1⟩
            case measure => simp [intOf]; omega
          · have h0 : (n 2 : Int) ≤ 1073741824 := by have := hn 2; omega
            have hmin : ∀ (ts : Array TypeId) (t : TypeId) (W : World), (Builtin.min_ ts t #[.int .u64 ((n 2 : Int) * 10 + ((s[j].toNat : Int) - 48)), .int .u64 1073741824]).run Tryd.prog W = .ok (.int .u64 ((min (n 2 * 10 + (s[j].toNat - 48)) 1073741824 : Nat) : Int)) W := fun ts t W => by
              rw [run_min_int2]
              congr 2
              split <;> omega
            generalize hv : ((min (n 2 * 10 + (s[j].toNat - 48)) 1073741824 : Nat) : Int) = v at hmin
            have HV := Lib.hid hv
            clear hv
            have oc := O.read
            have of := O.soft
            go_wp2_with fail
            go_region
            have O' : Whole (wr.setCell ⟨g + 1, 2, none⟩ (.int .u64 v)) (g + 1) 67 #[.int .u64 ((upd n 2 (min (n 2 * 10 + (s[j].toNat - 48)) 1073741824)) 0 : Nat), .int .u64 ((upd n 2 (min (n 2 * 10 + (s[j].toNat - 48)) 1073741824)) 1 : Nat), .int .u64 ((upd n 2 (min (n 2 * 10 + (s[j].toNat - 48)) 1073741824)) 2 : Nat), .int .u64 ((upd n 2 (min (n 2 * 10 + (s[j].toNat - 48)) 1073741824)) 3 : Nat), .int .u64 ((upd n 2 (min (n 2 * 10 + (s[j].toNat - 48)) 1073741824)) 4 : Nat)] := by
              have := O.store 2 (.int .u64 v)
              rw [← HV.out] at this ⊢
              simpa [upd] using this
            have R' := R.aside (p := ⟨g + 1, 2, none⟩) (by simp) (.int .u64 v)
            have B' := B.setCell (p := ⟨g + 1, 2, none⟩) (by simp) (.int .u64 v)
            clear oc of O R B hmin
            go_wp2_with fail
            go_roundw
            case rel => exact ⟨2, j + 1, _, by go_num, by go_num, by omega, fun m => by unfold upd; split; exact Nat.min_le_right _ _; exact hn m, by omega, HS2, O', R', below_drewN B' 1⟩
            case measure => simp [intOf]; omega
          · have h0 : (n 3 : Int) ≤ 1073741824 := by have := hn 3; omega
            have hmin : ∀ (ts : Array TypeId) (t : TypeId) (W : World), (Builtin.min_ ts t #[.int .u64 ((n 3 : Int) * 10 + ((s[j].toNat : Int) - 48)), .int .u64 1073741824]).run Tryd.prog W = .ok (.int .u64 ((min (n 3 * 10 + (s[j].toNat - 48)) 1073741824 : Nat) : Int)) W := fun ts t W => by
              rw [run_min_int2]
              congr 2
              split <;> omega
            generalize hv : ((min (n 3 * 10 + (s[j].toNat - 48)) 1073741824 : Nat) : Int) = v at hmin
            have HV := Lib.hid hv
            clear hv
            have oc := O.read
            have of := O.soft
            go_wp2_with fail
            go_region
            have O' : Whole (wr.setCell ⟨g + 1, 3, none⟩ (.int .u64 v)) (g + 1) 67 #[.int .u64 ((upd n 3 (min (n 3 * 10 + (s[j].toNat - 48)) 1073741824)) 0 : Nat), .int .u64 ((upd n 3 (min (n 3 * 10 + (s[j].toNat - 48)) 1073741824)) 1 : Nat), .int .u64 ((upd n 3 (min (n 3 * 10 + (s[j].toNat - 48)) 1073741824)) 2 : Nat), .int .u64 ((upd n 3 (min (n 3 * 10 + (s[j].toNat - 48)) 1073741824)) 3 : Nat), .int .u64 ((upd n 3 (min (n 3 * 10 + (s[j].toNat - 48)) 1073741824)) 4 : Nat)] := by
              have := O.store 3 (.int .u64 v)
              rw [← HV.out] at this ⊢
              simpa [upd] using this
            have R' := R.aside (p := ⟨g + 1, 3, none⟩) (by simp) (.int .u64 v)
            have B' := B.setCell (p := ⟨g + 1, 3, none⟩) (by simp) (.int .u64 v)
            clear oc of O R B hmin
            go_wp2_with fail
            go_roundw
            case rel => exact ⟨3, j + 1, _, by go_num, by go_num, by omega, fun m => by unfold upd; split; exact Nat.min_le_right _ _; exact hn m, by omega, HS2, O', R', below_drewN B' 1⟩
            case measure => simp [intOf]; omega
          · have h0 : (n 4 : Int) ≤ 1073741824 := by have := hn 4; omega
            have hmin : ∀ (ts : Array TypeId) (t : TypeId) (W : World), (Builtin.min_ ts t #[.int .u64 ((n 4 : Int) * 10 + ((s[j].toNat : Int) - 48)), .int .u64 1073741824]).run Tryd.prog W = .ok (.int .u64 ((min (n 4 * 10 + (s[j].toNat - 48)) 1073741824 : Nat) : Int)) W := fun ts t W => by
              rw [run_min_int2]
              congr 2
              split <;> omega
            generalize hv : ((min (n 4 * 10 + (s[j].toNat - 48)) 1073741824 : Nat) : Int) = v at hmin
            have HV := Lib.hid hv
            clear hv
            have oc := O.read
            have of := O.soft
            go_wp2_with fail
            go_region
            have O' : Whole (wr.setCell ⟨g + 1, 4, none⟩ (.int .u64 v)) (g + 1) 67 #[.int .u64 ((upd n 4 (min (n 4 * 10 + (s[j].toNat - 48)) 1073741824)) 0 : Nat), .int .u64 ((upd n 4 (min (n 4 * 10 + (s[j].toNat - 48)) 1073741824)) 1 : Nat), .int .u64 ((upd n 4 (min (n 4 * 10 + (s[j].toNat - 48)) 1073741824)) 2 : Nat), .int .u64 ((upd n 4 (min (n 4 * 10 + (s[j].toNat - 48)) 1073741824)) 3 : Nat), .int .u64 ((upd n 4 (min (n 4 * 10 + (s[j].toNat - 48)) 1073741824)) 4 : Nat)] := by
              have := O.store 4 (.int .u64 v)
              rw [← HV.out] at this ⊢
              simpa [upd] using this
            have R' := R.aside (p := ⟨g + 1, 4, none⟩) (by simp) (.int .u64 v)
            have B' := B.setCell (p := ⟨g + 1, 4, none⟩) (by simp) (.int .u64 v)
            clear oc of O R B hmin
            go_wp2_with fail
            go_roundw
            case rel => exact ⟨4, j + 1, _, by go_num, by go_num, by omega, fun m => by unfold upd; split; exact Nat.min_le_right _ _; exact hn m, by omega, HS2, O', R', below_drewN B' 1⟩
            case measure => simp [intOf]; omega
        · have hno : scan (s[j] :: (s.data.toList.drop (j + 1)).take (40 - (j + 1))) k n = none := by rw [scan, if_neg (by omega), if_neg d2]
          rw [hno] at hsc
          have HX := Lib.hid (HN.out (fun k n h => by rw [hsc] at h; cases h))
          clear hsc HS hno
          by_cases d3 : 48 ≤ s[j].toNat
          · have d4 : ¬ s[j].toNat ≤ 57 := fun h => d2 ⟨d3, h⟩
            clear d2
            go_wp2_with (first | (refine put rfl 25 (.tmp 2) _ rfl (g := g) rfl rfl R (by kernel_rfl) rfl (by simp [Value.oneCell']) B (by have := HG.out; omega) ?_; intro w9 hR9 hB9 hs9 ho9) | fail)
            exact bodyPost_ret (two_time Tryd.results12 rfl rfl (t := T0) hR9) rfl (givesT (by have := HG.out; subst this; exact hB9) HX.out.1.symm HX.out.2.symm)
          · clear d2
            go_wp2_with (first | (refine put rfl 25 (.tmp 2) _ rfl (g := g) rfl rfl R (by kernel_rfl) rfl (by simp [Value.oneCell']) B (by have := HG.out; omega) ?_; intro w9 hR9 hB9 hs9 ho9) | fail)
            exact bodyPost_ret (two_time Tryd.results12 rfl rfl (t := T0) hR9) rfl (givesT (by have := HG.out; subst this; exact hB9) HX.out.1.symm HX.out.2.symm)
    · have hsc := HS.out
      rw [scan_out hlt, scan_end] at hsc
      have HS2 := Lib.hid hsc
      clear hsc HS
      by_cases h3 : k = 4
      · subst h3
        have HX := Lib.hid (HN.out (fun k n h => by rw [HS2.out] at h; cases h; omega))
        by_cases q1 : j < s.size
        · have q2 : ¬ j < 40 := fun h => hlt ⟨q1, h⟩
          clear hlt
          go_wp2_with (first | (refine put rfl 25 (.tmp 2) _ rfl (g := g) rfl rfl R (by kernel_rfl) rfl (by simp [Value.oneCell']) B (by have := HG.out; omega) ?_; intro w9 hR9 hB9 hs9 ho9) | fail)
          exact bodyPost_ret (two_time Tryd.results12 rfl rfl (t := T0) hR9) rfl (givesT (by have := HG.out; subst this; exact hB9) HX.out.1.symm HX.out.2.symm)
        · clear hlt
          go_wp2_with (first | (refine put rfl 25 (.tmp 2) _ rfl (g := g) rfl rfl R (by kernel_rfl) rfl (by simp [Value.oneCell']) B (by have := HG.out; omega) ?_; intro w9 hR9 hB9 hs9 ho9) | fail)
          exact bodyPost_ret (two_time Tryd.results12 rfl rfl (t := T0) hR9) rfl (givesT (by have := HG.out; subst this; exact hB9) HX.out.1.symm HX.out.2.symm)
      · have k3 : k ≤ 3 := by omega
        clear h3
        have hin := scT_in (k := k) hn (by omega)
        have TX := Lib.hid (textR_any (scT k n) hin)
        have n0 : (n 0 : Int) ≤ 1073741824 := by have := hn 0; omega
        have n1 : (n 1 : Int) ≤ 1073741824 := by have := hn 1; omega
        have n2 : (n 2 : Int) ≤ 1073741824 := by have := hn 2; omega
        have n3 : (n 3 : Int) ≤ 1073741824 := by have := hn 3; omega
        have oc := O.read
        have HR := Lib.hid R.inside
        have hstop : (decide ((j : Int) < (s.size : Int)) && decide ((j : Int) < 40)) = false := by
          rw [Bool.and_eq_false_iff, decide_eq_false_iff_not, decide_eq_false_iff_not]
          omega
        by_cases q1 : j < s.size
        · have q2 : ¬ j < 40 := fun h => hlt ⟨q1, h⟩
          clear hlt hstop
          go_upto_region 14 with fail
          have R2 := R.alloc (.cells #[.int .u32 (scT k n).e, .int .i64 (scT k n).d, .int .u32 (scT k n).a, .int .u32 (scT k n).b, .int .u32 (scT k n).c] 25)
          have T2 := Whole.fresh wr 25 #[.int .u32 (scT k n).e, .int .i64 (scT k n).d, .int .u32 (scT k n).a, .int .u32 (scT k n).b, .int .u32 (scT k n).c]
          have B2 := B.alloc (Nat.le_of_lt R.inside) (.cells #[.int .u32 (scT k n).e, .int .i64 (scT k n).d, .int .u32 (scT k n).a, .int .u32 (scT k n).b, .int .u32 (scT k n).c] 25)
          change Code.wp _ _ _ _ (wr.alloc (.cells #[.int .u32 (scT k n).e, .int .i64 (scT k n).d, .int .u32 (scT k n).a, .int .u32 (scT k n).b, .int .u32 (scT k n).c] 25))
          clear oc O R B n0 n1 n2 n3
          have ht : g < wr.heap.size := by have := R2.inside; have h := HR.out; omega
          generalize wr.alloc (.cells #[.int .u32 (scT k n).e, .int .i64 (scT k n).d, .int .u32 (scT k n).a, .int .u32 (scT k n).b, .int .u32 (scT k n).c] 25) = W2 at R2 T2 B2 ⊢
          generalize wr.heap.size = t at T2 ht ⊢
          obtain ⟨J, hJ⟩ : ∃ J, scT k n = J := ⟨_, rfl⟩
          rw [hJ] at TX T2 hin
          have HJ := Lib.hid hJ
          clear hJ
          obtain ⟨tc, tf⟩ := all_of T2
          go_wp2_with fail
          refine (TX.out _).mono ?_
          rintro e w5 ⟨rfl, b5⟩
          have R5 := R2.below b5 R2.inside
          have T5 := T2.below b5 T2.inside
          have B5 := B2.trans (b5.mono (Nat.le_of_lt R2.inside))
          clear b5 R2 T2 B2 tc tf TX
          by_cases hc : chk J = 0
          · rw [hc, show txtV J = txtL J by simp [txtV, hc]]
            have HC := Lib.hid hc
            clear hc
            by_cases ht2 : txtL J = s.data.toList
            · rw [ht2, ← str_list]
              have HX := Lib.hid (HY.out _ _ HS2.out k3 (by rw [HJ.out]; exact HC.out) (by rw [HJ.out]; exact ht2))
              clear ht2
              obtain ⟨tc, tf⟩ := all_of T5
              go_wp2_with (first | (refine put rfl 25 (.tmp 2) _ rfl (g := g) rfl rfl R5 (by kernel_rfl) rfl (by simp [Value.oneCell']) B5 (by have := HG.out; omega) ?_; intro w9 hR9 hB9 hs9 ho9) | fail)
              exact bodyPost_ret (two_time Tryd.results12 rfl rfl (t := J) hR9) rfl (givesT (by have := HG.out; subst this; exact hB9) (by rw [HX.out.1, HJ.out]) HX.out.2.symm)
            · have hb : (txtL J == s.toList) = false := by rw [ByteArray.toList_eq]; simpa using ht2
              have HX := Lib.hid (HN.out (fun k' n' h => by rw [HS2.out] at h; cases h; rw [HJ.out]; exact fun hh => ht2 hh.2.2))
              clear ht2
              go_wp2_with (first | (refine put rfl 25 (.tmp 2) _ rfl (g := g) rfl rfl R5 (by kernel_rfl) rfl (by simp [Value.oneCell']) B5 (by have := HG.out; omega) ?_; intro w9 hR9 hB9 hs9 ho9) | fail)
              exact bodyPost_ret (two_time Tryd.results12 rfl rfl (t := T0) hR9) rfl (givesT (by have := HG.out; subst this; exact hB9) HX.out.1.symm HX.out.2.symm)
          · have HX := Lib.hid (HN.out (fun k' n' h => by rw [HS2.out] at h; cases h; rw [HJ.out]; exact fun hh => hc hh.2.1))
            generalize chk J = x at hc ⊢
            have hx : (x != 0) = true := by simpa using hc
            clear hc
            go_wp2_with (first | (refine put rfl 25 (.tmp 2) _ rfl (g := g) rfl rfl R5 (by kernel_rfl) rfl (by simp [Value.oneCell']) B5 (by have := HG.out; omega) ?_; intro w9 hR9 hB9 hs9 ho9) | fail)
            exact bodyPost_ret (two_time Tryd.results12 rfl rfl (t := T0) hR9) rfl (givesT (by have := HG.out; subst this; exact hB9) HX.out.1.symm HX.out.2.symm)
        · clear hlt hstop
          go_upto_region 14 with fail
          have R2 := R.alloc (.cells #[.int .u32 (scT k n).e, .int .i64 (scT k n).d, .int .u32 (scT k n).a, .int .u32 (scT k n).b, .int .u32 (scT k n).c] 25)
          have T2 := Whole.fresh wr 25 #[.int .u32 (scT k n).e, .int .i64 (scT k n).d, .int .u32 (scT k n).a, .int .u32 (scT k n).b, .int .u32 (scT k n).c]
          have B2 := B.alloc (Nat.le_of_lt R.inside) (.cells #[.int .u32 (scT k n).e, .int .i64 (scT k n).d, .int .u32 (scT k n).a, .int .u32 (scT k n).b, .int .u32 (scT k n).c] 25)
          change Code.wp _ _ _ _ (wr.alloc (.cells #[.int .u32 (scT k n).e, .int .i64 (scT k n).d, .int .u32 (scT k n).a, .int .u32 (scT k n).b, .int .u32 (scT k n).c] 25))
          clear oc O R B n0 n1 n2 n3
          have ht : g < wr.heap.size := by have := R2.inside; have h := HR.out; omega
          generalize wr.alloc (.cells #[.int .u32 (scT k n).e, .int .i64 (scT k n).d, .int .u32 (scT k n).a, .int .u32 (scT k n).b, .int .u32 (scT k n).c] 25) = W2 at R2 T2 B2 ⊢
          generalize wr.heap.size = t at T2 ht ⊢
          obtain ⟨J, hJ⟩ : ∃ J, scT k n = J := ⟨_, rfl⟩
          rw [hJ] at TX T2 hin
          have HJ := Lib.hid hJ
          clear hJ
          obtain ⟨tc, tf⟩ := all_of T2
          go_wp2_with fail
          refine (TX.out _).mono ?_
          rintro e w5 ⟨rfl, b5⟩
          have R5 := R2.below b5 R2.inside
          have T5 := T2.below b5 T2.inside
          have B5 := B2.trans (b5.mono (Nat.le_of_lt R2.inside))
          clear b5 R2 T2 B2 tc tf TX
          by_cases hc : chk J = 0
          · rw [hc, show txtV J = txtL J by simp [txtV, hc]]
            have HC := Lib.hid hc
            clear hc
            by_cases ht2 : txtL J = s.data.toList
            · rw [ht2, ← str_list]
              have HX := Lib.hid (HY.out _ _ HS2.out k3 (by rw [HJ.out]; exact HC.out) (by rw [HJ.out]; exact ht2))
              clear ht2
              obtain ⟨tc, tf⟩ := all_of T5
              go_wp2_with (first | (refine put rfl 25 (.tmp 2) _ rfl (g := g) rfl rfl R5 (by kernel_rfl) rfl (by simp [Value.oneCell']) B5 (by have := HG.out; omega) ?_; intro w9 hR9 hB9 hs9 ho9) | fail)
              exact bodyPost_ret (two_time Tryd.results12 rfl rfl (t := J) hR9) rfl (givesT (by have := HG.out; subst this; exact hB9) (by rw [HX.out.1, HJ.out]) HX.out.2.symm)
            · have hb : (txtL J == s.toList) = false := by rw [ByteArray.toList_eq]; simpa using ht2
              have HX := Lib.hid (HN.out (fun k' n' h => by rw [HS2.out] at h; cases h; rw [HJ.out]; exact fun hh => ht2 hh.2.2))
              clear ht2
              go_wp2_with (first | (refine put rfl 25 (.tmp 2) _ rfl (g := g) rfl rfl R5 (by kernel_rfl) rfl (by simp [Value.oneCell']) B5 (by have := HG.out; omega) ?_; intro w9 hR9 hB9 hs9 ho9) | fail)
              exact bodyPost_ret (two_time Tryd.results12 rfl rfl (t := T0) hR9) rfl (givesT (by have := HG.out; subst this; exact hB9) HX.out.1.symm HX.out.2.symm)
          · have HX := Lib.hid (HN.out (fun k' n' h => by rw [HS2.out] at h; cases h; rw [HJ.out]; exact fun hh => hc hh.2.1))
            generalize chk J = x at hc ⊢
            have hx : (x != 0) = true := by simpa using hc
            clear hc
            go_wp2_with (first | (refine put rfl 25 (.tmp 2) _ rfl (g := g) rfl rfl R5 (by kernel_rfl) rfl (by simp [Value.oneCell']) B5 (by have := HG.out; omega) ?_; intro w9 hR9 hB9 hs9 ho9) | fail)
            exact bodyPost_ret (two_time Tryd.results12 rfl rfl (t := T0) hR9) rfl (givesT (by have := HG.out; subst this; exact hB9) HX.out.1.symm HX.out.2.symm)
end Go.Proofs.YtilkdpobkcocoaaDoor.stamp
