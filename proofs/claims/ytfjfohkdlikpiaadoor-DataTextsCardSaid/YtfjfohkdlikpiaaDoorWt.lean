/-
  The contracts of the document's Signed and Int.
-/
import Derived.Test.YtfjfohkdlikpiaaDoorWr
namespace Go.Proofs.YtfjfohkdlikpiaaDoor.words
open Go.ChangeShapes Go.WideShapes Go.ChangeAt Go.RowKit
open Go.Proofs.YtfjfohkdlikpiaaDoor.opened Go.Proofs.YtfjfohkdlikpiaaDoor.block

theorem byte_at {s : Bs} {k : Nat} (h : k < (⟨s.toArray⟩ : ByteArray).size) : s[k]? = some ((⟨s.toArray⟩ : ByteArray)[k]'h) := by
  have h' : k < s.length := by
    have : (⟨s.toArray⟩ : ByteArray).size = s.length := by show s.toArray.size = _; simp
    omega
  rw [List.getElem?_eq_getElem h']
  rfl
/-- The digits before a place. -/
theorem dval_more {s : Bs} {a k : Nat} {c : UInt8} (hk : s[k]? = some c) (ha : a ≤ k) : dval ((s.drop a).take (k + 1 - a)) = dval ((s.drop a).take (k - a)) * 10 + (c.toNat - 48) := by
  rw [show k + 1 - a = (k - a) + 1 by omega, List.take_add_one, List.getElem?_drop, show a + (k - a) = k by omega, hk]
  exact dval_snoc _ _
theorem step_u64 (m : Int) (d x : Nat) (h : m = ((d % 18446744073709551616 : Nat) : Int)) : IntKind.u64.wrap (IntKind.u64.wrap (m * 10) + (x : Int)) = (((d * 10 + x) % 18446744073709551616 : Nat) : Int) := by
  rw [IntKind.wrap_u64, IntKind.wrap_u64, h]
  omega
set_option maxRecDepth 100000 in
set_option maxHeartbeats 1000000 in
theorem signedR_none (s : Bs) (h0 : s = []) (w : World) :
    Calls Tryd.prog 12 #[.string ⟨s.toArray⟩] w fun e w' => e = .returned (.tuple #[.int .i64 (sgV s), .int .i64 (sgE s)]) ∧ Below w.heap.size w w' := by
  have h20 : s.length ≤ 20 := by rw [h0]; simp
  have hsz : (⟨s.toArray⟩ : ByteArray).size = s.length := by show s.toArray.size = _; simp
  have h20' : ¬ (20 : Int) < (s.length : Int) := by omega
  have HF : Hid (frontN s = 0) := Lib.hid (by rw [h0]; rfl)
  have hl0 : ¬ (0 : Int) < (s.length : Int) := by rw [h0]; simp
  have hl1 : ¬ 0 < s.length := by omega
  clear h0
  go_enter Tryd.func12, Tryd.ntmps12
  go_wp2_with fail
  go_loop [4, 6] (fun v i => ∃ (k : Nat) (m : Int), 0 ≤ k ∧ k ≤ s.length ∧ i = .int .i64 k ∧ v = .int .u64 m ∧ Hid (m = ((dval ((s.drop 0).take (k - 0)) % 18446744073709551616 : Nat) : Int))) (fun _ i => s.length - (intOf i).toNat)
  case atStart => exact ⟨0, 0, Nat.le_refl _, by omega, rfl, rfl, Lib.hid rfl⟩
  case round =>
    obtain ⟨k, m, hk0, hk, rfl, rfl, HM⟩ := hrel
    by_cases hlt : k < s.length
    · exact absurd hlt (by omega)  -- NONE
    · have hkk : k = s.length := by omega
      subst hkk
      have HS := Lib.hid (sgE_of (sg_fin0 HF.out (m := m) (by have := HM.out; rw [List.drop_zero, Nat.sub_zero, List.take_length] at this; exact this)))
      have hb := wrap_bounds (m)
      have C := Lib.hid (fun W => numberR_any (IntKind.i64.wrap m) hb.1 hb.2 W)
      clear HM hb
      obtain ⟨n, hn⟩ : ∃ n, IntKind.i64.wrap m = n := ⟨_, rfl⟩
      rw [hn] at C HS
      by_cases hi : Lib.itoa n = s
      · have HR := Lib.hid (HS.out.1 hi)
        rw [hi] at C
        clear hi
        go_wp2_with ((go_at_call 15; refine (C.out _).mono ?_; rintro e w5 ⟨rfl, b5⟩; have B5 := Lib.hid b5; clear b5))
        go_ret2
        rw [HR.out.1, HR.out.2]
        exact ⟨rfl, B5.out⟩
      · have HR := Lib.hid (HS.out.2 hi)
        have hne : (Lib.itoa n == s) = false := by simpa using hi
        clear hi HS
        generalize Lib.itoa n = z at C hne
        go_wp2_with ((go_at_call 15; refine (C.out _).mono ?_; rintro e w5 ⟨rfl, b5⟩; have B5 := Lib.hid b5; clear b5))
        go_ret2
        rw [HR.out.1, HR.out.2]
        exact ⟨rfl, B5.out⟩
set_option maxRecDepth 100000 in
set_option maxHeartbeats 1000000 in
theorem signedR_plain (s : Bs) (h20 : s.length ≤ 20) (h0 : 0 < s.length) (hc : s.head? ≠ some 45) (w : World) :
    Calls Tryd.prog 12 #[.string ⟨s.toArray⟩] w fun e w' => e = .returned (.tuple #[.int .i64 (sgV s), .int .i64 (sgE s)]) ∧ Below w.heap.size w w' := by
  have hsz : (⟨s.toArray⟩ : ByteArray).size = s.length := by show s.toArray.size = _; simp
  have h20' : ¬ (20 : Int) < (s.length : Int) := by omega
  have h0S : 0 < (⟨s.toArray⟩ : ByteArray).size := by rw [hsz]; exact h0
  have HF : Hid (frontN s = 0) := Lib.hid (by unfold frontN; rw [if_neg hc])
  have hz : ((((⟨s.toArray⟩ : ByteArray)[0]'h0S).toNat : Int) == 45) = false := by
    have e := byte_at h0S
    rw [← List.head?_eq_getElem?] at e
    rw [e] at hc
    rw [beq_eq_false_iff_ne]
    intro h
    exact hc (congrArg some (UInt8.toNat_inj.1 (by show _ = 45; omega)))
  have hl0 : (0 : Int) < (s.length : Int) := by omega
  clear hc
  go_enter Tryd.func12, Tryd.ntmps12
  go_wp2_with fail
  go_loop [4, 6] (fun v i => ∃ (k : Nat) (m : Int), 0 ≤ k ∧ k ≤ s.length ∧ i = .int .i64 k ∧ v = .int .u64 m ∧ Hid (m = ((dval ((s.drop 0).take (k - 0)) % 18446744073709551616 : Nat) : Int))) (fun _ i => s.length - (intOf i).toNat)
  case atStart => exact ⟨0, 0, Nat.le_refl _, Nat.zero_le _, rfl, rfl, Lib.hid rfl⟩
  case round =>
    obtain ⟨k, m, hk0, hk, rfl, rfl, HM⟩ := hrel
    by_cases hlt : k < s.length
    · have hkS : k < (⟨s.toArray⟩ : ByteArray).size := by rw [hsz]; exact hlt
      have HC := Lib.hid (byte_at hkS)
      by_cases hd : 48 ≤ ((⟨s.toArray⟩ : ByteArray)[k]'hkS).toNat ∧ ((⟨s.toArray⟩ : ByteArray)[k]'hkS).toNat ≤ 57
      · have hd1 : (48 : Int) ≤ (((⟨s.toArray⟩ : ByteArray)[k]'hkS).toNat : Int) := by omega
        have hd2 : (((⟨s.toArray⟩ : ByteArray)[k]'hkS).toNat : Int) ≤ 57 := by omega
        have HN : Hid (IntKind.u64.wrap (IntKind.u64.wrap (m * 10) + ((((⟨s.toArray⟩ : ByteArray)[k]'hkS).toNat : Int) - 48)) = ((dval ((s.drop 0).take (k + 1 - 0)) % 18446744073709551616 : Nat) : Int)) := Lib.hid (by
          rw [dval_more HC.out hk0, ← step_u64 m _ _ HM.out]
          congr 2
          all_goals omega)
        clear hd HC HM
        go_wp2_with fail
        go_round
        case rel => exact ⟨k + 1, _, by omega, by omega, by go_num, rfl, HN⟩
        case measure => simp [intOf]; omega
      · have HS := Lib.hid (sgE_none (sg_odd (w := s) (c := (⟨s.toArray⟩ : ByteArray)[k]'hkS) (by rw [HF.out]; exact List.mem_of_getElem? (i := k - 0) (by rw [List.getElem?_drop, show 0 + (k - 0) = k by omega]; exact HC.out)) hd))
        clear HC
        by_cases hl : ((⟨s.toArray⟩ : ByteArray)[k]'hkS).toNat < 48
        · have hl' : (((⟨s.toArray⟩ : ByteArray)[k]'hkS).toNat : Int) < 48 := by omega
          clear hd
          go_wp2_with fail
          go_ret2
          rw [HS.out.1, HS.out.2]
          exact ⟨rfl, Below.refl _ _⟩
        · have hl' : ¬ (((⟨s.toArray⟩ : ByteArray)[k]'hkS).toNat : Int) < 48 := by omega
          have hl2 : (57 : Int) < (((⟨s.toArray⟩ : ByteArray)[k]'hkS).toNat : Int) := by omega
          clear hd hl
          go_wp2_with fail
          go_ret2
          rw [HS.out.1, HS.out.2]
          exact ⟨rfl, Below.refl _ _⟩
    · have hkk : k = s.length := by omega
      subst hkk
      have HS := Lib.hid (sgE_of (sg_fin0 HF.out (m := m) (by have := HM.out; rw [List.drop_zero, Nat.sub_zero, List.take_length] at this; exact this)))
      have hb := wrap_bounds (m)
      have C := Lib.hid (fun W => numberR_any (IntKind.i64.wrap m) hb.1 hb.2 W)
      clear HM hb
      obtain ⟨n, hn⟩ : ∃ n, IntKind.i64.wrap m = n := ⟨_, rfl⟩
      rw [hn] at C HS
      by_cases hi : Lib.itoa n = s
      · have HR := Lib.hid (HS.out.1 hi)
        rw [hi] at C
        clear hi
        go_wp2_with ((go_at_call 15; refine (C.out _).mono ?_; rintro e w5 ⟨rfl, b5⟩; have B5 := Lib.hid b5; clear b5))
        go_ret2
        rw [HR.out.1, HR.out.2]
        exact ⟨rfl, B5.out⟩
      · have HR := Lib.hid (HS.out.2 hi)
        have hne : (Lib.itoa n == s) = false := by simpa using hi
        clear hi HS
        generalize Lib.itoa n = z at C hne
        go_wp2_with ((go_at_call 15; refine (C.out _).mono ?_; rintro e w5 ⟨rfl, b5⟩; have B5 := Lib.hid b5; clear b5))
        go_ret2
        rw [HR.out.1, HR.out.2]
        exact ⟨rfl, B5.out⟩
set_option maxRecDepth 100000 in
set_option maxHeartbeats 1000000 in
theorem signedR_minus (s : Bs) (h20 : s.length ≤ 20) (h0 : 0 < s.length) (hc : s.head? = some 45) (w : World) :
    Calls Tryd.prog 12 #[.string ⟨s.toArray⟩] w fun e w' => e = .returned (.tuple #[.int .i64 (sgV s), .int .i64 (sgE s)]) ∧ Below w.heap.size w w' := by
  have hsz : (⟨s.toArray⟩ : ByteArray).size = s.length := by show s.toArray.size = _; simp
  have h20' : ¬ (20 : Int) < (s.length : Int) := by omega
  have h0S : 0 < (⟨s.toArray⟩ : ByteArray).size := by rw [hsz]; exact h0
  have HF : Hid (frontN s = 1) := Lib.hid (by unfold frontN; rw [if_pos hc])
  have hz : ((((⟨s.toArray⟩ : ByteArray)[0]'h0S).toNat : Int) == 45) = true := by
    have e := byte_at h0S
    rw [← List.head?_eq_getElem?, hc] at e
    rw [← Option.some.inj e]
    rfl
  have hl0 : (0 : Int) < (s.length : Int) := by omega
  clear hc
  go_enter Tryd.func12, Tryd.ntmps12
  go_wp2_with fail
  go_loop [4, 6] (fun v i => ∃ (k : Nat) (m : Int), 1 ≤ k ∧ k ≤ s.length ∧ i = .int .i64 k ∧ v = .int .u64 m ∧ Hid (m = ((dval ((s.drop 1).take (k - 1)) % 18446744073709551616 : Nat) : Int))) (fun _ i => s.length - (intOf i).toNat)
  case atStart => exact ⟨1, 0, Nat.le_refl _, h0, rfl, rfl, Lib.hid rfl⟩
  case round =>
    obtain ⟨k, m, hk0, hk, rfl, rfl, HM⟩ := hrel
    by_cases hlt : k < s.length
    · have hkS : k < (⟨s.toArray⟩ : ByteArray).size := by rw [hsz]; exact hlt
      have HC := Lib.hid (byte_at hkS)
      by_cases hd : 48 ≤ ((⟨s.toArray⟩ : ByteArray)[k]'hkS).toNat ∧ ((⟨s.toArray⟩ : ByteArray)[k]'hkS).toNat ≤ 57
      · have hd1 : (48 : Int) ≤ (((⟨s.toArray⟩ : ByteArray)[k]'hkS).toNat : Int) := by omega
        have hd2 : (((⟨s.toArray⟩ : ByteArray)[k]'hkS).toNat : Int) ≤ 57 := by omega
        have HN : Hid (IntKind.u64.wrap (IntKind.u64.wrap (m * 10) + ((((⟨s.toArray⟩ : ByteArray)[k]'hkS).toNat : Int) - 48)) = ((dval ((s.drop 1).take (k + 1 - 1)) % 18446744073709551616 : Nat) : Int)) := Lib.hid (by
          rw [dval_more HC.out hk0, ← step_u64 m _ _ HM.out]
          congr 2
          all_goals omega)
        clear hd HC HM
        go_wp2_with fail
        go_round
        case rel => exact ⟨k + 1, _, by omega, by omega, by go_num, rfl, HN⟩
        case measure => simp [intOf]; omega
      · have HS := Lib.hid (sgE_none (sg_odd (w := s) (c := (⟨s.toArray⟩ : ByteArray)[k]'hkS) (by rw [HF.out]; exact List.mem_of_getElem? (i := k - 1) (by rw [List.getElem?_drop, show 1 + (k - 1) = k by omega]; exact HC.out)) hd))
        clear HC
        by_cases hl : ((⟨s.toArray⟩ : ByteArray)[k]'hkS).toNat < 48
        · have hl' : (((⟨s.toArray⟩ : ByteArray)[k]'hkS).toNat : Int) < 48 := by omega
          clear hd
          go_wp2_with fail
          go_ret2
          rw [HS.out.1, HS.out.2]
          exact ⟨rfl, Below.refl _ _⟩
        · have hl' : ¬ (((⟨s.toArray⟩ : ByteArray)[k]'hkS).toNat : Int) < 48 := by omega
          have hl2 : (57 : Int) < (((⟨s.toArray⟩ : ByteArray)[k]'hkS).toNat : Int) := by omega
          clear hd hl
          go_wp2_with fail
          go_ret2
          rw [HS.out.1, HS.out.2]
          exact ⟨rfl, Below.refl _ _⟩
    · have hkk : k = s.length := by omega
      subst hkk
      have HS := Lib.hid (sgE_of (sg_fin1 HF.out (m := m) (by have := HM.out; rw [List.take_of_length_le (by simp)] at this; exact this)))
      have hb := wrap_bounds (-(IntKind.i64.wrap m))
      have C := Lib.hid (fun W => numberR_any (IntKind.i64.wrap (-(IntKind.i64.wrap m))) hb.1 hb.2 W)
      clear HM hb
      obtain ⟨n, hn⟩ : ∃ n, IntKind.i64.wrap (-(IntKind.i64.wrap m)) = n := ⟨_, rfl⟩
      rw [hn] at C HS
      have hn2 : wrap64 (-wrap64 m) = n := by rw [← hn, IntKind.wrap_i64, IntKind.wrap_i64]; unfold wrap64; omega
      clear hn
      by_cases hi : Lib.itoa n = s
      · have HR := Lib.hid (HS.out.1 hi)
        rw [hi] at C
        clear hi
        go_wp2_with ((go_at_call 15; refine (C.out _).mono ?_; rintro e w5 ⟨rfl, b5⟩; have B5 := Lib.hid b5; clear b5))
        go_ret2
        rw [HR.out.1, HR.out.2]
        exact ⟨rfl, B5.out⟩
      · have HR := Lib.hid (HS.out.2 hi)
        have hne : (Lib.itoa n == s) = false := by simpa using hi
        clear hi HS
        generalize Lib.itoa n = z at C hne
        go_wp2_with ((go_at_call 15; refine (C.out _).mono ?_; rintro e w5 ⟨rfl, b5⟩; have B5 := Lib.hid b5; clear b5))
        go_ret2
        rw [HR.out.1, HR.out.2]
        exact ⟨rfl, B5.out⟩
set_option maxRecDepth 100000 in
set_option maxHeartbeats 1000000 in
theorem signedR_long (s : Bs) (h20 : 20 < s.length) (hl : s.length ≤ 100000) (w : World) :
    Calls Tryd.prog 12 #[.string ⟨s.toArray⟩] w fun e w' => e = .returned (.tuple #[.int .i64 (sgV s), .int .i64 (sgE s)]) ∧ Below w.heap.size w w' := by
  have hsz : (⟨s.toArray⟩ : ByteArray).size = s.length := by show s.toArray.size = _; simp
  have h0S : 0 < (⟨s.toArray⟩ : ByteArray).size := by rw [hsz]; omega
  have h20' : (20 : Int) < (s.length : Int) := by omega
  have hl0 : (0 : Int) < (s.length : Int) := by omega
  have HS := Lib.hid (sgE_none (sg_long h20))
  obtain ⟨v, hv⟩ : ∃ v, ((((⟨s.toArray⟩ : ByteArray)[0]'h0S).toNat : Int) == 45) = v := ⟨_, rfl⟩
  clear hsz
  cases v
  all_goals
    go_enter Tryd.func12, Tryd.ntmps12
    go_wp2_with fail
    go_ret2
    rw [HS.out.1, HS.out.2]
    exact ⟨rfl, Below.refl _ _⟩
theorem signedR_any (s : Bs) (hl : s.length ≤ 100000) (w : World) :
    Calls Tryd.prog 12 #[.string ⟨s.toArray⟩] w fun e w' => e = .returned (.tuple #[.int .i64 (sgV s), .int .i64 (sgE s)]) ∧ Below w.heap.size w w' := by
  by_cases h20 : 20 < s.length
  · exact signedR_long s h20 hl w
  · by_cases h0 : s = []
    · exact signedR_none s h0 w
    · have hp := List.length_pos_iff.2 h0
      by_cases hc : s.head? = some 45
      · exact signedR_minus s (by omega) hp hc w
      · exact signedR_plain s (by omega) hp hc w
end Go.Proofs.YtfjfohkdlikpiaaDoor.words
