/-
  The contracts of the document's Signed and Int.
  What the document's parse of a graph calls: what is behind a front, the number behind it, the place of a name.
-/
import Derived.Test.YtpblpjopinllcaaGreatDoorJWr
import Derived.Test.YtpblpjopinllcaaGreatDoorJGsc
import Derived.Test.YtpblpjopinllcaaGreatDoorJWu
namespace Go.Proofs.YtpblpjopinllcaaGreatDoor.words
open Go.ChangeShapes Go.WideShapes Go.ChangeAt Go.RowKit
open Go.Proofs.YtpblpjopinllcaaGreatDoor.opened Go.Proofs.YtpblpjopinllcaaGreatDoor.block

theorem byte_at {s : Bs} {k : Nat} (h : k < (⟨s.toArray⟩ : ByteArray).size) : s[k]? = some ((⟨s.toArray⟩ : ByteArray)[k]'h) := by
  have h' : k < s.length := by
    have : (⟨s.toArray⟩ : ByteArray).size = s.length := by show s.toArray.size = _; simp
    omega
  rw [List.getElem?_eq_getElem h']
  rfl
/-- The digits before a place. -/
theorem dval_more {s : Bs} {a k : Nat} {c : UInt8} (hk : s[k]? = some c) (ha : a ≤ k) : dval ((s.drop a).take (k + 1 - a)) = dval ((s.drop a).take (k - a)) * 10 + (c.toNat - 48) := by
  rw [show k + 1 - a = (k - a) + 1 by omega, List.take_add_one, List.getElem?_drop, show a + (k - a) = k by omega, hk]
  exact dval_snoc _ _
theorem step_u64 (m : Int) (d x : Nat) (h : m = ((d % 18446744073709551616 : Nat) : Int)) : IntKind.u64.wrap (IntKind.u64.wrap (m * 10) + (x : Int)) = (((d * 10 + x) % 18446744073709551616 : Nat) : Int) := by
  rw [IntKind.wrap_u64, IntKind.wrap_u64, h]
  omega
set_option maxRecDepth 100000 in
set_option maxHeartbeats 1000000 in
theorem signedR_none (s : Bs) (h0 : s = []) (w : World) :
    Calls Tryz.prog 226 #[.string ⟨s.toArray⟩] w fun e w' => e = .returned (.tuple #[.int .i64 (sgV s), .int .i64 (sgE s)]) ∧ Below w.heap.size w w' := by
  have h20 : s.length ≤ 20 := by rw [h0]; simp
  have hsz : (⟨s.toArray⟩ : ByteArray).size = s.length := by show s.toArray.size = _; simp
  have h20' : ¬ (20 : Int) < (s.length : Int) := by omega
  have HF : Hid (frontN s = 0) := Lib.hid (by rw [h0]; rfl)
  have hl0 : ¬ (0 : Int) < (s.length : Int) := by rw [h0]; simp
  have hl1 : ¬ 0 < s.length := by omega
  clear h0
  go_enter Tryz.func226, Tryz.ntmps226
  go_wp2_with fail
  go_loop [4, 6] (fun v i => ∃ (k : Nat) (m : Int), 0 ≤ k ∧ k ≤ s.length ∧ i = .int .i64 k ∧ v = .int .u64 m ∧ Hid (m = ((dval ((s.drop 0).take (k - 0)) % 18446744073709551616 : Nat) : Int))) (fun _ i => s.length - (intOf i).toNat)
  case atStart => exact ⟨0, 0, Nat.le_refl _, by omega, rfl, rfl, Lib.hid rfl⟩
  case round =>
    obtain ⟨k, m, hk0, hk, rfl, rfl, HM⟩ := hrel
    by_cases hlt : k < s.length
    · exact absurd hlt (by omega)  -- NONE
    · have hkk : k = s.length := by omega
      subst hkk
      have HS := Lib.hid (sgE_of (sg_fin0 HF.out (m := m) (by have := HM.out; rw [List.drop_zero, Nat.sub_zero, List.take_length] at this; exact this)))
      have hb := wrap_bounds (m)
      have C := Lib.hid (fun W => numberR_any (IntKind.i64.wrap m) hb.1 hb.2 W)
      clear HM hb
      obtain ⟨n, hn⟩ : ∃ n, IntKind.i64.wrap m = n := ⟨_, rfl⟩
      rw [hn] at C HS
      by_cases hi : Lib.itoa n = s
      · have HR := Lib.hid (HS.out.1 hi)
        rw [hi] at C
        clear hi
        go_wp2_with ((go_at_call 282; refine (C.out _).mono ?_; rintro e w5 ⟨rfl, b5⟩; have B5 := Lib.hid b5; clear b5))
        go_ret2
        rw [HR.out.1, HR.out.2]
        exact ⟨rfl, B5.out⟩
      · have HR := Lib.hid (HS.out.2 hi)
        have hne : (Lib.itoa n == s) = false := by simpa using hi
        clear hi HS
        generalize Lib.itoa n = z at C hne
        go_wp2_with ((go_at_call 282; refine (C.out _).mono ?_; rintro e w5 ⟨rfl, b5⟩; have B5 := Lib.hid b5; clear b5))
        go_ret2
        rw [HR.out.1, HR.out.2]
        exact ⟨rfl, B5.out⟩
set_option maxRecDepth 100000 in
set_option maxHeartbeats 1000000 in
theorem signedR_plain (s : Bs) (h20 : s.length ≤ 20) (h0 : 0 < s.length) (hc : s.head? ≠ some 45) (w : World) :
    Calls Tryz.prog 226 #[.string ⟨s.toArray⟩] w fun e w' => e = .returned (.tuple #[.int .i64 (sgV s), .int .i64 (sgE s)]) ∧ Below w.heap.size w w' := by
  have hsz : (⟨s.toArray⟩ : ByteArray).size = s.length := by show s.toArray.size = _; simp
  have h20' : ¬ (20 : Int) < (s.length : Int) := by omega
  have h0S : 0 < (⟨s.toArray⟩ : ByteArray).size := by rw [hsz]; exact h0
  have HF : Hid (frontN s = 0) := Lib.hid (by unfold frontN; rw [if_neg hc])
  have hz : ((((⟨s.toArray⟩ : ByteArray)[0]'h0S).toNat : Int) == 45) = false := by
    have e := byte_at h0S
    rw [← List.head?_eq_getElem?] at e
    rw [e] at hc
    rw [beq_eq_false_iff_ne]
    intro h
    exact hc (congrArg some (UInt8.toNat_inj.1 (by show _ = 45; omega)))
  have hl0 : (0 : Int) < (s.length : Int) := by omega
  clear hc
  go_enter Tryz.func226, Tryz.ntmps226
  go_wp2_with fail
  go_loop [4, 6] (fun v i => ∃ (k : Nat) (m : Int), 0 ≤ k ∧ k ≤ s.length ∧ i = .int .i64 k ∧ v = .int .u64 m ∧ Hid (m = ((dval ((s.drop 0).take (k - 0)) % 18446744073709551616 : Nat) : Int))) (fun _ i => s.length - (intOf i).toNat)
  case atStart => exact ⟨0, 0, Nat.le_refl _, Nat.zero_le _, rfl, rfl, Lib.hid rfl⟩
  case round =>
    obtain ⟨k, m, hk0, hk, rfl, rfl, HM⟩ := hrel
    by_cases hlt : k < s.length
    · have hkS : k < (⟨s.toArray⟩ : ByteArray).size := by rw [hsz]; exact hlt
      have HC := Lib.hid (byte_at hkS)
      by_cases hd : 48 ≤ ((⟨s.toArray⟩ : ByteArray)[k]'hkS).toNat ∧ ((⟨s.toArray⟩ : ByteArray)[k]'hkS).toNat ≤ 57
      · have hd1 : (48 : Int) ≤ (((⟨s.toArray⟩ : ByteArray)[k]'hkS).toNat : Int) := by omega
        have hd2 : (((⟨s.toArray⟩ : ByteArray)[k]'hkS).toNat : Int) ≤ 57 := by omega
        have HN : Hid (IntKind.u64.wrap (IntKind.u64.wrap (m * 10) + ((((⟨s.toArray⟩ : ByteArray)[k]'hkS).toNat : Int) - 48)) = ((dval ((s.drop 0).take (k + 1 - 0)) % 18446744073709551616 : Nat) : Int)) := Lib.hid (by
          rw [dval_more HC.out hk0, ← step_u64 m _ _ HM.out]
          congr 2
          all_goals omega)
        clear hd HC HM
        go_wp2_with fail
        go_round
        case rel => exact ⟨k + 1, _, by omega, by omega, by go_num, rfl, HN⟩
        case measure => simp [intOf]; omega
      · have HS := Lib.hid (sgE_none (sg_odd (w := s) (c := (⟨s.toArray⟩ : ByteArray)[k]'hkS) (by rw [HF.out]; exact List.mem_of_getElem? (i := k - 0) (by rw [List.getElem?_drop, show 0 + (k - 0) = k by omega]; exact HC.out)) hd))
        clear HC
        by_cases hl : ((⟨s.toArray⟩ : ByteArray)[k]'hkS).toNat < 48
        · have hl' : (((⟨s.toArray⟩ : ByteArray)[k]'hkS).toNat : Int) < 48 := by omega
          clear hd
          go_wp2_with fail
          go_ret2
          rw [HS.out.1, HS.out.2]
          exact ⟨rfl, Below.refl _ _⟩
        · have hl' : ¬ (((⟨s.toArray⟩ : ByteArray)[k]'hkS).toNat : Int) < 48 := by omega
          have hl2 : (57 : Int) < (((⟨s.toArray⟩ : ByteArray)[k]'hkS).toNat : Int) := by omega
          clear hd hl
          go_wp2_with fail
          go_ret2
          rw [HS.out.1, HS.out.2]
          exact ⟨rfl, Below.refl _ _⟩
    · have hkk : k = s.length := by omega
      subst hkk
      have HS := Lib.hid (sgE_of (sg_fin0 HF.out (m := m) (by have := HM.out; rw [List.drop_zero, Nat.sub_zero, List.take_length] at this; exact this)))
      have hb := wrap_bounds (m)
      have C := Lib.hid (fun W => numberR_any (IntKind.i64.wrap m) hb.1 hb.2 W)
      clear HM hb
      obtain ⟨n, hn⟩ : ∃ n, IntKind.i64.wrap m = n := ⟨_, rfl⟩
      rw [hn] at C HS
      by_cases hi : Lib.itoa n = s
      · have HR := Lib.hid (HS.out.1 hi)
        rw [hi] at C
        clear hi
        go_wp2_with ((go_at_call 282; refine (C.out _).mono ?_; rintro e w5 ⟨rfl, b5⟩; have B5 := Lib.hid b5; clear b5))
        go_ret2
        rw [HR.out.1, HR.out.2]
        exact ⟨rfl, B5.out⟩
      · have HR := Lib.hid (HS.out.2 hi)
        have hne : (Lib.itoa n == s) = false := by simpa using hi
        clear hi HS
        generalize Lib.itoa n = z at C hne
        go_wp2_with ((go_at_call 282; refine (C.out _).mono ?_; rintro e w5 ⟨rfl, b5⟩; have B5 := Lib.hid b5; clear b5))
        go_ret2
        rw [HR.out.1, HR.out.2]
        exact ⟨rfl, B5.out⟩
set_option maxRecDepth 100000 in
set_option maxHeartbeats 1000000 in
theorem signedR_minus (s : Bs) (h20 : s.length ≤ 20) (h0 : 0 < s.length) (hc : s.head? = some 45) (w : World) :
    Calls Tryz.prog 226 #[.string ⟨s.toArray⟩] w fun e w' => e = .returned (.tuple #[.int .i64 (sgV s), .int .i64 (sgE s)]) ∧ Below w.heap.size w w' := by
  have hsz : (⟨s.toArray⟩ : ByteArray).size = s.length := by show s.toArray.size = _; simp
  have h20' : ¬ (20 : Int) < (s.length : Int) := by omega
  have h0S : 0 < (⟨s.toArray⟩ : ByteArray).size := by rw [hsz]; exact h0
  have HF : Hid (frontN s = 1) := Lib.hid (by unfold frontN; rw [if_pos hc])
  have hz : ((((⟨s.toArray⟩ : ByteArray)[0]'h0S).toNat : Int) == 45) = true := by
    have e := byte_at h0S
    rw [← List.head?_eq_getElem?, hc] at e
    rw [← Option.some.inj e]
    rfl
  have hl0 : (0 : Int) < (s.length : Int) := by omega
  clear hc
  go_enter Tryz.func226, Tryz.ntmps226
  go_wp2_with fail
  go_loop [4, 6] (fun v i => ∃ (k : Nat) (m : Int), 1 ≤ k ∧ k ≤ s.length ∧ i = .int .i64 k ∧ v = .int .u64 m ∧ Hid (m = ((dval ((s.drop 1).take (k - 1)) % 18446744073709551616 : Nat) : Int))) (fun _ i => s.length - (intOf i).toNat)
  case atStart => exact ⟨1, 0, Nat.le_refl _, h0, rfl, rfl, Lib.hid rfl⟩
  case round =>
    obtain ⟨k, m, hk0, hk, rfl, rfl, HM⟩ := hrel
    by_cases hlt : k < s.length
    · have hkS : k < (⟨s.toArray⟩ : ByteArray).size := by rw [hsz]; exact hlt
      have HC := Lib.hid (byte_at hkS)
      by_cases hd : 48 ≤ ((⟨s.toArray⟩ : ByteArray)[k]'hkS).toNat ∧ ((⟨s.toArray⟩ : ByteArray)[k]'hkS).toNat ≤ 57
      · have hd1 : (48 : Int) ≤ (((⟨s.toArray⟩ : ByteArray)[k]'hkS).toNat : Int) := by omega
        have hd2 : (((⟨s.toArray⟩ : ByteArray)[k]'hkS).toNat : Int) ≤ 57 := by omega
        have HN : Hid (IntKind.u64.wrap (IntKind.u64.wrap (m * 10) + ((((⟨s.toArray⟩ : ByteArray)[k]'hkS).toNat : Int) - 48)) = ((dval ((s.drop 1).take (k + 1 - 1)) % 18446744073709551616 : Nat) : Int)) := Lib.hid (by
          rw [dval_more HC.out hk0, ← step_u64 m _ _ HM.out]
          congr 2
          all_goals omega)
        clear hd HC HM
        go_wp2_with fail
        go_round
        case rel => exact ⟨k + 1, _, by omega, by omega, by go_num, rfl, HN⟩
        case measure => simp [intOf]; omega
      · have HS := Lib.hid (sgE_none (sg_odd (w := s) (c := (⟨s.toArray⟩ : ByteArray)[k]'hkS) (by rw [HF.out]; exact List.mem_of_getElem? (i := k - 1) (by rw [List.getElem?_drop, show 1 + (k - 1) = k by omega]; exact HC.out)) hd))
        clear HC
        by_cases hl : ((⟨s.toArray⟩ : ByteArray)[k]'hkS).toNat < 48
        · have hl' : (((⟨s.toArray⟩ : ByteArray)[k]'hkS).toNat : Int) < 48 := by omega
          clear hd
          go_wp2_with fail
          go_ret2
          rw [HS.out.1, HS.out.2]
          exact ⟨rfl, Below.refl _ _⟩
        · have hl' : ¬ (((⟨s.toArray⟩ : ByteArray)[k]'hkS).toNat : Int) < 48 := by omega
          have hl2 : (57 : Int) < (((⟨s.toArray⟩ : ByteArray)[k]'hkS).toNat : Int) := by omega
          clear hd hl
          go_wp2_with fail
          go_ret2
          rw [HS.out.1, HS.out.2]
          exact ⟨rfl, Below.refl _ _⟩
    · have hkk : k = s.length := by omega
      subst hkk
      have HS := Lib.hid (sgE_of (sg_fin1 HF.out (m := m) (by have := HM.out; rw [List.take_of_length_le (by simp)] at this; exact this)))
      have hb := wrap_bounds (-(IntKind.i64.wrap m))
      have C := Lib.hid (fun W => numberR_any (IntKind.i64.wrap (-(IntKind.i64.wrap m))) hb.1 hb.2 W)
      clear HM hb
      obtain ⟨n, hn⟩ : ∃ n, IntKind.i64.wrap (-(IntKind.i64.wrap m)) = n := ⟨_, rfl⟩
      rw [hn] at C HS
      have hn2 : wrap64 (-wrap64 m) = n := by rw [← hn, IntKind.wrap_i64, IntKind.wrap_i64]; unfold wrap64; omega
      clear hn
      by_cases hi : Lib.itoa n = s
      · have HR := Lib.hid (HS.out.1 hi)
        rw [hi] at C
        clear hi
        go_wp2_with ((go_at_call 282; refine (C.out _).mono ?_; rintro e w5 ⟨rfl, b5⟩; have B5 := Lib.hid b5; clear b5))
        go_ret2
        rw [HR.out.1, HR.out.2]
        exact ⟨rfl, B5.out⟩
      · have HR := Lib.hid (HS.out.2 hi)
        have hne : (Lib.itoa n == s) = false := by simpa using hi
        clear hi HS
        generalize Lib.itoa n = z at C hne
        go_wp2_with ((go_at_call 282; refine (C.out _).mono ?_; rintro e w5 ⟨rfl, b5⟩; have B5 := Lib.hid b5; clear b5))
        go_ret2
        rw [HR.out.1, HR.out.2]
        exact ⟨rfl, B5.out⟩
set_option maxRecDepth 100000 in
set_option maxHeartbeats 1000000 in
theorem signedR_long (s : Bs) (h20 : 20 < s.length) (hl : s.length ≤ 100000) (w : World) :
    Calls Tryz.prog 226 #[.string ⟨s.toArray⟩] w fun e w' => e = .returned (.tuple #[.int .i64 (sgV s), .int .i64 (sgE s)]) ∧ Below w.heap.size w w' := by
  have hsz : (⟨s.toArray⟩ : ByteArray).size = s.length := by show s.toArray.size = _; simp
  have h0S : 0 < (⟨s.toArray⟩ : ByteArray).size := by rw [hsz]; omega
  have h20' : (20 : Int) < (s.length : Int) := by omega
  have hl0 : (0 : Int) < (s.length : Int) := by omega
  have HS := Lib.hid (sgE_none (sg_long h20))
  obtain ⟨v, hv⟩ : ∃ v, ((((⟨s.toArray⟩ : ByteArray)[0]'h0S).toNat : Int) == 45) = v := ⟨_, rfl⟩
  clear hsz
  cases v
  all_goals
    go_enter Tryz.func226, Tryz.ntmps226
    go_wp2_with fail
    go_ret2
    rw [HS.out.1, HS.out.2]
    exact ⟨rfl, Below.refl _ _⟩
theorem signedR_any (s : Bs) (hl : s.length ≤ 100000) (w : World) :
    Calls Tryz.prog 226 #[.string ⟨s.toArray⟩] w fun e w' => e = .returned (.tuple #[.int .i64 (sgV s), .int .i64 (sgE s)]) ∧ Below w.heap.size w w' := by
  by_cases h20 : 20 < s.length
  · exact signedR_long s h20 hl w
  · by_cases h0 : s = []
    · exact signedR_none s h0 w
    · have hp := List.length_pos_iff.2 h0
      by_cases hc : s.head? = some 45
      · exact signedR_minus s (by omega) hp hc w
      · exact signedR_plain s (by omega) hp hc w
end Go.Proofs.YtpblpjopinllcaaGreatDoor.words
set_option linter.unusedSimpArgs false
set_option linter.unusedVariables false
namespace Go.Proofs.YtpblpjopinllcaaGreatDoor.graph
open Go.ChangeShapes Go.WideShapes Go.ChangeAt Go.RowKit
open Go.Proofs.YtpblpjopinllcaaGreatDoor.opened Go.Proofs.YtpblpjopinllcaaGreatDoor.block Go.Proofs.YtpblpjopinllcaaGreatDoor.words

theorem prefix_take (w b : Bs) (h : b.length ≤ w.length) : Lib.hasPrefix w b = (w.take b.length == b) := by
  unfold Lib.hasPrefix
  rw [Bool.eq_iff_iff, beq_iff_eq]
  constructor
  · intro h'
    have := List.isPrefixOf_iff_prefix.1 h'
    exact (List.prefix_iff_eq_take.1 this).symm
  · intro h'
    exact List.isPrefixOf_iff_prefix.2 (List.prefix_iff_eq_take.2 h'.symm)
theorem prefix_short {w b : Bs} (h : w.length < b.length) : Lib.hasPrefix w b = false := by
  unfold Lib.hasPrefix
  rw [Bool.eq_false_iff]
  intro h'
  have := (List.isPrefixOf_iff_prefix.1 h').length_le
  omega
def aftV (w b : Bs) : Bs := if Lib.hasPrefix w b = true then w.drop b.length else []
set_option maxRecDepth 100000 in
theorem after9_any (x b : Bs) (w : World) :
    Calls Tryz.prog 225 #[.string ⟨x.toArray⟩, .string ⟨b.toArray⟩] w fun e w' => e = .returned (.tuple #[sV (aftV x b), .bool (Lib.hasPrefix x b)]) ∧ w = w' := by
  unfold aftV
  by_cases hl : x.length < b.length
  · rw [prefix_short hl, if_neg (by simp)]
    have hn1 : (x.length : Int) < (b.length : Int) := by omega
    have hsz := size_str x
    have hsb := size_str b
    clear hl
    go_enter Tryz.func225, Tryz.ntmps225
    go_wp2_with fail
    go_ret2
    exact ⟨rfl, rfl⟩
  · have hn1 : ¬ (x.length : Int) < (b.length : Int) := by omega
    have hsl := fun W => slice_str0 x b.length (by omega) W
    have hsl1 := fun W => slice_str1 x b.length (by omega) W
    rw [prefix_take x b (by omega)]
    cases hp : (x.take b.length == b)
    · rw [if_neg (by simp)]
      generalize x.take b.length = pre at hp hsl
      clear hl hsl1
      go_enter Tryz.func225, Tryz.ntmps225
      go_wp2_with fail
      go_ret2
      exact ⟨rfl, rfl⟩
    · rw [if_pos rfl]
      have hpe : x.take b.length = b := by simpa using hp
      clear hp
      rw [hpe] at hsl
      clear hpe hl
      generalize x.drop b.length = y at hsl1 ⊢
      go_enter Tryz.func225, Tryz.ntmps225
      go_wp2_with fail
      go_ret2
      exact ⟨rfl, rfl⟩
set_option maxRecDepth 100000 in
theorem value9_any (x front : Bs) (hx : x.length ≤ 100000) (w : World) :
    Calls Tryz.prog 146 #[.string ⟨x.toArray⟩, .string ⟨front.toArray⟩] w fun e w' => e = .returned (.tuple #[.int .i64 (numV front x), .int .i64 (numE front x)]) ∧ Below w.heap.size w w' := by
  have P := Lib.hid (fun W => after9_any x front W)
  unfold numV numE
  unfold aftV at P
  cases hf : Lib.hasPrefix x front
  · rw [hf] at P
    rw [if_neg (by simp), if_neg (by simp)]
    rw [if_neg (by simp)] at P
    clear hf
    go_enter Tryz.func146, Tryz.ntmps146
    go_wp2_with ((go_at_call 225; refine (P.out _).mono ?_; rintro e w4 ⟨rfl, rfl⟩))
    go_ret2
    exact ⟨rfl, Below.refl _ _⟩
  · rw [hf, if_pos rfl] at P
    rw [if_pos rfl, if_pos rfl]
    have S := Lib.hid (fun W => signedR_any (x.drop front.length) (by simp; omega) W)
    generalize x.drop front.length = y at P S ⊢
    clear hf
    go_enter Tryz.func146, Tryz.ntmps146
    go_wp2_with (first
      | (go_at_call 225; refine (P.out _).mono ?_; rintro e w4 ⟨rfl, rfl⟩)
      | (go_at_call 226; refine (S.out _).mono ?_; rintro e w5 ⟨rfl, b5⟩))
    go_ret2
    exact ⟨rfl, b5⟩
/-! ### The place of a name -/
def findV (N : List Bs) (n : Bs) : Int := match firstIx N n with | some k => k | none => -1
theorem first_of : ∀ {N : List Bs} {n : Bs} {k : Nat}, (∀ y ∈ N.take k, y ≠ n) → N[k]? = some n → firstIx N n = some k
  | [], n, k, _, h => by simp at h
  | x :: r, n, 0, _, h => by
    have : x = n := by simpa using h
    unfold firstIx
    rw [if_pos this]
  | x :: r, n, k + 1, h, h1 => by
    have hx : x ≠ n := h x (by simp)
    unfold firstIx
    rw [if_neg hx, first_of (fun y hy => h y (by rw [List.take_succ_cons]; exact List.mem_cons_of_mem _ hy)) (by simpa using h1)]
    rfl
set_option maxRecDepth 100000 in
theorem find9_any (A : Option Addr) (c : Nat) (N : List Bs) (n : Bs) (hl : N.length ≤ 100000) (w : World) (h : Ls w A N) :
    Calls Tryz.prog 148 #[.slice A N.length c, .string ⟨n.toArray⟩] w fun e w' => e = .returned (.int .i64 (findV N n)) ∧ w = w' := by
  have H := Lib.hid h
  clear h
  obtain ⟨R, hR⟩ : ∃ R, findV N n = R := ⟨_, rfl⟩
  rw [hR]
  have HR := Lib.hid hR
  clear hR
  go_enter Tryz.func148, Tryz.ntmps148
  go_wp2_with fail
  go_loop [5] (fun i => ∃ k : Nat, k ≤ N.length ∧ i = .int .i64 k ∧ Hid (∀ y ∈ N.take k, y ≠ n)) (fun i => N.length - (intOf i).toNat)
  case atStart => exact ⟨0, Nat.zero_le _, rfl, Lib.hid (by simp)⟩
  case round =>
    obtain ⟨k, hk, rfl, HN⟩ := hrel
    by_cases hlt : k < N.length
    · obtain ⟨x, hx⟩ : ∃ x, N[k]? = some x := ⟨_, List.getElem?_eq_getElem hlt⟩
      obtain ⟨b, off, rfl, hb, hc⟩ := H.out.at hx
      by_cases he : x = n
      · subst he
        obtain rfl : (k : Int) = R := by rw [← HR.out]; unfold findV; rw [first_of HN.out hx]
        clear hx
        go_wp2_with fail
        go_ret
        exact ⟨rfl, rfl⟩
      · have hp : (x == n) = false := by rw [beq_eq_false_iff_ne]; exact he
        have HQ : Hid (∀ y ∈ N.take (k + 1), y ≠ n) := Lib.hid (by
          rw [List.take_add_one, hx]
          intro y hy
          rcases List.mem_append.1 hy with h1 | h1
          · exact HN.out y h1
          · have : y = x := by simpa using h1
            exact this ▸ he)
        clear hx he
        go_wp2_with fail
        go_round
        case rel => exact ⟨k + 1, by omega, by go_num, HQ⟩
        case measure => simp [intOf]; omega
    · obtain rfl : k = N.length := by omega
      obtain rfl : -1 = R := by
        rw [← HR.out]
        unfold findV
        rw [first_none.2 (fun hm => HN.out n (by rw [List.take_length]; exact hm) rfl)]
      clear hlt hk
      go_wp2_with fail
      go_ret
      exact ⟨rfl, rfl⟩
end Go.Proofs.YtpblpjopinllcaaGreatDoor.graph
