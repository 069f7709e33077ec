/-
  The contracts of the document's Number, Signed and Int.
-/
import Derived.Test.YtpblpjopinllcaaGreatDoorJNw
namespace Go.Proofs.YtpblpjopinllcaaGreatDoor.words
open Go.ChangeShapes Go.WideShapes Go.ChangeAt Go.RowKit
open Go.Proofs.YtpblpjopinllcaaGreatDoor.opened Go.Proofs.YtpblpjopinllcaaGreatDoor.block

theorem dig_one (m : Nat) (h : m < 10) (W : World) : (convert 148 9 (.slice (some ⟨W.heap.size, 0, none⟩) 1 1)).run Tryz.prog (W.alloc (.cells #[.int .u8 (48 + (m : Int))] 5)) = .ok (.string ⟨#[UInt8.ofNat (48 + m)]⟩) (W.alloc (.cells #[.int .u8 (48 + (m : Int))] 5)) := by
  have hc : Value.int .u8 (48 + (m : Int)) = .int .u8 ((UInt8.ofNat (48 + m)).toNat : Int) := by
    simp
    omega
  have ho := World.ownsRow_lit (base := 0) (e := 5) (size := 1) W #[Value.int .u8 (48 + (m : Int))] 1 (Nat.zero_le _) (by unfold maxLen; omega) rfl
  rw [hc] at ho ⊢
  have h := run_convert_bytes_back (P := Tryz.prog) (W.alloc (.cells #[.int .u8 ((UInt8.ofNat (48 + m)).toNat : Int)] 5)) 148 9 5 ⟨W.heap.size, 0, none⟩ 1 [UInt8.ofNat (48 + m)] Tryz.underlying148 Tryz.underlying5 Tryz.underlying9 (fun j hj => by
    have h0 : j = 0 := by simp at hj; omega
    subst h0
    exact cell_new1 W _ _ 0 _ rfl)
  exact h
theorem str_front (c : Nat) (l : Bs) : ({ data := #[48 + UInt8.ofNat c] } : ByteArray) ++ { data := l.toArray } = ⟨(UInt8.ofNat (48 + c) :: l).toArray⟩ := ByteArray.ext (by simp)
set_option maxRecDepth 100000 in
set_option maxHeartbeats 1000000 in
theorem numberR_pos (u : Nat) (hu : u ≤ 9223372036854775807) (w : World) : Calls Tryz.prog 282 #[.int .i64 u] w fun e w' => e = .returned (sV (Lib.decDigits u)) ∧ Below w.heap.size w w' := by
  have hn := nDigits_le 18 u (by omega)
  have hu0 : (0 : Int) ≤ (u : Int) := by omega
  have hu1 : (u : Int) ≤ 9223372036854775807 := by omega
  go_enter Tryz.func282, Tryz.ntmps282
  go_wp2_with fail
  go_loopw [3, 5, 6] (fun s v i wr => ∃ (k m : Nat) (l : Bs), i = .int .i64 k ∧ v = .int .u64 m ∧ s = sV l ∧ l.length ≤ k ∧ m ≤ 9223372036854775807 ∧ k + Lib.nDigits m = Lib.nDigits u ∧ Hid (Lib.decDigits u = Lib.decDigits m ++ l) ∧ Below w.heap.size w wr) (fun _ _ i _ => (20 - intOf i).toNat)
  case atStart => exact ⟨0, u, [], rfl, rfl, rfl, by simp, hu, by omega, Lib.hid (by simp), Below.refl _ _⟩
  case round =>
    obtain ⟨k, m, l, rfl, rfl, rfl, hl, hm, hk, HX, hb⟩ := hrel
    have HK := Lib.hid hk
    have hp := Lib.nDigits_pos m
    have hk20 : k < 20 := by omega
    have hd : m % 10 < 10 := Nat.mod_lt _ (by omega)
    have hcv := dig_one (m % 10) hd wr
    rw [show ((m % 10 : Nat) : Int) = (m : Int) % 10 from by omega] at hcv
    clear hk hp hn
    by_cases h10 : m < 10
    · have hz : ((m : Int) / 10 == 0) = true := by simp; omega
      have hm10 : m % 10 = m := Nat.mod_eq_of_lt h10
      go_wp2_with fail
      go_ret
      refine ⟨?_, hb.alloc hb.size _⟩
      rw [HX.out, Lib.decDigits_one h10]
      exact congrArg Ending.returned (congrArg Value.string (ByteArray.ext (by simp)))
    · have hz : ((m : Int) / 10 == 0) = false := by simp; omega
      have HX2 : Hid (Lib.decDigits u = Lib.decDigits (m / 10) ++ (UInt8.ofNat (48 + m % 10) :: l)) := Lib.hid (by rw [HX.out, Lib.decDigits, dif_neg h10]; simp)
      have HK2 := HK.out
      rw [Lib.nDigits_big h10] at HK2
      replace HK2 := Lib.hid HK2
      go_wp2_with fail
      go_roundw
      case rel => exact ⟨k + 1, m / 10, UInt8.ofNat (48 + m % 10) :: l, by go_num, by go_num, by rw [str_front], by simp; omega, by omega, by have := HK2.out; omega, HX2, hb.alloc hb.size _⟩
      case measure => simp [intOf]; omega
set_option maxRecDepth 100000 in
set_option maxHeartbeats 1000000 in
theorem numberR_neg (u : Nat) (hu1 : 1 ≤ u) (hu : u ≤ 9223372036854775808) (w : World) : Calls Tryz.prog 282 #[.int .i64 (-(u : Int))] w fun e w' => e = .returned (sV (45 :: Lib.decDigits u)) ∧ Below w.heap.size w w' := by
  have hn := nDigits_le 18 u (by omega)
  have hu0 : -(u : Int) < 0 := by omega
  obtain ⟨z, hz⟩ : ∃ z, IntKind.u64.wrap (-(u : Int)) = z := ⟨_, rfl⟩
  have hzz : IntKind.u64.wrap (-z) = (u : Int) := by rw [← hz]; simp only [IntKind.wrap_u64]; omega
  go_enter Tryz.func282, Tryz.ntmps282
  go_wp2_with fail
  go_loopw [3, 5, 6] (fun s v i wr => ∃ (k m : Nat) (l : Bs), i = .int .i64 k ∧ v = .int .u64 m ∧ s = sV l ∧ l.length ≤ k ∧ m ≤ 9223372036854775808 ∧ k + Lib.nDigits m = Lib.nDigits u ∧ Hid (Lib.decDigits u = Lib.decDigits m ++ l) ∧ Below w.heap.size w wr) (fun _ _ i _ => (20 - intOf i).toNat)
  case atStart => exact ⟨0, u, [], rfl, rfl, rfl, by simp, hu, by omega, Lib.hid (by simp), Below.refl _ _⟩
  case round =>
    obtain ⟨k, m, l, rfl, rfl, rfl, hl, hm, hk, HX, hb⟩ := hrel
    have HK := Lib.hid hk
    have hp := Lib.nDigits_pos m
    have hk20 : k < 20 := by omega
    have hd : m % 10 < 10 := Nat.mod_lt _ (by omega)
    have hcv := dig_one (m % 10) hd wr
    rw [show ((m % 10 : Nat) : Int) = (m : Int) % 10 from by omega] at hcv
    clear hk hp hn
    by_cases h10 : m < 10
    · have hz : ((m : Int) / 10 == 0) = true := by simp; omega
      have hm10 : m % 10 = m := Nat.mod_eq_of_lt h10
      go_wp2_with fail
      go_ret
      refine ⟨?_, hb.alloc hb.size _⟩
      rw [HX.out, Lib.decDigits_one h10]
      exact congrArg Ending.returned (congrArg Value.string (ByteArray.ext (by simp)))
    · have hz : ((m : Int) / 10 == 0) = false := by simp; omega
      have HX2 : Hid (Lib.decDigits u = Lib.decDigits (m / 10) ++ (UInt8.ofNat (48 + m % 10) :: l)) := Lib.hid (by rw [HX.out, Lib.decDigits, dif_neg h10]; simp)
      have HK2 := HK.out
      rw [Lib.nDigits_big h10] at HK2
      replace HK2 := Lib.hid HK2
      go_wp2_with fail
      go_roundw
      case rel => exact ⟨k + 1, m / 10, UInt8.ofNat (48 + m % 10) :: l, by go_num, by go_num, by rw [str_front], by simp; omega, by omega, by have := HK2.out; omega, HX2, hb.alloc hb.size _⟩
      case measure => simp [intOf]; omega

theorem numberR_any (n : Int) (h0 : -9223372036854775808 ≤ n) (h1 : n ≤ 9223372036854775807) (w : World) : Calls Tryz.prog 282 #[.int .i64 n] w fun e w' => e = .returned (sV (Lib.itoa n)) ∧ Below w.heap.size w w' := by
  by_cases hn : n < 0
  · obtain ⟨u, hu, rfl⟩ : ∃ u : Nat, 1 ≤ u ∧ n = -(u : Int) := ⟨n.natAbs, by omega, by omega⟩
    rw [Lib.itoa_neg u hu]
    exact numberR_neg u hu (by omega) w
  · obtain ⟨u, rfl⟩ : ∃ u : Nat, n = (u : Int) := ⟨n.toNat, by omega⟩
    rw [Lib.itoa_nonneg]
    exact numberR_pos u (by omega) w
end Go.Proofs.YtpblpjopinllcaaGreatDoor.words
