/-
  The contract of watershedref04.Digits: a number in decimal digits.
-/
import Derived.Test.YtilkdpobkcocoaaDoorFmtU
import Derived.Test.YtilkdpobkcocoaaDoorWrite
import Derived.Laws.OwnMore
namespace Go.Proofs.YtilkdpobkcocoaaDoor.stamp
open Go.ChangeShapes Go.WideShapes Go.RowKit
open Go.Proofs.YtilkdpobkcocoaaDoor.block Go.Proofs.YtilkdpobkcocoaaDoor.code

theorem dig_one (m : Nat) (h : m < 10) (W : World) : (convert 90 9 (.slice (some ⟨W.heap.size, 0, none⟩) 1 1)).run Tryd.prog (W.alloc (.cells #[.int .u8 (48 + (m : Int))] 5)) = .ok (.string ⟨#[UInt8.ofNat (48 + m)]⟩) (W.alloc (.cells #[.int .u8 (48 + (m : Int))] 5)) := by
  have hc : Value.int .u8 (48 + (m : Int)) = cell8 (UInt8.ofNat (48 + m)) := by
    simp [cell8]
    omega
  have ho := World.ownsRow_lit (base := 0) (e := 5) (size := 1) W #[Value.int .u8 (48 + (m : Int))] 1 (Nat.zero_le _) (by unfold maxLen; omega) rfl
  rw [hc] at ho ⊢
  exact string_of_own (l := [UInt8.ofNat (48 + m)]) Tryd.underlying90 Tryd.underlying5 Tryd.underlying9 ho
theorem nDigits_le : ∀ (k u : Nat), u < 10 ^ (k + 1) → Lib.nDigits u ≤ k + 1
  | 0, u, h => by rw [Lib.nDigits_small (by simpa using h)]; omega
  | k + 1, u, h => by
    by_cases hu : u < 10
    · rw [Lib.nDigits_small hu]; omega
    · rw [Lib.nDigits_big hu]
      have := nDigits_le k (u / 10) (by rw [Nat.pow_succ] at h; omega)
      omega
theorem str_front (c : Nat) (l : List UInt8) : ({ data := #[48 + UInt8.ofNat c] } : ByteArray) ++ { data := l.toArray } = ⟨(UInt8.ofNat (48 + c) :: l).toArray⟩ := ByteArray.ext (by simp)
set_option maxRecDepth 100000 in
set_option maxHeartbeats 1000000 in
theorem digits_any (u : Nat) (hu : u < 4294967296) (w : World) : Calls Tryd.prog 43 #[.int .u64 u] w fun e w' => e = .returned (.string ⟨(Lib.decDigits u).toArray⟩) ∧ Below w.heap.size w w' := by
  have hn10 : Lib.nDigits u ≤ 10 := nDigits_le 9 u (by omega)
  go_enter Tryd.func43, Tryd.ntmps43
  go_wp2
  go_loopw [0, 3, 4] (fun v s i wr => ∃ (k m : Nat) (l : List UInt8), i = .int .i64 k ∧ v = .int .u64 m ∧ s = .string ⟨l.toArray⟩ ∧ m < 4294967296 ∧ k + Lib.nDigits m = Lib.nDigits u ∧ l.length = k ∧ Lib.decDigits u = Lib.decDigits m ++ l ∧ Below w.heap.size w wr) (fun _ _ i _ => (20 - intOf i).toNat)
  case atStart => exact ⟨0, u, [], rfl, rfl, rfl, hu, by omega, rfl, by simp, Below.refl _ _⟩
  case round =>
    obtain ⟨k, m, l, rfl, rfl, rfl, hm, hk, hl, hx, hb⟩ := hrel
    have HX := Lib.hid hx
    have HK := Lib.hid hk
    have HL := Lib.hid hl
    have hp := Lib.nDigits_pos m
    have hk20 : k < 20 := by omega
    have hll : l.length ≤ 20 := by omega
    have hd : m % 10 < 10 := Nat.mod_lt _ (by omega)
    have hcv := dig_one (m % 10) hd wr
    rw [show ((m % 10 : Nat) : Int) = (m : Int) % 10 from by omega] at hcv
    clear hx hk hl hp
    by_cases h10 : m < 10
    · have hz : ((m : Int) / 10 == 0) = true := by simp; omega
      have hm10 : m % 10 = m := Nat.mod_eq_of_lt h10
      go_wp2
      go_ret
      refine ⟨?_, hb.alloc hb.size _⟩
      rw [str_front, HX.out, Lib.decDigits_one h10]
      rfl
    · have hz : ((m : Int) / 10 == 0) = false := by simp; omega
      have hx2 : Lib.decDigits u = Lib.decDigits (m / 10) ++ (UInt8.ofNat (48 + m % 10) :: l) := by
        rw [HX.out, Lib.decDigits, dif_neg h10]; simp
      have hk2 := HK.out
      rw [Lib.nDigits_big h10] at hk2
      have HX2 := Lib.hid hx2
      have HK2 := Lib.hid hk2
      clear hx2 hk2
      go_wp2
      go_roundw
      case rel => exact ⟨k + 1, m / 10, UInt8.ofNat (48 + m % 10) :: l, by go_num, by go_num, by rw [str_front], by omega, by have := HK2.out; omega, by have := HL.out; simp [this], HX2.out, hb.alloc hb.size _⟩
      case measure => simp [intOf]; omega
end Go.Proofs.YtilkdpobkcocoaaDoor.stamp
