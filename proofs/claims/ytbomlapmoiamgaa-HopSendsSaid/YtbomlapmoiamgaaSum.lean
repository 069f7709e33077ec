import Derived.Test.YtbomlapmoiamgaaRows
import Derived.WalkKit
import Derived.ProofKit
import Derived.OpenShut
import Derived.Lib.Hide
import Derived.Deep.QuietTactic
import Derived.BigQuiet
import Derived.Laws.BitsAllLaws
import Derived.WalkSpells
import Derived.Laws.IdiomStrings
import Derived.Test.YtbomlapmoiamgaaCrcMath
import Derived.Test.YtbomlapmoiamgaaOpen
import Derived.Test.YtbomlapmoiamgaaBlock
set_option linter.unusedSimpArgs false
set_option linter.unusedVariables false
namespace Go.Proofs.Ytbomlapmoiamgaa.crc
open Go.ChangeShapes Go.WideShapes Go.ChangeAt Go.RowKit
open Go.Proofs.Ytbomlapmoiamgaa.crcm Go.Proofs.Ytbomlapmoiamgaa.block Go.Proofs.Ytbomlapmoiamgaa.opened

theorem and_one (m : Nat) (h : m < 4294967296) : bits BinOp.and IntKind.u32 (m : Int) 1 = ((m % 2 : Nat) : Int) := by
  rw [show (1 : Int) = ((1 : Nat) : Int) from rfl, u32_and_nat _ _ h (by omega), Nat.and_one_is_mod]
theorem xor_poly (m : Nat) (h : m < 4294967296) : bits BinOp.xor IntKind.u32 ((m : Int) / 2) 2197175160 = ((m / 2 ^^^ poly : Nat) : Int) := by
  rw [show (2197175160 : Int) = ((poly : Nat) : Int) from rfl, show ((m : Int) / 2) = ((m / 2 : Nat) : Int) by omega, u32_xor_nat _ _ (by omega) (by decide)]
theorem stp_odd {m : Nat} (h : m % 2 = 1) : stp m = m / 2 ^^^ poly := by simp [stp, h]
theorem stp_even {m : Nat} (h : ¬ m % 2 = 1) : stp m = m / 2 := by simp [stp, h]

theorem shift_any (c : Nat) (hc : c < 4294967296) (w : World) : Calls Try.prog 73 #[.int .u32 c] w fun e w' => e = .returned (.int .u32 (stpN 8 c : Nat)) ∧ w = w' := by
  have Hc := Lib.hid hc
  clear hc
  go_enter Try.func73, Try.ntmps73
  go_wp2
  go_loopw [0, 3, 4] (fun r o i wr => ∃ (k m : Nat), i = .int .i64 k ∧ r = .int .u32 m ∧ k ≤ 8 ∧ m < 4294967296 ∧ stpN (8 - k) m = stpN 8 c ∧ wr = w)
     (fun _ _ i _ => (8 - intOf i).toNat)
  case atStart => exact ⟨0, c, rfl, rfl, by omega, Hc.out, rfl, rfl⟩
  case round =>
    obtain ⟨k, m, rfl, rfl, hk, hm, hs, rfl⟩ := hrel
    have Hs := Lib.hid hs
    have Hm := Lib.hid hm
    clear hs
    have ha := and_one m hm
    have hx := xor_poly m hm
    by_cases hk8 : k < 8
    · have hn : stpN (8 - (k + 1)) (stp m) = stpN 8 c := by
        rw [← Hs.out, show 8 - k = (8 - (k + 1)) + 1 from by omega]; rfl
      have Hn := Lib.hid hn
      clear hn
      by_cases ho : m % 2 = 1
      · rw [ho] at ha
        go_wp2
        go_roundw
        case rel => exact ⟨k + 1, stp m, by go_num, by rw [stp_odd ho], by omega, stp_lt Hm.out, Hn.out, trivial⟩
        case measure => simp [intOf]; omega
      · rw [show m % 2 = 0 from by omega] at ha
        go_wp2
        go_roundw
        case rel => exact ⟨k + 1, stp m, by go_num, by rw [stp_even ho]; go_num, by omega, stp_lt Hm.out, Hn.out, trivial⟩
        case measure => simp [intOf]; omega
    · have hz : m = stpN 8 c := by rw [← Hs.out, show 8 - k = 0 from by omega]; rfl
      have Hz := Lib.hid hz
      clear hz ha hx
      go_wp2
      go_ret
      exact ⟨by rw [Hz.out]; rfl, rfl⟩

theorem max_u32 : IntKind.u32.max = 4294967295 := by decide
theorem not_u32 (m : Nat) (h : m < 4294967296) : bits BinOp.xor IntKind.u32 IntKind.u32.max (m : Int) = ((4294967295 - m : Nat) : Int) := by
  rw [max_u32, show (4294967295 : Int) = ((4294967295 : Nat) : Int) from rfl, u32_xor_nat _ _ (by omega) h]
  congr 1
  apply Nat.eq_of_testBit_eq
  intro i
  have h1 := Nat.testBit_two_pow_sub_succ (n := 32) (x := m) (by omega) i
  have h2 := Nat.testBit_two_pow_sub_one 32 i
  rw [show 2 ^ 32 - (m + 1) = 4294967295 - m by omega] at h1
  rw [show 2 ^ 32 - 1 = 4294967295 from rfl] at h2
  rw [Nat.testBit_xor, h1, h2]
  by_cases hi : i < 32
  · simp [hi]
  · have : m.testBit i = false := Nat.testBit_lt_two_pow (Nat.lt_of_lt_of_le h (by rw [show 4294967296 = 2 ^ 32 from rfl]; exact Nat.pow_le_pow_right (by omega) (by omega)))
    simp [hi, this]
theorem byte_u32 (b : UInt8) : (b.toNat : Int) % 4294967296 = (b.toNat : Int) := by have := b.toNat_lt; omega
theorem xor_byte (m : Nat) (b : UInt8) (h : m < 4294967296) : bits BinOp.xor IntKind.u32 (m : Int) (b.toNat : Int) = ((m ^^^ b.toNat : Nat) : Int) := by
  have := b.toNat_lt
  exact u32_xor_nat _ _ h (by omega)
theorem xor_byte_lt {m : Nat} (b : UInt8) (h : m < 4294967296) : m ^^^ b.toNat < 4294967296 := Nat.xor_lt_two_pow (n := 32) h (by have := b.toNat_lt; omega)
theorem run_at {l : List UInt8} {k : Nat} (h : k < l.length) (m : Nat) : run (l.drop k) m = run (l.drop (k + 1)) (upd m l[k]) := by
  rw [List.drop_eq_getElem_cons h]; rfl

theorem more_any (s : Nat) (l : List UInt8) (hs : s < 4294967296) (hl : l.length ≤ 140737488351232) (w : World) : Calls Try.prog 71 #[.int .u32 s, .string ⟨l.toArray⟩] w fun e w' => e = .returned (.int .u32 (moreL s l : Nat)) ∧ w = w' := by
  have hn0 := not_u32 s hs
  clear hs
  go_enter Try.func71, Try.ntmps71
  go_wp2
  clear hn0
  go_loopw [5, 6, 11] (fun r x i wr => ∃ (k m : Nat), i = .int .i64 k ∧ r = .int .u32 m ∧ k ≤ l.length ∧ m < 4294967296 ∧ run (l.drop k) m = more s l ∧ wr = w)
     (fun _ _ i _ => (l.length - intOf i).toNat)
  case atStart => exact ⟨0, 4294967295 - s, rfl, rfl, by omega, by omega, rfl, rfl⟩
  case round =>
    obtain ⟨k, m, rfl, rfl, hk, hm, hr, rfl⟩ := hrel
    have Hr := Lib.hid hr
    have Hm := Lib.hid hm
    clear hr
    by_cases hkl : k < l.length
    · have hn : run (l.drop (k + 1)) (stpN 8 (m ^^^ l[k].toNat)) = more s l := by
        rw [← Hr.out, run_at hkl]; rfl
      have Hn := Lib.hid hn
      clear hn
      have hb := byte_u32 ((⟨l.toArray⟩ : ByteArray)[k]'hkl)
      have hx := xor_byte m ((⟨l.toArray⟩ : ByteArray)[k]'hkl) hm
      go_wp2_with fail
      refine (shift_any (m ^^^ l[k].toNat) (xor_byte_lt _ Hm.out) _).mono ?_
      rintro e w' ⟨rfl, rfl⟩
      clear hb hx
      go_wp2
      go_roundw
      case rel => exact ⟨k + 1, _, by go_num, rfl, by omega, stpN_lt 8 (xor_byte_lt _ Hm.out), Hn.out, trivial⟩
      case measure => simp [intOf]; omega
    · have hz : 4294967295 - m = moreL s l := by
        unfold moreL
        rw [← Hr.out, List.drop_eq_nil_of_le (by omega)]; rfl
      have Hz := Lib.hid hz
      have hn := not_u32 m hm
      clear hz
      go_wp2
      go_ret
      exact ⟨by rw [Hz.out]; rfl, rfl⟩
theorem sum_any (l : List UInt8) (hl : l.length ≤ 140737488351232) (w : World) : Calls Try.prog 69 #[.string ⟨l.toArray⟩] w fun e w' => e = .returned (.int .u32 (sumL l : Nat)) ∧ w = w' := by
  go_enter Try.func69, Try.ntmps69
  go_wp2_with fail
  refine (more_any 0 l (by omega) hl _).mono ?_
  rintro e w' ⟨rfl, rfl⟩
  go_wp2
  go_ret
  exact ⟨rfl, rfl⟩
end Go.Proofs.Ytbomlapmoiamgaa.crc
