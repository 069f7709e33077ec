/-
  The contract of code.decode.
-/
import Derived.Test.YtbomlapmoiamgaaWrite
set_option linter.unusedSimpArgs false
set_option linter.unusedVariables false
namespace Go.Proofs.Ytbomlapmoiamgaa.code
open Go.ChangeShapes Go.WideShapes Go.ChangeAt Go.RowKit
open Go.Proofs.Ytbomlapmoiamgaa.enc

/-- One byte more of a number, in the walk's own spelling. -/
def stp (acc : Int) (b : UInt8) (i : Nat) : Int := bits BinOp.or IntKind.u64 acc (IntKind.u64.wrap ((b.toNat : Int) % 128 * 2 ^ (7 * i)))
/-- The number at the front of bytes: its value, how many bytes it has, what is wrong. -/
def decL : List UInt8 → Nat → Int → Int × Nat × Int
  | [], _, _ => (0, 0, 11)
  | b :: t, i, acc => if 9 ≤ i ∧ 1 < b.toNat then (0, 0, 6) else if 0 < i ∧ b.toNat < 1 then (0, 0, 6) else if b.toNat < 128 then (stp acc b i, i + 1, 0) else decL t (i + 1) (stp acc b i)
def dec (l : List UInt8) : Int × Nat × Int := decL l 0 0
theorem drop_at {s : ByteArray} {k : Nat} (h : k < s.size) : s.data.toList.drop k = s[k] :: s.data.toList.drop (k + 1) := by
  rw [List.drop_eq_getElem_cons (by simpa using h)]; rfl
theorem drop_end {s : ByteArray} {k : Nat} (h : ¬ k < s.size) : s.data.toList.drop k = [] := List.drop_of_length_le (by simpa using h)
def ret3 (d : Int × Nat × Int) : Ending := .returned (.tuple #[.int .u64 d.1, .int .i64 d.2.1, .int .i64 d.2.2])
theorem ret3_eq {d : Int × Nat × Int} {a c : Int} {b : Nat} {b' : Int} (h : d = (a, b, c)) (hb : b' = b) : Ending.returned (.tuple #[.int .u64 a, .int .i64 b', .int .i64 c]) = ret3 d := by subst h; subst hb; rfl

theorem stp_nine {acc : Int} {b : UInt8} {k : Nat} (hk : (k : Int) = 9) (hb : (b.toNat : Int) ≤ 1) : bits BinOp.or IntKind.u64 acc ((b.toNat : Int) % 128 * 9223372036854775808) = stp acc b k := by
  obtain rfl : k = 9 := by omega
  have e : ((b.toNat : Int) % 128 * 2 ^ (7 * 9)) = (b.toNat : Int) % 128 * 9223372036854775808 := by
    rw [show ((2 : Int) ^ (7 * 9)) = 9223372036854775808 from by decide]
  unfold stp
  rw [e, IntWalk.u64_in _ (by omega)]
theorem ret3_nine {d : Int × Nat × Int} {acc : Int} {b : UInt8} {k : Nat} (h : d = (stp acc b k, k + 1, 0)) (hk : (k : Int) = 9) (hb : (b.toNat : Int) ≤ 1) :
    Ending.returned (.tuple #[.int .u64 (bits BinOp.or IntKind.u64 acc ((b.toNat : Int) % 128 * 9223372036854775808)), .int .i64 10, .int .i64 0]) = ret3 d :=
  (by rw [stp_nine hk hb] : _ = Ending.returned (.tuple #[.int .u64 (stp acc b k), .int .i64 10, .int .i64 0])).trans (ret3_eq h (by omega))

set_option maxRecDepth 100000 in
set_option maxHeartbeats 400000 in
theorem decode_any (s : ByteArray) (hs : s.size ≤ 9223372036854775807) (w : World) :
    Calls Try.prog 72 #[.string s] w fun e w' => e = ret3 (dec s.data.toList) ∧ w = w' := by
  go_enter Try.func72, Try.ntmps72
  go_wp2
  go_loop [5, 10] (fun v i => ∃ (k : Nat) (acc : Int), k ≤ s.size ∧ k ≤ 9 ∧ i = .int .i64 k ∧ v = .int .u64 acc ∧ dec s.data.toList = decL (s.data.toList.drop k) k acc) (fun _ i => s.size - (intOf i).toNat)
  case atStart => exact ⟨0, 0, by omega, by omega, rfl, rfl, rfl⟩
  case round =>
    obtain ⟨k, acc, hk, hk9, rfl, rfl, hd⟩ := hrel
    by_cases hlt : k < s.size
    · rw [drop_at hlt] at hd
      by_cases hA : 9 ≤ k ∧ 1 < s[k].toNat
      · rw [decL, if_pos hA] at hd
        have Hd := Lib.hid hd; clear hd
        obtain ⟨h9, h1⟩ := hA
        go_wp2
        go_ret3
        exact ⟨ret3_eq Hd.out rfl, rfl⟩
      · rw [decL, if_neg hA] at hd
        by_cases hB : 0 < k ∧ s[k].toNat < 1
        · rw [if_pos hB] at hd
          have Hd := Lib.hid hd; clear hd hA
          obtain ⟨h9, h1⟩ := hB
          go_wp2
          all_goals go_ret3
          all_goals exact ⟨ret3_eq Hd.out rfl, rfl⟩
        · rw [if_neg hB] at hd
          by_cases hC : s[k].toNat < 128
          · rw [if_pos hC] at hd
            have Hd := Lib.hid hd; clear hd
            have h1 : k = 9 → s[k].toNat ≤ 1 := by omega
            have h2 : 0 < k → 1 ≤ s[k].toNat := by omega
            clear hA hB
            go_wp2
            all_goals go_ret3
            · exact ⟨ret3_nine Hd.out ‹_› ‹_›, rfl⟩
            · exact ⟨ret3_eq Hd.out (by omega), rfl⟩
            · exact ⟨ret3_eq Hd.out (by omega), rfl⟩
          · rw [if_neg hC] at hd
            have Hd := Lib.hid hd; clear hd
            have h1 : k < 9 := by omega
            clear hA hB
            go_wp2
            all_goals go_round
            all_goals first | exact ⟨k + 1, _, by omega, by omega, by go_num, rfl, Hd.out⟩ | (simp [intOf]; omega)
    · rw [drop_end hlt, decL] at hd
      have Hd := Lib.hid hd; clear hd
      go_wp2
      go_ret3
      exact ⟨ret3_eq Hd.out rfl, rfl⟩
end Go.Proofs.Ytbomlapmoiamgaa.code
