/-
  The contract of code.decode.
  Plain: what each method of a reader gives, of the bytes that are left and of the error: (what is answered, how many bytes are eaten, the error).
-/
import Derived.Test.YtfpmcomigolacaaGreatDoorJEnc
set_option linter.unusedSimpArgs false
set_option linter.unusedVariables false
namespace Go.Proofs.YtfpmcomigolacaaGreatDoor.code
open Go.ChangeShapes Go.WideShapes Go.ChangeAt Go.RowKit
open Go.Proofs.YtfpmcomigolacaaGreatDoor.enc

/-- One byte more of a number, in the walk's own spelling. -/
def stp (acc : Int) (b : UInt8) (i : Nat) : Int := bits BinOp.or IntKind.u64 acc (IntKind.u64.wrap ((b.toNat : Int) % 128 * 2 ^ (7 * i)))
/-- The number at the front of bytes: its value, how many bytes it has, what is wrong. -/
def decL : List UInt8 → Nat → Int → Int × Nat × Int
  | [], _, _ => (0, 0, 11)
  | b :: t, i, acc => if 9 ≤ i ∧ 1 < b.toNat then (0, 0, 6) else if 0 < i ∧ b.toNat < 1 then (0, 0, 6) else if b.toNat < 128 then (stp acc b i, i + 1, 0) else decL t (i + 1) (stp acc b i)
def dec (l : List UInt8) : Int × Nat × Int := decL l 0 0
theorem drop_at {s : ByteArray} {k : Nat} (h : k < s.size) : s.data.toList.drop k = s[k] :: s.data.toList.drop (k + 1) := by
  rw [List.drop_eq_getElem_cons (by simpa using h)]; rfl
theorem drop_end {s : ByteArray} {k : Nat} (h : ¬ k < s.size) : s.data.toList.drop k = [] := List.drop_of_length_le (by simpa using h)
def ret3 (d : Int × Nat × Int) : Ending := .returned (.tuple #[.int .u64 d.1, .int .i64 d.2.1, .int .i64 d.2.2])
theorem ret3_eq {d : Int × Nat × Int} {a c : Int} {b : Nat} {b' : Int} (h : d = (a, b, c)) (hb : b' = b) : Ending.returned (.tuple #[.int .u64 a, .int .i64 b', .int .i64 c]) = ret3 d := by subst h; subst hb; rfl

theorem stp_nine {acc : Int} {b : UInt8} {k : Nat} (hk : (k : Int) = 9) (hb : (b.toNat : Int) ≤ 1) : bits BinOp.or IntKind.u64 acc ((b.toNat : Int) % 128 * 9223372036854775808) = stp acc b k := by
  obtain rfl : k = 9 := by omega
  have e : ((b.toNat : Int) % 128 * 2 ^ (7 * 9)) = (b.toNat : Int) % 128 * 9223372036854775808 := by
    rw [show ((2 : Int) ^ (7 * 9)) = 9223372036854775808 from by decide]
  unfold stp
  rw [e, IntWalk.u64_in _ (by omega)]
theorem ret3_nine {d : Int × Nat × Int} {acc : Int} {b : UInt8} {k : Nat} (h : d = (stp acc b k, k + 1, 0)) (hk : (k : Int) = 9) (hb : (b.toNat : Int) ≤ 1) :
    Ending.returned (.tuple #[.int .u64 (bits BinOp.or IntKind.u64 acc ((b.toNat : Int) % 128 * 9223372036854775808)), .int .i64 10, .int .i64 0]) = ret3 d :=
  (by rw [stp_nine hk hb] : _ = Ending.returned (.tuple #[.int .u64 (stp acc b k), .int .i64 10, .int .i64 0])).trans (ret3_eq h (by omega))

set_option maxRecDepth 100000 in
set_option maxHeartbeats 400000 in
theorem decode_any (s : ByteArray) (hs : s.size ≤ 9223372036854775807) (w : World) :
    Calls Tryz.prog 119 #[.string s] w fun e w' => e = ret3 (dec s.data.toList) ∧ w = w' := by
  go_enter Tryz.func119, Tryz.ntmps119
  go_wp2
  go_loop [5, 10] (fun v i => ∃ (k : Nat) (acc : Int), k ≤ s.size ∧ k ≤ 9 ∧ i = .int .i64 k ∧ v = .int .u64 acc ∧ dec s.data.toList = decL (s.data.toList.drop k) k acc) (fun _ i => s.size - (intOf i).toNat)
  case atStart => exact ⟨0, 0, by omega, by omega, rfl, rfl, rfl⟩
  case round =>
    obtain ⟨k, acc, hk, hk9, rfl, rfl, hd⟩ := hrel
    by_cases hlt : k < s.size
    · rw [drop_at hlt] at hd
      by_cases hA : 9 ≤ k ∧ 1 < s[k].toNat
      · rw [decL, if_pos hA] at hd
        have Hd := Lib.hid hd; clear hd
        obtain ⟨h9, h1⟩ := hA
        go_wp2
        go_ret3
        exact ⟨ret3_eq Hd.out rfl, rfl⟩
      · rw [decL, if_neg hA] at hd
        by_cases hB : 0 < k ∧ s[k].toNat < 1
        · rw [if_pos hB] at hd
          have Hd := Lib.hid hd; clear hd hA
          obtain ⟨h9, h1⟩ := hB
          go_wp2
          all_goals go_ret3
          all_goals exact ⟨ret3_eq Hd.out rfl, rfl⟩
        · rw [if_neg hB] at hd
          by_cases hC : s[k].toNat < 128
          · rw [if_pos hC] at hd
            have Hd := Lib.hid hd; clear hd
            have h1 : k = 9 → s[k].toNat ≤ 1 := by omega
            have h2 : 0 < k → 1 ≤ s[k].toNat := by omega
            clear hA hB
            go_wp2
            all_goals go_ret3
            · exact ⟨ret3_nine Hd.out ‹_› ‹_›, rfl⟩
            · exact ⟨ret3_eq Hd.out (by omega), rfl⟩
            · exact ⟨ret3_eq Hd.out (by omega), rfl⟩
          · rw [if_neg hC] at hd
            have Hd := Lib.hid hd; clear hd
            have h1 : k < 9 := by omega
            clear hA hB
            go_wp2
            all_goals go_round
            all_goals first | exact ⟨k + 1, _, by omega, by omega, by go_num, rfl, Hd.out⟩ | (simp [intOf]; omega)
    · rw [drop_end hlt, decL] at hd
      have Hd := Lib.hid hd; clear hd
      go_wp2
      go_ret3
      exact ⟨ret3_eq Hd.out rfl, rfl⟩
end Go.Proofs.YtfpmcomigolacaaGreatDoor.code
set_option linter.unusedSimpArgs false
set_option linter.unusedVariables false
namespace Go.Proofs.YtfpmcomigolacaaGreatDoor.code
open Go.Proofs.YtfpmcomigolacaaGreatDoor.enc

theorem wrap_u64_bd (n : Int) : 0 ≤ IntKind.u64.wrap n ∧ IntKind.u64.wrap n ≤ 18446744073709551615 := by
  have : IntKind.u64.wrap n = n % 18446744073709551616 := by simp [IntKind.wrap, IntKind.bits, IntKind.signed]
  omega
theorem stp_bd (acc : Int) (b : UInt8) (i : Nat) : 0 ≤ stp acc b i ∧ stp acc b i ≤ 18446744073709551615 := by
  unfold stp
  exact wrap_u64_bd _
theorem decL_bd : ∀ (l : List UInt8) (i : Nat) (acc : Int), 0 ≤ (decL l i acc).1 ∧ (decL l i acc).1 ≤ 18446744073709551615 ∧ (decL l i acc).2.1 ≤ i + l.length ∧ ((decL l i acc).2.2 = 0 ∨ (decL l i acc).2.2 = 6 ∨ (decL l i acc).2.2 = 11)
  | [], _, _ => by simp [decL]
  | b :: t, i, acc => by
    rw [decL]
    by_cases h1 : 9 ≤ i ∧ 1 < b.toNat
    · rw [if_pos h1]; simp
    · rw [if_neg h1]
      by_cases h2 : 0 < i ∧ b.toNat < 1
      · rw [if_pos h2]; simp
      · rw [if_neg h2]
        by_cases h3 : b.toNat < 128
        · rw [if_pos h3]
          have := stp_bd acc b i
          simp; omega
        · rw [if_neg h3]
          have := decL_bd t (i + 1) (stp acc b i)
          simp only [List.length_cons]
          omega
theorem dec_bd (l : List UInt8) : 0 ≤ (dec l).1 ∧ (dec l).1 ≤ 18446744073709551615 ∧ (dec l).2.1 ≤ l.length ∧ ((dec l).2.2 = 0 ∨ (dec l).2.2 = 6 ∨ (dec l).2.2 = 11) := by
  have := decL_bd l 0 0
  unfold dec
  omega

def rNum (l : List UInt8) (e : Int) : Int × Nat × Int := if e = 0 then dec l else (0, 0, e)
def rInt (l : List UInt8) (e most : Int) : Int × Nat × Int :=
  if (rNum l e).2.2 = 0 then (if most < 0 ∨ most < (rNum l e).1 then (0, (rNum l e).2.1, 1) else rNum l e) else (0, (rNum l e).2.1, (rNum l e).2.2)
def unzig (v : Int) : Int := if v % 2 = 0 then v / 2 else -(v / 2) - 1
def rTxt (l : List UInt8) (e most : Int) : List UInt8 × Nat × Int :=
  if (rInt l e most).2.2 = 0 then
    (if ((l.length - (rInt l e most).2.1 : Nat) : Int) < (rInt l e most).1 then ([], (rInt l e most).2.1, 11)
     else ((l.drop (rInt l e most).2.1).take (rInt l e most).1.toNat, (rInt l e most).2.1 + (rInt l e most).1.toNat, 0))
  else ([], (rInt l e most).2.1, (rInt l e most).2.2)
def rFail (e x : Int) : Int := if e = 0 then x else e
def rEnd (l : List UInt8) (e : Int) : Int := if l.length = 0 then e else rFail e 7

theorem rNum_bd (l : List UInt8) (e : Int) : 0 ≤ (rNum l e).1 ∧ (rNum l e).1 ≤ 18446744073709551615 ∧ (rNum l e).2.1 ≤ l.length := by
  have := dec_bd l
  unfold rNum
  by_cases h : e = 0
  · rw [if_pos h]; omega
  · rw [if_neg h]; simp
theorem rInt_bd (l : List UInt8) (e most : Int) : 0 ≤ (rInt l e most).1 ∧ ((rInt l e most).1 ≤ most ∨ (rInt l e most).1 = 0) ∧ (rInt l e most).2.1 ≤ l.length := by
  have := rNum_bd l e
  unfold rInt
  split
  · split
    · simp; omega
    · omega
  · simp; omega
theorem rTxt_bd (l : List UInt8) (e most : Int) : (rTxt l e most).2.1 ≤ l.length := by
  have := rInt_bd l e most
  unfold rTxt
  split
  · split
    · simp; omega
    · simp; omega
  · simp; omega
end Go.Proofs.YtfpmcomigolacaaGreatDoor.code
