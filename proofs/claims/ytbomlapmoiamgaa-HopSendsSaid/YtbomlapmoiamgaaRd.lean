/-
  Plain: what each method of a reader gives, of the bytes that are left and of the error: (what is answered, how many bytes are eaten, the error).
-/
import Derived.Test.YtbomlapmoiamgaaDec
set_option linter.unusedSimpArgs false
set_option linter.unusedVariables false
namespace Go.Proofs.Ytbomlapmoiamgaa.code
open Go.Proofs.Ytbomlapmoiamgaa.enc

theorem wrap_u64_bd (n : Int) : 0 ≤ IntKind.u64.wrap n ∧ IntKind.u64.wrap n ≤ 18446744073709551615 := by
  have : IntKind.u64.wrap n = n % 18446744073709551616 := by simp [IntKind.wrap, IntKind.bits, IntKind.signed]
  omega
theorem stp_bd (acc : Int) (b : UInt8) (i : Nat) : 0 ≤ stp acc b i ∧ stp acc b i ≤ 18446744073709551615 := by
  unfold stp
  exact wrap_u64_bd _
theorem decL_bd : ∀ (l : List UInt8) (i : Nat) (acc : Int), 0 ≤ (decL l i acc).1 ∧ (decL l i acc).1 ≤ 18446744073709551615 ∧ (decL l i acc).2.1 ≤ i + l.length ∧ ((decL l i acc).2.2 = 0 ∨ (decL l i acc).2.2 = 6 ∨ (decL l i acc).2.2 = 11)
  | [], _, _ => by simp [decL]
  | b :: t, i, acc => by
    rw [decL]
    by_cases h1 : 9 ≤ i ∧ 1 < b.toNat
    · rw [if_pos h1]; simp
    · rw [if_neg h1]
      by_cases h2 : 0 < i ∧ b.toNat < 1
      · rw [if_pos h2]; simp
      · rw [if_neg h2]
        by_cases h3 : b.toNat < 128
        · rw [if_pos h3]
          have := stp_bd acc b i
          simp; omega
        · rw [if_neg h3]
          have := decL_bd t (i + 1) (stp acc b i)
          simp only [List.length_cons]
          omega
theorem dec_bd (l : List UInt8) : 0 ≤ (dec l).1 ∧ (dec l).1 ≤ 18446744073709551615 ∧ (dec l).2.1 ≤ l.length ∧ ((dec l).2.2 = 0 ∨ (dec l).2.2 = 6 ∨ (dec l).2.2 = 11) := by
  have := decL_bd l 0 0
  unfold dec
  omega

def rNum (l : List UInt8) (e : Int) : Int × Nat × Int := if e = 0 then dec l else (0, 0, e)
def rInt (l : List UInt8) (e most : Int) : Int × Nat × Int :=
  if (rNum l e).2.2 = 0 then (if most < 0 ∨ most < (rNum l e).1 then (0, (rNum l e).2.1, 1) else rNum l e) else (0, (rNum l e).2.1, (rNum l e).2.2)
def unzig (v : Int) : Int := if v % 2 = 0 then v / 2 else -(v / 2) - 1
def rTxt (l : List UInt8) (e most : Int) : List UInt8 × Nat × Int :=
  if (rInt l e most).2.2 = 0 then
    (if ((l.length - (rInt l e most).2.1 : Nat) : Int) < (rInt l e most).1 then ([], (rInt l e most).2.1, 11)
     else ((l.drop (rInt l e most).2.1).take (rInt l e most).1.toNat, (rInt l e most).2.1 + (rInt l e most).1.toNat, 0))
  else ([], (rInt l e most).2.1, (rInt l e most).2.2)
def rFail (e x : Int) : Int := if e = 0 then x else e
def rEnd (l : List UInt8) (e : Int) : Int := if l.length = 0 then e else rFail e 7

theorem rNum_bd (l : List UInt8) (e : Int) : 0 ≤ (rNum l e).1 ∧ (rNum l e).1 ≤ 18446744073709551615 ∧ (rNum l e).2.1 ≤ l.length := by
  have := dec_bd l
  unfold rNum
  by_cases h : e = 0
  · rw [if_pos h]; omega
  · rw [if_neg h]; simp
theorem rInt_bd (l : List UInt8) (e most : Int) : 0 ≤ (rInt l e most).1 ∧ ((rInt l e most).1 ≤ most ∨ (rInt l e most).1 = 0) ∧ (rInt l e most).2.1 ≤ l.length := by
  have := rNum_bd l e
  unfold rInt
  split
  · split
    · simp; omega
    · omega
  · simp; omega
theorem rTxt_bd (l : List UInt8) (e most : Int) : (rTxt l e most).2.1 ≤ l.length := by
  have := rInt_bd l e most
  unfold rTxt
  split
  · split
    · simp; omega
    · simp; omega
  · simp; omega
end Go.Proofs.Ytbomlapmoiamgaa.code
