/-
  Plain: what each method of a reader gives, of the bytes that are left and of the error: (what is answered, how many bytes are eaten, the error).
  Plain: what is read of bytes is what they were written of, and the other way round.
-/
import Derived.Test.YtfpmcomigolacaaGreatDoorJWrite
set_option linter.unusedSimpArgs false
set_option linter.unusedVariables false
namespace Go.Proofs.YtfpmcomigolacaaGreatDoor.code
open Go.Proofs.YtfpmcomigolacaaGreatDoor.enc

theorem wrap_u64_bd (n : Int) : 0 ≤ IntKind.u64.wrap n ∧ IntKind.u64.wrap n ≤ 18446744073709551615 := by
  have : IntKind.u64.wrap n = n % 18446744073709551616 := by simp [IntKind.wrap, IntKind.bits, IntKind.signed]
  omega
theorem stp_bd (acc : Int) (b : UInt8) (i : Nat) : 0 ≤ stp acc b i ∧ stp acc b i ≤ 18446744073709551615 := by
  unfold stp
  exact wrap_u64_bd _
theorem decL_bd : ∀ (l : List UInt8) (i : Nat) (acc : Int), 0 ≤ (decL l i acc).1 ∧ (decL l i acc).1 ≤ 18446744073709551615 ∧ (decL l i acc).2.1 ≤ i + l.length ∧ ((decL l i acc).2.2 = 0 ∨ (decL l i acc).2.2 = 6 ∨ (decL l i acc).2.2 = 11)
  | [], _, _ => by simp [decL]
  | b :: t, i, acc => by
    rw [decL]
    by_cases h1 : 9 ≤ i ∧ 1 < b.toNat
    · rw [if_pos h1]; simp
    · rw [if_neg h1]
      by_cases h2 : 0 < i ∧ b.toNat < 1
      · rw [if_pos h2]; simp
      · rw [if_neg h2]
        by_cases h3 : b.toNat < 128
        · rw [if_pos h3]
          have := stp_bd acc b i
          simp; omega
        · rw [if_neg h3]
          have := decL_bd t (i + 1) (stp acc b i)
          simp only [List.length_cons]
          omega
theorem dec_bd (l : List UInt8) : 0 ≤ (dec l).1 ∧ (dec l).1 ≤ 18446744073709551615 ∧ (dec l).2.1 ≤ l.length ∧ ((dec l).2.2 = 0 ∨ (dec l).2.2 = 6 ∨ (dec l).2.2 = 11) := by
  have := decL_bd l 0 0
  unfold dec
  omega

def rNum (l : List UInt8) (e : Int) : Int × Nat × Int := if e = 0 then dec l else (0, 0, e)
def rInt (l : List UInt8) (e most : Int) : Int × Nat × Int :=
  if (rNum l e).2.2 = 0 then (if most < 0 ∨ most < (rNum l e).1 then (0, (rNum l e).2.1, 1) else rNum l e) else (0, (rNum l e).2.1, (rNum l e).2.2)
def unzig (v : Int) : Int := if v % 2 = 0 then v / 2 else -(v / 2) - 1
def rTxt (l : List UInt8) (e most : Int) : List UInt8 × Nat × Int :=
  if (rInt l e most).2.2 = 0 then
    (if ((l.length - (rInt l e most).2.1 : Nat) : Int) < (rInt l e most).1 then ([], (rInt l e most).2.1, 11)
     else ((l.drop (rInt l e most).2.1).take (rInt l e most).1.toNat, (rInt l e most).2.1 + (rInt l e most).1.toNat, 0))
  else ([], (rInt l e most).2.1, (rInt l e most).2.2)
def rFail (e x : Int) : Int := if e = 0 then x else e
def rEnd (l : List UInt8) (e : Int) : Int := if l.length = 0 then e else rFail e 7

theorem rNum_bd (l : List UInt8) (e : Int) : 0 ≤ (rNum l e).1 ∧ (rNum l e).1 ≤ 18446744073709551615 ∧ (rNum l e).2.1 ≤ l.length := by
  have := dec_bd l
  unfold rNum
  by_cases h : e = 0
  · rw [if_pos h]; omega
  · rw [if_neg h]; simp
theorem rInt_bd (l : List UInt8) (e most : Int) : 0 ≤ (rInt l e most).1 ∧ ((rInt l e most).1 ≤ most ∨ (rInt l e most).1 = 0) ∧ (rInt l e most).2.1 ≤ l.length := by
  have := rNum_bd l e
  unfold rInt
  split
  · split
    · simp; omega
    · omega
  · simp; omega
theorem rTxt_bd (l : List UInt8) (e most : Int) : (rTxt l e most).2.1 ≤ l.length := by
  have := rInt_bd l e most
  unfold rTxt
  split
  · split
    · simp; omega
    · simp; omega
  · simp; omega
end Go.Proofs.YtfpmcomigolacaaGreatDoor.code
set_option linter.unusedSimpArgs false
set_option linter.unusedVariables false
namespace Go.Proofs.YtfpmcomigolacaaGreatDoor.code
open Go.Proofs.YtfpmcomigolacaaGreatDoor.enc

theorem stp_add {acc i : Nat} {b : UInt8} (h : acc < 2 ^ (7 * i)) (h2 : 2 ^ (7 * i) ≤ 2 ^ 63) (hb : b.toNat % 128 * 2 ^ (7 * i) < 18446744073709551616) : stp (acc : Int) b i = ((acc + b.toNat % 128 * 2 ^ (7 * i) : Nat) : Int) := by
  unfold stp
  have e : ((b.toNat : Int) % 128 * 2 ^ (7 * i)) = ((b.toNat % 128 * 2 ^ (7 * i) : Nat) : Int) := by
    rw [Int.natCast_mul, Int.natCast_pow]
    rfl
  have h3 : (2 : Nat) ^ 63 = 9223372036854775808 := by decide
  rw [h3] at h2
  rw [e, IntWalk.u64_in _ (by omega), u64_or_nat _ _ (by omega) hb]
  rw [Nat.or_comm, nat_join (7 * i) _ _ (Nat.mul_mod_left _ _) h]
  congr 1
  omega
theorem pow_le9 {i : Nat} (h : i ≤ 9) : 2 ^ (7 * i) ≤ 2 ^ 63 := Nat.pow_le_pow_right (by omega) (by omega)
theorem digit_small {i x : Nat} (h : i ≤ 8) (hx : x < 128) : x * 2 ^ (7 * i) < 18446744073709551616 := by
  have h1 : 2 ^ (7 * i) ≤ 2 ^ 56 := Nat.pow_le_pow_right (by omega) (by omega)
  have h2 : (2 : Nat) ^ 56 = 72057594037927936 := by decide
  have h3 : x * 2 ^ (7 * i) ≤ 127 * 2 ^ 56 := Nat.mul_le_mul (by omega) h1
  omega
theorem digit_ok {i : Nat} {b : UInt8} (hi : i ≤ 9) (hA : ¬ (9 ≤ i ∧ 1 < b.toNat)) : b.toNat % 128 * 2 ^ (7 * i) < 18446744073709551616 := by
  by_cases h9 : i ≤ 8
  · exact digit_small h9 (Nat.mod_lt _ (by omega))
  · obtain rfl : i = 9 := by omega
    have h3 : (2 : Nat) ^ (7 * 9) = 9223372036854775808 := by decide
    rw [h3]
    omega
theorem next_small {i acc x : Nat} (h : acc < 2 ^ (7 * i)) (hx : x < 128) : acc + x * 2 ^ (7 * i) < 2 ^ (7 * (i + 1)) := by
  have h1 : 2 ^ (7 * (i + 1)) = 128 * 2 ^ (7 * i) := by rw [Nat.mul_succ, Nat.pow_add]; omega
  have h2 : x * 2 ^ (7 * i) ≤ 127 * 2 ^ (7 * i) := Nat.mul_le_mul_right _ (by omega)
  omega

/-- An error comes with nothing. -/
theorem decL_err : ∀ (l : List UInt8) (i : Nat) (acc : Int), (decL l i acc).2.2 ≠ 0 → (decL l i acc).1 = 0 ∧ (decL l i acc).2.1 = 0
  | [], _, _, _ => by simp [decL]
  | b :: t, i, acc, h => by
    rw [decL] at h ⊢
    by_cases h1 : 9 ≤ i ∧ 1 < b.toNat
    · rw [if_pos h1]; simp
    · rw [if_neg h1] at h ⊢
      by_cases h2 : 0 < i ∧ b.toNat < 1
      · rw [if_pos h2]; simp
      · rw [if_neg h2] at h ⊢
        by_cases h3 : b.toNat < 128
        · rw [if_pos h3] at h; simp at h
        · rw [if_neg h3] at h ⊢
          exact decL_err t (i + 1) _ h

theorem byte_of (b : UInt8) {d' : Nat} (h : ¬ b.toNat < 128) : UInt8.ofNat ((b.toNat % 128 + 128 * d') % 128 + 128) = b := by
  have hb := b.toNat_lt
  apply UInt8.toNat_inj.1
  simp
  omega

/-- What is read is what was written. -/
theorem decL_ok : ∀ (l : List UInt8) (i acc : Nat), i ≤ 9 → acc < 2 ^ (7 * i) → (decL l i (acc : Int)).2.2 = 0 →
    ∃ d n : Nat, decL l i (acc : Int) = (((acc + d * 2 ^ (7 * i) : Nat) : Int), n, 0) ∧ encF (9 - i) d = l.take (n - i) ∧ i + 1 ≤ n ∧ n ≤ 10 ∧ n - i ≤ l.length ∧ (0 < i → 1 ≤ d) ∧
      ∀ m, m < n - i → decL (l.take m) i (acc : Int) = (0, 0, 11)
  | [], i, acc, _, _, h => by simp [decL] at h
  | b :: t, i, acc, hi, ha, h => by
    rw [decL] at h
    by_cases h1 : 9 ≤ i ∧ 1 < b.toNat
    · rw [if_pos h1] at h; simp at h
    · rw [if_neg h1] at h
      by_cases h2 : 0 < i ∧ b.toNat < 1
      · rw [if_pos h2] at h; simp at h
      · rw [if_neg h2] at h
        have hs := stp_add ha (pow_le9 hi) (digit_ok hi h1)
        by_cases h3 : b.toNat < 128
        · refine ⟨b.toNat, i + 1, ?_, ?_, by omega, by omega, by simp, by omega, ?_⟩
          · rw [decL, if_neg h1, if_neg h2, if_pos h3, hs]
            rw [Nat.mod_eq_of_lt h3]
          · rw [encF_lt h3]
            simp
          · intro m hm
            obtain rfl : m = 0 := by omega
            rfl
        · rw [if_neg h3, hs] at h
          have h9 : i ≤ 8 := by omega
          obtain ⟨d, n, e1, e2, e3, e4, e5, e6, e7⟩ := decL_ok t (i + 1) _ (by omega) (next_small ha (Nat.mod_lt _ (by omega))) h
          have hd := e6 (by omega)
          have hb := b.toNat_lt
          refine ⟨b.toNat % 128 + 128 * d, n, ?_, ?_, by omega, e4, by simp; omega, by omega, ?_⟩
          · rw [decL, if_neg h1, if_neg h2, if_neg h3, hs, e1]
            have hp : 2 ^ (7 * (i + 1)) = 128 * 2 ^ (7 * i) := by rw [Nat.mul_succ, Nat.pow_add]; omega
            have : acc + b.toNat % 128 * 2 ^ (7 * i) + d * 2 ^ (7 * (i + 1)) = acc + (b.toNat % 128 + 128 * d) * 2 ^ (7 * i) := by
              rw [hp, Nat.add_mul, Nat.add_assoc]
              congr 2
              rw [Nat.mul_left_comm, Nat.mul_assoc]
            rw [this]
          · obtain ⟨k, hk⟩ : ∃ k, 9 - i = k + 1 := ⟨8 - i, by omega⟩
            rw [hk, encF_ge (by omega), byte_of b h3]
            have hq : (b.toNat % 128 + 128 * d) / 128 = d := by omega
            have hk' : k = 9 - (i + 1) := by omega
            rw [hq, hk', e2]
            have hn : n - i = (n - (i + 1)) + 1 := by omega
            rw [hn, List.take_succ_cons]
          · intro m hm
            cases m with
            | zero => rfl
            | succ m =>
              rw [List.take_succ_cons, decL, if_neg h1, if_neg h2, if_neg h3, hs]
              exact e7 m (by omega)

/-- What is written is read, whatever stands behind it. -/
theorem decL_enc : ∀ (k i d acc : Nat) (r : List UInt8), i + k = 9 → acc < 2 ^ (7 * i) → d < 128 ^ (k + 1) → acc + d * 2 ^ (7 * i) < 18446744073709551616 → (0 < i → 1 ≤ d) →
    decL (encF k d ++ r) i (acc : Int) = (((acc + d * 2 ^ (7 * i) : Nat) : Int), i + (encF k d).length, 0)
  | k, i, d, acc, r, hk, ha, hd, hv, hpos => by
    by_cases h : d < 128
    · rw [encF_lt h]
      have hb : (UInt8.ofNat d).toNat = d := by simp; omega
      have h1 : ¬ (9 ≤ i ∧ 1 < (UInt8.ofNat d).toNat) := by
        rw [hb]
        rintro ⟨h9, h1⟩
        obtain rfl : i = 9 := by omega
        have h3 : (2 : Nat) ^ (7 * 9) = 9223372036854775808 := by decide
        rw [h3] at hv
        omega
      have hs := stp_add (b := UInt8.ofNat d) ha (pow_le9 (by omega)) (digit_ok (by omega) h1)
      simp only [List.cons_append, List.nil_append]
      rw [decL, if_neg h1, if_neg (by rw [hb]; omega), if_pos (by rw [hb]; exact h), hs, hb, Nat.mod_eq_of_lt h]
      rfl
    · cases k with
      | zero => simp at hd; omega
      | succ k =>
        rw [encF_ge h]
        have hb : (UInt8.ofNat (d % 128 + 128)).toNat = d % 128 + 128 := by simp; omega
        have h1 : ¬ (9 ≤ i ∧ 1 < (UInt8.ofNat (d % 128 + 128)).toNat) := by omega
        have hs := stp_add (b := UInt8.ofNat (d % 128 + 128)) ha (pow_le9 (by omega)) (digit_ok (by omega) h1)
        rw [hb] at hs
        have hm : (d % 128 + 128) % 128 = d % 128 := by omega
        rw [hm] at hs
        have hp : 2 ^ (7 * (i + 1)) = 128 * 2 ^ (7 * i) := by rw [Nat.mul_succ, Nat.pow_add]; omega
        have hsum : acc + d % 128 * 2 ^ (7 * i) + d / 128 * 2 ^ (7 * (i + 1)) = acc + d * 2 ^ (7 * i) := by
          have e : d = d % 128 + 128 * (d / 128) := by omega
          conv => rhs; rw [e]
          rw [hp, Nat.add_mul, Nat.add_assoc]
          congr 2
          rw [Nat.mul_left_comm, Nat.mul_assoc]
        simp only [List.cons_append]
        rw [decL, if_neg h1, if_neg (by rw [hb]; omega), if_neg (by rw [hb]; omega), hs,
          decL_enc k (i + 1) (d / 128) _ r (by omega) (next_small ha (Nat.mod_lt _ (by omega))) (div_small hd) (by rw [hsum]; exact hv) (by omega), hsum]
        simp only [List.length_cons]
        congr 2
        omega
theorem dec_enc {v : Nat} (h : v < 18446744073709551616) (r : List UInt8) : dec (enc v ++ r) = ((v : Int), (enc v).length, 0) := by
  have := decL_enc 9 0 v 0 r rfl (by decide) (start_enc h) (by simpa using h) (by omega)
  simpa [dec, enc] using this
theorem dec_ok {l : List UInt8} (h : (dec l).2.2 = 0) :
    ∃ v n : Nat, dec l = ((v : Int), n, 0) ∧ enc v = l.take n ∧ 1 ≤ n ∧ n ≤ 10 ∧ n ≤ l.length ∧ ∀ m, m < n → dec (l.take m) = (0, 0, 11) := by
  obtain ⟨d, n, e1, e2, e3, e4, e5, _, e7⟩ := decL_ok l 0 0 (by omega) (by decide) h
  exact ⟨d, n, by simpa [dec] using e1, e2, by omega, e4, by omega, fun m hm => e7 m (by omega)⟩
theorem dec_err {l : List UInt8} (h : (dec l).2.2 ≠ 0) : (dec l).1 = 0 ∧ (dec l).2.1 = 0 := decL_err l 0 0 h
end Go.Proofs.YtfpmcomigolacaaGreatDoor.code
