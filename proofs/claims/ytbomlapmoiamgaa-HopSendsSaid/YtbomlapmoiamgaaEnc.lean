/-
  Plain mathematics, no program: the bytes of a number, with the number of further bytes as fuel.
-/
namespace Go.Proofs.Ytbomlapmoiamgaa.enc

def encF : Nat → Nat → List UInt8
  | 0, n => [UInt8.ofNat n]
  | k + 1, n => if n < 128 then [UInt8.ofNat n] else UInt8.ofNat (n % 128 + 128) :: encF k (n / 128)
def enc (n : Nat) : List UInt8 := encF 9 n

theorem encF_lt {k n : Nat} (h : n < 128) : encF k n = [UInt8.ofNat n] := by
  cases k <;> simp [encF, h]
theorem encF_ge {k n : Nat} (h : ¬ n < 128) : encF (k + 1) n = UInt8.ofNat (n % 128 + 128) :: encF k (n / 128) := by
  simp [encF, h]
theorem div_small {k n : Nat} (h : n < 128 ^ (k + 2)) : n / 128 < 128 ^ (k + 1) := by
  rw [Nat.div_lt_iff_lt_mul (by omega)]
  rw [Nat.pow_succ] at h
  exact h
theorem len_encF : ∀ (k n : Nat), (encF k n).length ≤ k + 1
  | 0, n => by simp [encF]
  | k + 1, n => by
    by_cases h : n < 128
    · simp [encF, h]
    · have := len_encF k (n / 128)
      simp [encF, h]; omega
theorem len_enc (n : Nat) : (enc n).length ≤ 10 := len_encF 9 n
theorem pos_encF (k n : Nat) : 1 ≤ (encF k n).length := by
  cases k <;> simp [encF] ; split <;> simp

/-- One round of the loop: what is out, and what is still to come. -/
theorem round_enc {v n k : Nat} {xs : List UInt8} (hx : enc v = xs ++ encF k n) (hl : xs.length + k = 9) (hn : n < 128 ^ (k + 1)) (h : 128 ≤ n) :
    ∃ k', enc v = (xs ++ [UInt8.ofNat (n % 128 + 128)]) ++ encF k' (n / 128) ∧ (xs ++ [UInt8.ofNat (n % 128 + 128)]).length + k' = 9 ∧ n / 128 < 128 ^ (k' + 1) := by
  cases k with
  | zero => exact absurd hn (by simp; omega)
  | succ k =>
    refine ⟨k, ?_, ?_, div_small hn⟩
    · rw [hx, encF_ge (by omega)]; simp
    · simp; omega
theorem start_enc {v : Nat} (h : v < 18446744073709551616) : v < 128 ^ (9 + 1) := by
  have : (18446744073709551616 : Nat) ≤ 128 ^ 10 := by decide +kernel
  omega
theorem len_mono : ∀ (k j n m : Nat), k ≤ j → n ≤ m → (encF k n).length ≤ (encF j m).length
  | 0, j, n, m, _, _ => by
    have := pos_encF j m
    simpa [encF] using this
  | k + 1, 0, _, _, h, _ => absurd h (by omega)
  | k + 1, j + 1, n, m, hk, hn => by
    by_cases h : n < 128
    · have := pos_encF (j + 1) m
      rw [encF_lt h]
      simpa using this
    · have := len_mono k j (n / 128) (m / 128) (by omega) (Nat.div_le_div_right hn)
      rw [encF_ge h, encF_ge (by omega)]
      simpa using this
theorem len_enc_mono {n m : Nat} (h : n ≤ m) : (enc n).length ≤ (enc m).length := len_mono 9 9 n m (Nat.le_refl _) h
theorem pos_enc (n : Nat) : 1 ≤ (enc n).length := pos_encF 9 n
theorem len_enc_next {n m : Nat} (h : m / 128 ≤ n) : (enc m).length ≤ (enc n).length + 1 := by
  by_cases hm : m < 128
  · have := pos_enc n
    unfold enc
    rw [encF_lt hm]
    simp
  · unfold enc
    rw [encF_ge hm]
    have := len_mono 8 9 (m / 128) n (by omega) h
    simpa using this
end Go.Proofs.Ytbomlapmoiamgaa.enc
