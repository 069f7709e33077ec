/-
  Plain: what is read of bytes is what they were written of, and the other way round.
  Frames of a log, mathematics: a text's frame, the frame at the front of some bytes; frames behind each other, and beginnings of them.
-/
import Derived.Test.YtfpmcomigolacaaGreatDoorJDec
import Derived.Test.YtfpmcomigolacaaGreatDoorJCrcMath
import Derived.Test.YtfpmcomigolacaaGreatDoorJWm
set_option linter.unusedSimpArgs false
set_option linter.unusedVariables false
namespace Go.Proofs.YtfpmcomigolacaaGreatDoor.code
open Go.Proofs.YtfpmcomigolacaaGreatDoor.enc

theorem stp_add {acc i : Nat} {b : UInt8} (h : acc < 2 ^ (7 * i)) (h2 : 2 ^ (7 * i) ≤ 2 ^ 63) (hb : b.toNat % 128 * 2 ^ (7 * i) < 18446744073709551616) : stp (acc : Int) b i = ((acc + b.toNat % 128 * 2 ^ (7 * i) : Nat) : Int) := by
  unfold stp
  have e : ((b.toNat : Int) % 128 * 2 ^ (7 * i)) = ((b.toNat % 128 * 2 ^ (7 * i) : Nat) : Int) := by
    rw [Int.natCast_mul, Int.natCast_pow]
    rfl
  have h3 : (2 : Nat) ^ 63 = 9223372036854775808 := by decide
  rw [h3] at h2
  rw [e, IntWalk.u64_in _ (by omega), u64_or_nat _ _ (by omega) hb]
  rw [Nat.or_comm, nat_join (7 * i) _ _ (Nat.mul_mod_left _ _) h]
  congr 1
  omega
theorem pow_le9 {i : Nat} (h : i ≤ 9) : 2 ^ (7 * i) ≤ 2 ^ 63 := Nat.pow_le_pow_right (by omega) (by omega)
theorem digit_small {i x : Nat} (h : i ≤ 8) (hx : x < 128) : x * 2 ^ (7 * i) < 18446744073709551616 := by
  have h1 : 2 ^ (7 * i) ≤ 2 ^ 56 := Nat.pow_le_pow_right (by omega) (by omega)
  have h2 : (2 : Nat) ^ 56 = 72057594037927936 := by decide
  have h3 : x * 2 ^ (7 * i) ≤ 127 * 2 ^ 56 := Nat.mul_le_mul (by omega) h1
  omega
theorem digit_ok {i : Nat} {b : UInt8} (hi : i ≤ 9) (hA : ¬ (9 ≤ i ∧ 1 < b.toNat)) : b.toNat % 128 * 2 ^ (7 * i) < 18446744073709551616 := by
  by_cases h9 : i ≤ 8
  · exact digit_small h9 (Nat.mod_lt _ (by omega))
  · obtain rfl : i = 9 := by omega
    have h3 : (2 : Nat) ^ (7 * 9) = 9223372036854775808 := by decide
    rw [h3]
    omega
theorem next_small {i acc x : Nat} (h : acc < 2 ^ (7 * i)) (hx : x < 128) : acc + x * 2 ^ (7 * i) < 2 ^ (7 * (i + 1)) := by
  have h1 : 2 ^ (7 * (i + 1)) = 128 * 2 ^ (7 * i) := by rw [Nat.mul_succ, Nat.pow_add]; omega
  have h2 : x * 2 ^ (7 * i) ≤ 127 * 2 ^ (7 * i) := Nat.mul_le_mul_right _ (by omega)
  omega

/-- An error comes with nothing. -/
theorem decL_err : ∀ (l : List UInt8) (i : Nat) (acc : Int), (decL l i acc).2.2 ≠ 0 → (decL l i acc).1 = 0 ∧ (decL l i acc).2.1 = 0
  | [], _, _, _ => by simp [decL]
  | b :: t, i, acc, h => by
    rw [decL] at h ⊢
    by_cases h1 : 9 ≤ i ∧ 1 < b.toNat
    · rw [if_pos h1]; simp
    · rw [if_neg h1] at h ⊢
      by_cases h2 : 0 < i ∧ b.toNat < 1
      · rw [if_pos h2]; simp
      · rw [if_neg h2] at h ⊢
        by_cases h3 : b.toNat < 128
        · rw [if_pos h3] at h; simp at h
        · rw [if_neg h3] at h ⊢
          exact decL_err t (i + 1) _ h

theorem byte_of (b : UInt8) {d' : Nat} (h : ¬ b.toNat < 128) : UInt8.ofNat ((b.toNat % 128 + 128 * d') % 128 + 128) = b := by
  have hb := b.toNat_lt
  apply UInt8.toNat_inj.1
  simp
  omega

/-- What is read is what was written. -/
theorem decL_ok : ∀ (l : List UInt8) (i acc : Nat), i ≤ 9 → acc < 2 ^ (7 * i) → (decL l i (acc : Int)).2.2 = 0 →
    ∃ d n : Nat, decL l i (acc : Int) = (((acc + d * 2 ^ (7 * i) : Nat) : Int), n, 0) ∧ encF (9 - i) d = l.take (n - i) ∧ i + 1 ≤ n ∧ n ≤ 10 ∧ n - i ≤ l.length ∧ (0 < i → 1 ≤ d) ∧
      ∀ m, m < n - i → decL (l.take m) i (acc : Int) = (0, 0, 11)
  | [], i, acc, _, _, h => by simp [decL] at h
  | b :: t, i, acc, hi, ha, h => by
    rw [decL] at h
    by_cases h1 : 9 ≤ i ∧ 1 < b.toNat
    · rw [if_pos h1] at h; simp at h
    · rw [if_neg h1] at h
      by_cases h2 : 0 < i ∧ b.toNat < 1
      · rw [if_pos h2] at h; simp at h
      · rw [if_neg h2] at h
        have hs := stp_add ha (pow_le9 hi) (digit_ok hi h1)
        by_cases h3 : b.toNat < 128
        · refine ⟨b.toNat, i + 1, ?_, ?_, by omega, by omega, by simp, by omega, ?_⟩
          · rw [decL, if_neg h1, if_neg h2, if_pos h3, hs]
            rw [Nat.mod_eq_of_lt h3]
          · rw [encF_lt h3]
            simp
          · intro m hm
            obtain rfl : m = 0 := by omega
            rfl
        · rw [if_neg h3, hs] at h
          have h9 : i ≤ 8 := by omega
          obtain ⟨d, n, e1, e2, e3, e4, e5, e6, e7⟩ := decL_ok t (i + 1) _ (by omega) (next_small ha (Nat.mod_lt _ (by omega))) h
          have hd := e6 (by omega)
          have hb := b.toNat_lt
          refine ⟨b.toNat % 128 + 128 * d, n, ?_, ?_, by omega, e4, by simp; omega, by omega, ?_⟩
          · rw [decL, if_neg h1, if_neg h2, if_neg h3, hs, e1]
            have hp : 2 ^ (7 * (i + 1)) = 128 * 2 ^ (7 * i) := by rw [Nat.mul_succ, Nat.pow_add]; omega
            have : acc + b.toNat % 128 * 2 ^ (7 * i) + d * 2 ^ (7 * (i + 1)) = acc + (b.toNat % 128 + 128 * d) * 2 ^ (7 * i) := by
              rw [hp, Nat.add_mul, Nat.add_assoc]
              congr 2
              rw [Nat.mul_left_comm, Nat.mul_assoc]
            rw [this]
          · obtain ⟨k, hk⟩ : ∃ k, 9 - i = k + 1 := ⟨8 - i, by omega⟩
            rw [hk, encF_ge (by omega), byte_of b h3]
            have hq : (b.toNat % 128 + 128 * d) / 128 = d := by omega
            have hk' : k = 9 - (i + 1) := by omega
            rw [hq, hk', e2]
            have hn : n - i = (n - (i + 1)) + 1 := by omega
            rw [hn, List.take_succ_cons]
          · intro m hm
            cases m with
            | zero => rfl
            | succ m =>
              rw [List.take_succ_cons, decL, if_neg h1, if_neg h2, if_neg h3, hs]
              exact e7 m (by omega)

/-- What is written is read, whatever stands behind it. -/
theorem decL_enc : ∀ (k i d acc : Nat) (r : List UInt8), i + k = 9 → acc < 2 ^ (7 * i) → d < 128 ^ (k + 1) → acc + d * 2 ^ (7 * i) < 18446744073709551616 → (0 < i → 1 ≤ d) →
    decL (encF k d ++ r) i (acc : Int) = (((acc + d * 2 ^ (7 * i) : Nat) : Int), i + (encF k d).length, 0)
  | k, i, d, acc, r, hk, ha, hd, hv, hpos => by
    by_cases h : d < 128
    · rw [encF_lt h]
      have hb : (UInt8.ofNat d).toNat = d := by simp; omega
      have h1 : ¬ (9 ≤ i ∧ 1 < (UInt8.ofNat d).toNat) := by
        rw [hb]
        rintro ⟨h9, h1⟩
        obtain rfl : i = 9 := by omega
        have h3 : (2 : Nat) ^ (7 * 9) = 9223372036854775808 := by decide
        rw [h3] at hv
        omega
      have hs := stp_add (b := UInt8.ofNat d) ha (pow_le9 (by omega)) (digit_ok (by omega) h1)
      simp only [List.cons_append, List.nil_append]
      rw [decL, if_neg h1, if_neg (by rw [hb]; omega), if_pos (by rw [hb]; exact h), hs, hb, Nat.mod_eq_of_lt h]
      rfl
    · cases k with
      | zero => simp at hd; omega
      | succ k =>
        rw [encF_ge h]
        have hb : (UInt8.ofNat (d % 128 + 128)).toNat = d % 128 + 128 := by simp; omega
        have h1 : ¬ (9 ≤ i ∧ 1 < (UInt8.ofNat (d % 128 + 128)).toNat) := by omega
        have hs := stp_add (b := UInt8.ofNat (d % 128 + 128)) ha (pow_le9 (by omega)) (digit_ok (by omega) h1)
        rw [hb] at hs
        have hm : (d % 128 + 128) % 128 = d % 128 := by omega
        rw [hm] at hs
        have hp : 2 ^ (7 * (i + 1)) = 128 * 2 ^ (7 * i) := by rw [Nat.mul_succ, Nat.pow_add]; omega
        have hsum : acc + d % 128 * 2 ^ (7 * i) + d / 128 * 2 ^ (7 * (i + 1)) = acc + d * 2 ^ (7 * i) := by
          have e : d = d % 128 + 128 * (d / 128) := by omega
          conv => rhs; rw [e]
          rw [hp, Nat.add_mul, Nat.add_assoc]
          congr 2
          rw [Nat.mul_left_comm, Nat.mul_assoc]
        simp only [List.cons_append]
        rw [decL, if_neg h1, if_neg (by rw [hb]; omega), if_neg (by rw [hb]; omega), hs,
          decL_enc k (i + 1) (d / 128) _ r (by omega) (next_small ha (Nat.mod_lt _ (by omega))) (div_small hd) (by rw [hsum]; exact hv) (by omega), hsum]
        simp only [List.length_cons]
        congr 2
        omega
theorem dec_enc {v : Nat} (h : v < 18446744073709551616) (r : List UInt8) : dec (enc v ++ r) = ((v : Int), (enc v).length, 0) := by
  have := decL_enc 9 0 v 0 r rfl (by decide) (start_enc h) (by simpa using h) (by omega)
  simpa [dec, enc] using this
theorem dec_ok {l : List UInt8} (h : (dec l).2.2 = 0) :
    ∃ v n : Nat, dec l = ((v : Int), n, 0) ∧ enc v = l.take n ∧ 1 ≤ n ∧ n ≤ 10 ∧ n ≤ l.length ∧ ∀ m, m < n → dec (l.take m) = (0, 0, 11) := by
  obtain ⟨d, n, e1, e2, e3, e4, e5, _, e7⟩ := decL_ok l 0 0 (by omega) (by decide) h
  exact ⟨d, n, by simpa [dec] using e1, e2, by omega, e4, by omega, fun m hm => e7 m (by omega)⟩
theorem dec_err {l : List UInt8} (h : (dec l).2.2 ≠ 0) : (dec l).1 = 0 ∧ (dec l).2.1 = 0 := decL_err l 0 0 h
end Go.Proofs.YtfpmcomigolacaaGreatDoor.code
set_option linter.unusedSimpArgs false
set_option linter.unusedVariables false
namespace Go.Proofs.YtfpmcomigolacaaGreatDoor.wal
open Go.Proofs.YtfpmcomigolacaaGreatDoor.enc Go.Proofs.YtfpmcomigolacaaGreatDoor.code Go.Proofs.YtfpmcomigolacaaGreatDoor.crcm Go.Proofs.YtfpmcomigolacaaGreatDoor.words
def frameL (s : Bs) : Bs := enc s.length ++ sealL s
/-- The frame at the front: its text, how many bytes it has, whether there is one. -/
def unfV (s : Bs) : Bs × Nat × Bool :=
  if (rInt s 0 4096).2.2 ≠ 0 ∨ ((s.length - (rInt s 0 4096).2.1 : Nat) : Int) < (rInt s 0 4096).1 + 4 then ([], 0, false)
  else if isSeal ((s.drop (rInt s 0 4096).2.1).take ((rInt s 0 4096).1.toNat + 4)) = true then (openT ((s.drop (rInt s 0 4096).2.1).take ((rInt s 0 4096).1.toNat + 4)), (rInt s 0 4096).2.1 + 4 + (rInt s 0 4096).1.toNat, true) else ([], 0, false)
theorem frame_len (s : Bs) : (frameL s).length = (enc s.length).length + s.length + 4 := by
  unfold frameL
  rw [List.length_append, sealL_length]
  omega
theorem unf_frame {s : Bs} (h : s.length ≤ 4096) (r : Bs) : unfV (frameL s ++ r) = (s, (frameL s).length, true) := by
  have e1 : rInt (frameL s ++ r) 0 4096 = ((s.length : Int), (enc s.length).length, 0) := by
    unfold rInt rNum frameL
    rw [if_pos rfl, List.append_assoc, dec_enc (by omega)]
    dsimp only
    rw [if_pos rfl, if_neg (by omega)]
  unfold unfV
  rw [e1]
  dsimp only
  have hl := frame_len s
  have hd : (frameL s ++ r).drop (enc s.length).length = sealL s ++ r := by
    unfold frameL
    rw [List.append_assoc, List.drop_left]
  rw [if_neg (by
    rintro (h' | h')
    · exact h' rfl
    · rw [List.length_append, hl] at h'
      omega)]
  rw [hd, Int.toNat_natCast]
  have ht : (sealL s ++ r).take (s.length + 4) = sealL s := by
    rw [← sealL_length s, List.take_left]
  rw [ht, isSeal_seal, if_pos rfl, openT_seal, hl]
  congr 2
  omega
theorem unf_pos {s : Bs} (h : (unfV s).2.2 = true) : 1 ≤ (unfV s).2.1 ∧ (unfV s).2.1 ≤ s.length := by
  obtain ⟨q0, q1, q2⟩ := rInt_bd s 0 4096
  unfold unfV at h ⊢
  split at h
  · cases h
  · rename_i a
    split at h
    · rename_i b
      rw [if_neg a, if_pos b]
      dsimp only
      have : ¬ ((s.length - (rInt s 0 4096).2.1 : Nat) : Int) < (rInt s 0 4096).1 + 4 := fun e => a (.inr e)
      omega
    · cases h
/-- The texts of the frames at the front, and how many bytes they have. -/
def frsF : Nat → Bs → List Bs × Nat
  | 0, _ => ([], 0)
  | f + 1, s => if (unfV s).2.2 = true then ((unfV s).1 :: (frsF f (s.drop (unfV s).2.1)).1, (unfV s).2.1 + (frsF f (s.drop (unfV s).2.1)).2) else ([], 0)
def frsV (s : Bs) : List Bs × Nat := frsF (s.length + 1) s
theorem frs_more : ∀ (f k : Nat) (s : Bs), s.length < f → s.length < k → frsF f s = frsF k s
  | 0, _, _, h, _ => by omega
  | _ + 1, 0, _, _, h => by omega
  | f + 1, k + 1, s, h1, h2 => by
    unfold frsF
    by_cases e : (unfV s).2.2 = true
    · have hp := unf_pos e
      rw [if_pos e, if_pos e, frs_more f k (s.drop (unfV s).2.1) (by simp; omega) (by simp; omega)]
    · rw [if_neg e, if_neg e]
theorem frs_step {s r : Bs} (h : s.length ≤ 4096) : frsV (frameL s ++ r) = (s :: (frsV r).1, (frameL s).length + (frsV r).2) := by
  have hu := unf_frame h r
  have hl := frame_len s
  unfold frsV
  rw [frsF, hu]
  dsimp only
  rw [if_pos rfl, List.drop_left, frs_more _ (r.length + 1) r (by rw [List.length_append]; omega) (by omega)]
/-- Frames behind each other, and what is none behind them. -/
theorem frs_all : ∀ (L : List Bs) (t : Bs), (∀ s ∈ L, s.length ≤ 4096) → (unfV t).2.2 = false → frsV ((L.map frameL).flatten ++ t) = (L, ((L.map frameL).flatten).length)
  | [], t, _, h => by
    unfold frsV
    simp only [List.map_nil, List.flatten_nil, List.nil_append]
    rw [frsF, h, if_neg (by simp)]
    rfl
  | s :: L, t, hL, h => by
    simp only [List.map_cons, List.flatten_cons, List.append_assoc]
    rw [frs_step (hL s (by simp)), frs_all L t (fun x hx => hL x (by simp [hx])) h]
    simp
theorem unf_nil : (unfV []).2.2 = false := by decide
theorem frs_whole (L : List Bs) (hL : ∀ s ∈ L, s.length ≤ 4096) : frsV (L.map frameL).flatten = (L, ((L.map frameL).flatten).length) := by
  have := frs_all L [] hL unf_nil
  simpa using this

/-! ### Beginnings -/
theorem rInt_ok {s : Bs} {n : Int} {u : Nat} (h : rInt s 0 4096 = (n, u, 0)) : dec s = (n, u, 0) ∧ n ≤ 4096 := by
  unfold rInt rNum at h
  rw [if_pos rfl] at h
  split at h
  · split at h
    · injection h with h1 h2
      injection h2 with h3 h4
      cases h4
    · rename_i h1 h2
      rw [h] at h2
      exact ⟨h, by dsimp only at h2; omega⟩
  · rename_i h1
    injection h with h3 h4
    injection h4 with h5 h6
    exact absurd h6 h1
theorem rInt_of {s : Bs} {n : Int} {u : Nat} (h : dec s = (n, u, 0)) (hn : n ≤ 4096) : rInt s 0 4096 = (n, u, 0) := by
  unfold rInt rNum
  rw [if_pos rfl, h]
  dsimp only
  rw [if_pos rfl, if_neg (by omega)]
/-- What an intact frame at the front is. -/
theorem unf_iff {s t : Bs} {k : Nat} : unfV s = (t, k, true) ↔ ∃ n u : Nat, rInt s 0 4096 = ((n : Int), u, 0) ∧ u + n + 4 ≤ s.length ∧ isSeal ((s.drop u).take (n + 4)) = true ∧ t = openT ((s.drop u).take (n + 4)) ∧ k = u + 4 + n := by
  obtain ⟨q0, q1, q2⟩ := rInt_bd s 0 4096
  unfold unfV
  generalize hr : rInt s 0 4096 = r at q0 q1 q2
  obtain ⟨n, u, e⟩ := r
  dsimp only at q0 q1 q2 ⊢
  constructor
  · intro h
    split at h
    · cases h
    · rename_i h1
      split at h
      · rename_i h2
        injection h with h3 h4
        injection h4 with h5 h6
        have he : e = 0 := Classical.byContradiction fun hne => h1 (.inl hne)
        refine ⟨n.toNat, u, by rw [he, Int.toNat_of_nonneg q0], ?_, h2, h3.symm, by omega⟩
        have : ¬ ((s.length - u : Nat) : Int) < n + 4 := fun x => h1 (.inr x)
        omega
      · cases h
  · rintro ⟨n', u', h1, h2, h3, h4, h5⟩
    injection h1 with h6 h7
    injection h7 with h8 h9
    subst h6 h8 h9
    rw [if_neg (by
      rintro (h | h)
      · exact h rfl
      · omega), Int.toNat_natCast, if_pos h3, h4, h5]
theorem unf_false {s : Bs} (h : ∀ t k, unfV s ≠ (t, k, true)) : (unfV s).2.2 = false := by
  generalize hu : unfV s = x at h
  obtain ⟨t, k, b⟩ := x
  cases b
  · rfl
  · exact absurd rfl (h t k)
/-- An intact frame of a beginning is one of the whole. -/
theorem unf_up {s t : Bs} {k m : Nat} (h : unfV (s.take m) = (t, k, true)) : unfV s = (t, k, true) ∧ k ≤ m := by
  obtain ⟨n, u, h1, h2, h3, h4, h5⟩ := unf_iff.1 h
  obtain ⟨d1, d2⟩ := rInt_ok h1
  obtain ⟨v, u', e1, e2, e3, e4, e5, -⟩ := dec_ok (by rw [d1])
  rw [d1] at e1
  injection e1 with e6 e7
  injection e7 with e8
  subst e8
  have hl : (s.take m).length ≤ m := by simp; omega
  have hl2 : (s.take m).length ≤ s.length := by simp; omega
  have hv : n = v := by omega
  subst hv
  have e9 : enc n = s.take u := by
    rw [e2, List.take_take]
    congr 1
    omega
  have hd : dec s = ((n : Int), u, 0) := by
    have := dec_enc (v := n) (by omega) (s.drop u)
    rw [e9, List.take_append_drop] at this
    rw [this]
    congr 2
    simp
    omega
  have hs : ((s.take m).drop u).take (n + 4) = (s.drop u).take (n + 4) := by
    rw [List.drop_take, List.take_take]
    congr 1
    omega
  rw [hs] at h3 h4
  exact ⟨unf_iff.2 ⟨n, u, rInt_of hd d2, by omega, h3, h4, h5⟩, by omega⟩
/-- There is no intact frame at the front. -/
def Tail (s : Bs) : Prop := (unfV s).2.2 = false
theorem tail_nil : Tail [] := unf_nil
theorem tail_take {s : Bs} (h : Tail s) (m : Nat) : Tail (s.take m) :=
  unf_false fun t k e => by
    have := (unf_up e).1
    unfold Tail at h
    rw [this] at h
    cases h
theorem tail_part {s : Bs} (hs : s.length ≤ 4096) (r : Bs) {m : Nat} (hm : m < (frameL s).length) : Tail ((frameL s ++ r).take m) :=
  unf_false fun t k e => by
    obtain ⟨h1, h2⟩ := unf_up e
    rw [unf_frame hs] at h1
    injection h1 with h3 h4
    injection h4 with h5
    omega
/-- The bytes of a file: frames, and what is torn behind them. -/
def fileB (T : List Bs) (tl : Bs) : Bs := (T.map frameL).flatten ++ tl
def Short (T : List Bs) : Prop := ∀ s ∈ T, s.length ≤ 4096
theorem file_frs {T : List Bs} {tl : Bs} (hT : Short T) (h : Tail tl) : frsV (fileB T tl) = (T, ((T.map frameL).flatten).length) := frs_all T tl hT h
theorem file_nil (tl : Bs) : fileB [] tl = tl := rfl
theorem file_cons (s : Bs) (T : List Bs) (tl : Bs) : fileB (s :: T) tl = frameL s ++ fileB T tl := by simp [fileB]
theorem file_snoc (s : Bs) (T : List Bs) : fileB (T ++ [s]) [] = fileB T [] ++ frameL s := by simp [fileB]
theorem frame_pos (s : Bs) : 5 ≤ (frameL s).length := by rw [frame_len]; have := pos_enc s.length; omega
/-- So many frames stand wholly in a beginning. -/
def inN : List Bs → Nat → Nat
  | [], _ => 0
  | s :: T, m => if (frameL s).length ≤ m then inN T (m - (frameL s).length) + 1 else 0
theorem inN_le : ∀ (T : List Bs) (m : Nat), inN T m ≤ T.length
  | [], _ => Nat.le_refl _
  | s :: T, m => by
    unfold inN
    split
    · have := inN_le T (m - (frameL s).length)
      simp
      exact this
    · simp
theorem inN_ge : ∀ (T : List Bs) (m i : Nat), i ≤ T.length → (fileB (T.take i) []).length ≤ m → i ≤ inN T m
  | [], m, i, h, _ => by simpa [inN] using h
  | s :: T, m, 0, _, _ => Nat.zero_le _
  | s :: T, m, i + 1, h, hm => by
    rw [List.take_succ_cons, file_cons, List.length_append] at hm
    unfold inN
    rw [if_pos (by omega)]
    have := inN_ge T (m - (frameL s).length) i (by simpa using h) (by omega)
    omega
theorem file_take : ∀ (T : List Bs) (tl : Bs) (m : Nat), Short T → Tail tl → ∃ tl', (fileB T tl).take m = fileB (T.take (inN T m)) tl' ∧ Tail tl'
  | [], tl, m, _, h => ⟨tl.take m, rfl, tail_take h m⟩
  | s :: T, tl, m, hT, h => by
    unfold inN
    rw [file_cons]
    split
    · rename_i hm
      obtain ⟨tl', h1, h2⟩ := file_take T tl (m - (frameL s).length) (fun x hx => hT x (by simp [hx])) h
      refine ⟨tl', ?_, h2⟩
      rw [List.take_append, List.take_of_length_le hm, h1, List.take_succ_cons, file_cons]
    · rename_i hm
      exact ⟨_, rfl, tail_part (hT s (by simp)) _ (by omega)⟩
theorem file_all {T : List Bs} {tl : Bs} {m : Nat} (h : (fileB T tl).length ≤ m) : (fileB T tl).take m = fileB T tl := List.take_of_length_le h
end Go.Proofs.YtfpmcomigolacaaGreatDoor.wal
