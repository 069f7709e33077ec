/-
  Plain: what is read of bytes is what they were written of, and the other way round.
  What is read as a Multi: the pairs, when they are what All may answer; what is written is read.
  multi.isNumber and multi.isAll.
-/
import Derived.Test.YtomekndinopoaaaJDec
import Derived.Test.YtomekndinopoaaaJOs
import Derived.Test.YtomekndinopoaaaJRdB
import Derived.Test.YtomekndinopoaaaJCmpL
import Derived.Test.YtomekndinopoaaaJMuS
import Derived.BigQuiet
namespace Go.Proofs.Ytomekndinopoaaa.code
open Go.Proofs.Ytomekndinopoaaa.enc

theorem stp_add {acc i : Nat} {b : UInt8} (h : acc < 2 ^ (7 * i)) (h2 : 2 ^ (7 * i) ≤ 2 ^ 63) (hb : b.toNat % 128 * 2 ^ (7 * i) < 18446744073709551616) : stp (acc : Int) b i = ((acc + b.toNat % 128 * 2 ^ (7 * i) : Nat) : Int) := by
  unfold stp
  have e : ((b.toNat : Int) % 128 * 2 ^ (7 * i)) = ((b.toNat % 128 * 2 ^ (7 * i) : Nat) : Int) := by
    rw [Int.natCast_mul, Int.natCast_pow]
    rfl
  have h3 : (2 : Nat) ^ 63 = 9223372036854775808 := by decide
  rw [h3] at h2
  rw [e, IntWalk.u64_in _ (by omega), u64_or_nat _ _ (by omega) hb]
  rw [Nat.or_comm, nat_join (7 * i) _ _ (Nat.mul_mod_left _ _) h]
  congr 1
  omega
theorem pow_le9 {i : Nat} (h : i ≤ 9) : 2 ^ (7 * i) ≤ 2 ^ 63 := Nat.pow_le_pow_right (by omega) (by omega)
theorem digit_small {i x : Nat} (h : i ≤ 8) (hx : x < 128) : x * 2 ^ (7 * i) < 18446744073709551616 := by
  have h1 : 2 ^ (7 * i) ≤ 2 ^ 56 := Nat.pow_le_pow_right (by omega) (by omega)
  have h2 : (2 : Nat) ^ 56 = 72057594037927936 := by decide
  have h3 : x * 2 ^ (7 * i) ≤ 127 * 2 ^ 56 := Nat.mul_le_mul (by omega) h1
  omega
theorem digit_ok {i : Nat} {b : UInt8} (hi : i ≤ 9) (hA : ¬ (9 ≤ i ∧ 1 < b.toNat)) : b.toNat % 128 * 2 ^ (7 * i) < 18446744073709551616 := by
  by_cases h9 : i ≤ 8
  · exact digit_small h9 (Nat.mod_lt _ (by omega))
  · obtain rfl : i = 9 := by omega
    have h3 : (2 : Nat) ^ (7 * 9) = 9223372036854775808 := by decide
    rw [h3]
    omega
theorem next_small {i acc x : Nat} (h : acc < 2 ^ (7 * i)) (hx : x < 128) : acc + x * 2 ^ (7 * i) < 2 ^ (7 * (i + 1)) := by
  have h1 : 2 ^ (7 * (i + 1)) = 128 * 2 ^ (7 * i) := by rw [Nat.mul_succ, Nat.pow_add]; omega
  have h2 : x * 2 ^ (7 * i) ≤ 127 * 2 ^ (7 * i) := Nat.mul_le_mul_right _ (by omega)
  omega

/-- An error comes with nothing. -/
theorem decL_err : ∀ (l : List UInt8) (i : Nat) (acc : Int), (decL l i acc).2.2 ≠ 0 → (decL l i acc).1 = 0 ∧ (decL l i acc).2.1 = 0
  | [], _, _, _ => by simp [decL]
  | b :: t, i, acc, h => by
    rw [decL] at h ⊢
    by_cases h1 : 9 ≤ i ∧ 1 < b.toNat
    · rw [if_pos h1]; simp
    · rw [if_neg h1] at h ⊢
      by_cases h2 : 0 < i ∧ b.toNat < 1
      · rw [if_pos h2]; simp
      · rw [if_neg h2] at h ⊢
        by_cases h3 : b.toNat < 128
        · rw [if_pos h3] at h; simp at h
        · rw [if_neg h3] at h ⊢
          exact decL_err t (i + 1) _ h

theorem byte_of (b : UInt8) {d' : Nat} (h : ¬ b.toNat < 128) : UInt8.ofNat ((b.toNat % 128 + 128 * d') % 128 + 128) = b := by
  have hb := b.toNat_lt
  apply UInt8.toNat_inj.1
  simp
  omega

/-- What is read is what was written. -/
theorem decL_ok : ∀ (l : List UInt8) (i acc : Nat), i ≤ 9 → acc < 2 ^ (7 * i) → (decL l i (acc : Int)).2.2 = 0 →
    ∃ d n : Nat, decL l i (acc : Int) = (((acc + d * 2 ^ (7 * i) : Nat) : Int), n, 0) ∧ encF (9 - i) d = l.take (n - i) ∧ i + 1 ≤ n ∧ n ≤ 10 ∧ n - i ≤ l.length ∧ (0 < i → 1 ≤ d) ∧
      ∀ m, m < n - i → decL (l.take m) i (acc : Int) = (0, 0, 11)
  | [], i, acc, _, _, h => by simp [decL] at h
  | b :: t, i, acc, hi, ha, h => by
    rw [decL] at h
    by_cases h1 : 9 ≤ i ∧ 1 < b.toNat
    · rw [if_pos h1] at h; simp at h
    · rw [if_neg h1] at h
      by_cases h2 : 0 < i ∧ b.toNat < 1
      · rw [if_pos h2] at h; simp at h
      · rw [if_neg h2] at h
        have hs := stp_add ha (pow_le9 hi) (digit_ok hi h1)
        by_cases h3 : b.toNat < 128
        · refine ⟨b.toNat, i + 1, ?_, ?_, by omega, by omega, by simp, by omega, ?_⟩
          · rw [decL, if_neg h1, if_neg h2, if_pos h3, hs]
            rw [Nat.mod_eq_of_lt h3]
          · rw [encF_lt h3]
            simp
          · intro m hm
            obtain rfl : m = 0 := by omega
            rfl
        · rw [if_neg h3, hs] at h
          have h9 : i ≤ 8 := by omega
          obtain ⟨d, n, e1, e2, e3, e4, e5, e6, e7⟩ := decL_ok t (i + 1) _ (by omega) (next_small ha (Nat.mod_lt _ (by omega))) h
          have hd := e6 (by omega)
          have hb := b.toNat_lt
          refine ⟨b.toNat % 128 + 128 * d, n, ?_, ?_, by omega, e4, by simp; omega, by omega, ?_⟩
          · rw [decL, if_neg h1, if_neg h2, if_neg h3, hs, e1]
            have hp : 2 ^ (7 * (i + 1)) = 128 * 2 ^ (7 * i) := by rw [Nat.mul_succ, Nat.pow_add]; omega
            have : acc + b.toNat % 128 * 2 ^ (7 * i) + d * 2 ^ (7 * (i + 1)) = acc + (b.toNat % 128 + 128 * d) * 2 ^ (7 * i) := by
              rw [hp, Nat.add_mul, Nat.add_assoc]
              congr 2
              rw [Nat.mul_left_comm, Nat.mul_assoc]
            rw [this]
          · obtain ⟨k, hk⟩ : ∃ k, 9 - i = k + 1 := ⟨8 - i, by omega⟩
            rw [hk, encF_ge (by omega), byte_of b h3]
            have hq : (b.toNat % 128 + 128 * d) / 128 = d := by omega
            have hk' : k = 9 - (i + 1) := by omega
            rw [hq, hk', e2]
            have hn : n - i = (n - (i + 1)) + 1 := by omega
            rw [hn, List.take_succ_cons]
          · intro m hm
            cases m with
            | zero => rfl
            | succ m =>
              rw [List.take_succ_cons, decL, if_neg h1, if_neg h2, if_neg h3, hs]
              exact e7 m (by omega)

/-- What is written is read, whatever stands behind it. -/
theorem decL_enc : ∀ (k i d acc : Nat) (r : List UInt8), i + k = 9 → acc < 2 ^ (7 * i) → d < 128 ^ (k + 1) → acc + d * 2 ^ (7 * i) < 18446744073709551616 → (0 < i → 1 ≤ d) →
    decL (encF k d ++ r) i (acc : Int) = (((acc + d * 2 ^ (7 * i) : Nat) : Int), i + (encF k d).length, 0)
  | k, i, d, acc, r, hk, ha, hd, hv, hpos => by
    by_cases h : d < 128
    · rw [encF_lt h]
      have hb : (UInt8.ofNat d).toNat = d := by simp; omega
      have h1 : ¬ (9 ≤ i ∧ 1 < (UInt8.ofNat d).toNat) := by
        rw [hb]
        rintro ⟨h9, h1⟩
        obtain rfl : i = 9 := by omega
        have h3 : (2 : Nat) ^ (7 * 9) = 9223372036854775808 := by decide
        rw [h3] at hv
        omega
      have hs := stp_add (b := UInt8.ofNat d) ha (pow_le9 (by omega)) (digit_ok (by omega) h1)
      simp only [List.cons_append, List.nil_append]
      rw [decL, if_neg h1, if_neg (by rw [hb]; omega), if_pos (by rw [hb]; exact h), hs, hb, Nat.mod_eq_of_lt h]
      rfl
    · cases k with
      | zero => simp at hd; omega
      | succ k =>
        rw [encF_ge h]
        have hb : (UInt8.ofNat (d % 128 + 128)).toNat = d % 128 + 128 := by simp; omega
        have h1 : ¬ (9 ≤ i ∧ 1 < (UInt8.ofNat (d % 128 + 128)).toNat) := by omega
        have hs := stp_add (b := UInt8.ofNat (d % 128 + 128)) ha (pow_le9 (by omega)) (digit_ok (by omega) h1)
        rw [hb] at hs
        have hm : (d % 128 + 128) % 128 = d % 128 := by omega
        rw [hm] at hs
        have hp : 2 ^ (7 * (i + 1)) = 128 * 2 ^ (7 * i) := by rw [Nat.mul_succ, Nat.pow_add]; omega
        have hsum : acc + d % 128 * 2 ^ (7 * i) + d / 128 * 2 ^ (7 * (i + 1)) = acc + d * 2 ^ (7 * i) := by
          have e : d = d % 128 + 128 * (d / 128) := by omega
          conv => rhs; rw [e]
          rw [hp, Nat.add_mul, Nat.add_assoc]
          congr 2
          rw [Nat.mul_left_comm, Nat.mul_assoc]
        simp only [List.cons_append]
        rw [decL, if_neg h1, if_neg (by rw [hb]; omega), if_neg (by rw [hb]; omega), hs,
          decL_enc k (i + 1) (d / 128) _ r (by omega) (next_small ha (Nat.mod_lt _ (by omega))) (div_small hd) (by rw [hsum]; exact hv) (by omega), hsum]
        simp only [List.length_cons]
        congr 2
        omega
theorem dec_enc {v : Nat} (h : v < 18446744073709551616) (r : List UInt8) : dec (enc v ++ r) = ((v : Int), (enc v).length, 0) := by
  have := decL_enc 9 0 v 0 r rfl (by decide) (start_enc h) (by simpa using h) (by omega)
  simpa [dec, enc] using this
theorem dec_ok {l : List UInt8} (h : (dec l).2.2 = 0) :
    ∃ v n : Nat, dec l = ((v : Int), n, 0) ∧ enc v = l.take n ∧ 1 ≤ n ∧ n ≤ 10 ∧ n ≤ l.length ∧ ∀ m, m < n → dec (l.take m) = (0, 0, 11) := by
  obtain ⟨d, n, e1, e2, e3, e4, e5, _, e7⟩ := decL_ok l 0 0 (by omega) (by decide) h
  exact ⟨d, n, by simpa [dec] using e1, e2, by omega, e4, by omega, fun m hm => e7 m (by omega)⟩
theorem dec_err {l : List UInt8} (h : (dec l).2.2 ≠ 0) : (dec l).1 = 0 ∧ (dec l).2.1 = 0 := decL_err l 0 0 h
end Go.Proofs.Ytomekndinopoaaa.code
namespace Go.Proofs.Ytomekndinopoaaa.multi
open Go.ChangeShapes Go.WideShapes Go.ChangeAt Go.RowKit Go.Maps Go.WideMaps
open Go.Proofs.Ytomekndinopoaaa.tm Go.Proofs.Ytomekndinopoaaa.opened Go.Proofs.Ytomekndinopoaaa.block Go.Proofs.Ytomekndinopoaaa.stamp Go.Proofs.Ytomekndinopoaaa.chain Go.Proofs.Ytomekndinopoaaa.code Go.Proofs.Ytomekndinopoaaa.enc

abbrev Rq : Type := List UInt8 × Int
theorem stt_in (q : Rq) (k : Nat) : (stt q k).1.In := by
  obtain ⟨a0, a1, -⟩ := nx_bd q (m := 3) (by omega)
  obtain ⟨b0, b1, -⟩ := nx_bd (nx q 3).2 (m := 1048576) (by omega)
  obtain ⟨c0, c1, -⟩ := nx_bd (st0 q).2 (m := 1048576) (by omega)
  obtain ⟨d0, d1, -⟩ := nx_bd (st1 q).2 (m := 1048576) (by omega)
  obtain ⟨e0, e1, -⟩ := nx_bd (st2 q).2 (m := 1048576) (by omega)
  match k with
  | 0 => constructor <;> simp only [stt, st0] <;> omega
  | 1 => constructor <;> simp only [stt, st1, st0] at * <;> omega
  | 2 => constructor <;> simp only [stt, st2, st1, st0] at * <;> omega
  | _ + 3 => constructor <;> simp only [stt, st3, st2, st1, st0] at * <;> omega
theorem rdT_in (q : Rq) : (rdT q).In := by
  unfold rdT
  split
  · exact stt_in q _
  · constructor <;> decide
theorem chk_of {t : Tm} (h0 : 0 ≤ t.d) (h3 : t.d ≤ 3) (he : t.e ≤ 1048576) (ha : t.a ≤ 1048576) (hb : t.b ≤ 1048576) (hc : t.c ≤ 1048576) (za : t.d ≤ 0 → t.a = 0) (zb : t.d ≤ 1 → t.b = 0) (zc : t.d ≤ 2 → t.c = 0) : chk t = 0 := by
  unfold chk
  rw [if_neg (by omega), if_neg (by omega), if_neg (by omega)]
theorem stt_chk (q : Rq) : chk (stt q (nx q 3).1.toNat).1 = 0 := by
  obtain ⟨a0, a1, -⟩ := nx_bd q (m := 3) (by omega)
  obtain ⟨b0, b1, -⟩ := nx_bd (nx q 3).2 (m := 1048576) (by omega)
  obtain ⟨c0, c1, -⟩ := nx_bd (st0 q).2 (m := 1048576) (by omega)
  obtain ⟨d0, d1, -⟩ := nx_bd (st1 q).2 (m := 1048576) (by omega)
  obtain ⟨e0, e1, -⟩ := nx_bd (st2 q).2 (m := 1048576) (by omega)
  have hk : (nx q 3).1 = 0 ∨ (nx q 3).1 = 1 ∨ (nx q 3).1 = 2 ∨ (nx q 3).1 = 3 := by omega
  rcases hk with hk | hk | hk | hk <;> rw [hk] <;> refine chk_of ?_ ?_ ?_ ?_ ?_ ?_ ?_ ?_ ?_ <;> simp only [stt, st3, st2, st1, st0, Int.toNat_zero, Int.toNat_one, show (2 : Int).toNat = 2 from rfl, show (3 : Int).toNat = 3 from rfl] at * <;> first | omega | (intro; omega) | simp_all
theorem rdT_chk (q : Rq) : chk (rdT q) = 0 := by
  unfold rdT rdS
  split
  · exact stt_chk q
  · decide
/-- A number with a sign that is read. -/
def sg (q : Rq) : Int × Rq := (unzig (rNum q.1 q.2).1, q.1.drop (rNum q.1 q.2).2.1, (rNum q.1 q.2).2.2)
theorem sg_bd (q : Rq) : -9223372036854775808 ≤ (sg q).1 ∧ (sg q).1 ≤ 9223372036854775807 ∧ (sg q).2.1.length ≤ q.1.length := by
  have := rNum_bd q.1 q.2
  unfold sg unzig
  simp only [List.length_drop]
  refine ⟨?_, ?_, by omega⟩ <;> split <;> omega
/-- So many pairs read. -/
def rdP (q : Rq) : Nat → List TN × Rq
  | 0 => ([], q)
  | n + 1 => ((rdP q n).1 ++ [(rdT (rdP q n).2, (sg (rdS (rdP q n).2).2).1)], (sg (rdS (rdP q n).2).2).2)
theorem rdP_len (q : Rq) : ∀ n, (rdP q n).1.length = n
  | 0 => rfl
  | n + 1 => by simp [rdP, rdP_len q n]
theorem rdP_left (q : Rq) : ∀ n, (rdP q n).2.1.length ≤ q.1.length
  | 0 => Nat.le_refl _
  | n + 1 => Nat.le_trans (sg_bd _).2.2 (Nat.le_trans (stt_len _ _) (rdP_left q n))
theorem rdP_in (q : Rq) : ∀ n, ∀ p ∈ (rdP q n).1, p.1.In ∧ chk p.1 = 0 ∧ -9223372036854775808 ≤ p.2 ∧ p.2 ≤ 9223372036854775807
  | 0 => by intro p h; simp [rdP] at h
  | n + 1 => by
    intro p h
    rcases List.mem_append.1 h with h | h
    · exact rdP_in q n p h
    · rw [List.mem_singleton] at h
      subst h
      exact ⟨rdT_in _, rdT_chk _, (sg_bd _).1, (sg_bd _).2.1⟩
/-! ### What All may answer -/
def okP (d : Int) (p : TN) : Bool := decide (p.1.d = d) && decide (p.2 ≠ 0) && decide (-1099511627776 ≤ p.2) && decide (p.2 ≤ 1099511627776)
def stepP (L : List TN) (k : Nat) (p : TN) : Bool := match k with
  | 0 => true
  | j + 1 => match L[j]? with
    | none => true
    | some r => decide (cmpT r.1 p.1 < 0)
def allB (d : Int) (L : List TN) : Nat → Bool
  | 0 => true
  | k + 1 => allB d L k && (match L[k]? with
    | none => true
    | some p => okP d p && stepP L k p)
theorem allB_next {d : Int} {L : List TN} {k : Nat} {p : TN} (h : L[k]? = some p) : allB d L (k + 1) = (allB d L k && (okP d p && stepP L k p)) := by
  rw [allB, h]
theorem allB_false {d : Int} {L : List TN} {k : Nat} (h : allB d L k = false) : ∀ n, k ≤ n → allB d L n = false
  | 0, hn => by
    obtain rfl : k = 0 := by omega
    exact h
  | n + 1, hn => by
    by_cases e : k = n + 1
    · rw [← e]; exact h
    · rw [allB, allB_false h n (by omega), Bool.false_and]
theorem allB_true {d : Int} {L : List TN} : ∀ {n : Nat}, allB d L n = true → ∀ k p, k < n → L[k]? = some p → okP d p = true ∧ stepP L k p = true
  | 0, _, k, p, hk, _ => by omega
  | n + 1, h, k, p, hk, hp => by
    rw [allB, Bool.and_eq_true] at h
    by_cases e : k = n
    · subst e
      rw [hp, Bool.and_eq_true] at h
      exact h.2
    · exact allB_true h.1 k p (by omega) hp
theorem all_good {d : Int} {L : List TN} (hi : ∀ p ∈ L, p.1.In ∧ chk p.1 = 0) (h : allB d L L.length = true) : GoodM d L := by
  have hk := allB_true h
  have hm : ∀ p ∈ L, okP d p = true := fun p hp => by
    obtain ⟨i, hi⟩ := List.getElem?_of_mem hp
    exact (hk i p (List.getElem?_eq_some_iff.1 hi).1 hi).1
  refine ⟨fun p hp => ?_, fun p hp => ?_, ?_⟩
  · have := hm p hp
    simp [okP] at this
    exact ⟨(hi p hp).1, (hi p hp).2, this.1.1.1⟩
  · have := hm p hp
    simp [okP] at this
    exact ⟨this.1.1.2, this.1.2, this.2⟩
  · rw [List.pairwise_iff_getElem]
    intro i j hi' hj hij
    have key : ∀ m, i + 1 + m < L.length → numT L[i].1 < (numT (L[i + 1 + m]?.getD P0).1) := by
      intro m
      induction m with
      | zero =>
        intro hlt
        obtain ⟨-, hs⟩ := hk (i + 1) L[i + 1] (by omega) (by simp)
        simp only [stepP, List.getElem?_eq_getElem hi'] at hs
        have hs := of_decide_eq_true hs
        have := (cmpT_num (hi _ (List.getElem_mem hi')).1 (hi _ (List.getElem_mem (show i + 1 < L.length by omega))).1).1 hs
        simpa [hlt] using this
      | succ m ih =>
        intro hlt
        have h0 := ih (by omega)
        obtain ⟨-, hs⟩ := hk (i + 1 + m + 1) L[i + 1 + m + 1] (by omega) (by simp)
        have hlt' : i + 1 + m < L.length := by omega
        simp only [stepP, List.getElem?_eq_getElem hlt'] at hs
        have hs := of_decide_eq_true hs
        have := (cmpT_num (hi _ (List.getElem_mem hlt')).1 (hi _ (List.getElem_mem (show i + 1 + m + 1 < L.length by omega))).1).1 hs
        rw [List.getElem?_eq_getElem hlt'] at h0
        rw [show i + 1 + (m + 1) = i + 1 + m + 1 by omega, List.getElem?_eq_getElem (show i + 1 + m + 1 < L.length by omega)]
        simp only [Option.getD_some] at h0 ⊢
        omega
    have := key (j - (i + 1)) (by omega)
    rw [show i + 1 + (j - (i + 1)) = j by omega, List.getElem?_eq_getElem hj] at this
    exact this
theorem good_all {d : Int} {L : List TN} (G : GoodM d L) : ∀ n, n ≤ L.length → allB d L n = true
  | 0, _ => rfl
  | n + 1, hn => by
    obtain ⟨p, hp, hpm⟩ := pair_lt (show n < L.length by omega)
    rw [allB_next hp, good_all G n (by omega), Bool.true_and, Bool.and_eq_true]
    obtain ⟨ip, kp, dp⟩ := G.key p hpm
    obtain ⟨n0, n1, n2⟩ := G.num p hpm
    refine ⟨by simp [okP, dp, n0, n1, n2], ?_⟩
    cases n with
    | zero => rfl
    | succ j =>
      obtain ⟨r, hr, hrm⟩ := pair_lt (show j < L.length by omega)
      simp only [stepP, hr]
      refine decide_eq_true ((cmpT_num (G.key r hrm).1 ip).2 ?_)
      have := List.pairwise_iff_getElem.1 G.srt j (j + 1) (by omega) (by omega) (by omega)
      rw [(List.getElem?_eq_some_iff.1 hr).2, (List.getElem?_eq_some_iff.1 hp).2] at this
      exact this
/-! ### What Read answers -/
def muD (q : Rq) : Int := (nx q 3).1
def muN (q : Rq) : Nat := (nx (nx q 3).2 4096).1.toNat
def muL (q : Rq) : List TN := (rdP (nx (nx q 3).2 4096).2 (muN q)).1
def muQ (q : Rq) : Rq := (rdP (nx (nx q 3).2 4096).2 (muN q)).2
/-- Is there a Multi? -/
def muB (q : Rq) : Bool := decide ((muQ q).2 = 0) && allB (muD q) (muL q) (muL q).length
/-- The reader behind it. -/
def muR (q : Rq) : Rq := if (muQ q).2 = 0 then (if allB (muD q) (muL q) (muL q).length = true then muQ q else ((muQ q).1, 6)) else muQ q
theorem muN_le (q : Rq) : muN q ≤ 4096 := by
  have := nx_bd (nx q 3).2 (m := 4096) (by omega)
  unfold muN
  omega
theorem muL_len (q : Rq) : (muL q).length = muN q := rdP_len _ _
theorem muD_bd (q : Rq) : 0 ≤ muD q ∧ muD q ≤ 3 := by
  have := nx_bd q (m := 3) (by omega)
  exact ⟨this.1, this.2.1⟩
theorem mu_good {q : Rq} (h : muB q = true) : GoodM (muD q) (muL q) := by
  unfold muB at h
  rw [Bool.and_eq_true] at h
  exact all_good (fun p hp => ⟨(rdP_in _ _ p hp).1, (rdP_in _ _ p hp).2.1⟩) h.2
/-! ### What was written -/
theorem nx_enc {x m : Int} (h0 : 0 ≤ x) (hx : x ≤ m) (hm : m ≤ 1048576) (r : List UInt8) : nx (stamp.encI x ++ r, 0) m = (x, r, 0) := by
  have hd := dec_enc (v := x.toNat) (by omega) r
  have e : ((x.toNat : Nat) : Int) = x := Int.toNat_of_nonneg h0
  rw [e] at hd
  unfold nx rInt rNum stamp.encI
  simp only [if_true, hd]
  rw [if_neg (by omega)]
  simp
theorem rd_wrt {t : Tm} (it : t.In) (h : chk t = 0) (r : List UInt8) : rdT (wrtL t ++ r, 0) = t ∧ (rdS (wrtL t ++ r, 0)).2 = (r, 0) := by
  obtain ⟨d0, d3, he, ha, hb, hc, za, zb, zc⟩ := chk_zero h
  obtain ⟨e0, -, -, -, a0, -, b0, -, c0, -⟩ := it
  have E := fun s => nx_enc e0 he (Int.le_refl _) s
  have A := fun s => nx_enc a0 ha (Int.le_refl _) s
  have B := fun s => nx_enc b0 hb (Int.le_refl _) s
  have C := fun s => nx_enc c0 hc (Int.le_refl _) s
  have D := fun s => nx_enc d0 d3 (by omega) s
  obtain ⟨e, d, a, b, c⟩ := t
  dsimp only at *
  have key : rdS (wrtL ⟨e, d, a, b, c⟩ ++ r, 0) = ((⟨e, d, a, b, c⟩ : Tm), r, 0) := by
    have hk : d = 0 ∨ d = 1 ∨ d = 2 ∨ d = 3 := by omega
    rcases hk with rfl | rfl | rfl | rfl
    · rw [za (by omega), zb (by omega), zc (by omega)]
      simp [rdS, wrtL, cnt, encs, stt, st0, E, D, List.append_assoc]
    · rw [zb (by omega), zc (by omega)]
      simp [rdS, wrtL, cnt, encs, stt, st1, st0, E, D, A, List.append_assoc]
    · rw [zc (by omega)]
      simp [rdS, wrtL, cnt, encs, stt, st2, st1, st0, E, D, A, B, List.append_assoc]
    · simp [rdS, wrtL, cnt, encs, stt, st3, st2, st1, st0, E, D, A, B, C, List.append_assoc]
  unfold rdT
  rw [key]
  exact ⟨by simp, rfl⟩
theorem unzig_zig (v : Int) : unzig (zig v : Nat) = v := by
  unfold unzig zig
  by_cases h : 0 ≤ v
  · rw [if_pos h]
    have : (((2 * v).toNat : Nat) : Int) = 2 * v := Int.toNat_of_nonneg (by omega)
    rw [this, if_pos (by omega)]
    omega
  · rw [if_neg h]
    have : (((2 * (-(v + 1)) + 1).toNat : Nat) : Int) = 2 * (-(v + 1)) + 1 := Int.toNat_of_nonneg (by omega)
    rw [this, if_neg (by omega)]
    omega
theorem zig_lt {v : Int} (h0 : -9223372036854775808 ≤ v) (h1 : v ≤ 9223372036854775807) : zig v < 18446744073709551616 := by
  unfold zig
  split <;> omega
theorem sg_enc {v : Int} (h0 : -9223372036854775808 ≤ v) (h1 : v ≤ 9223372036854775807) (r : List UInt8) : sg (enc (zig v) ++ r, 0) = (v, r, 0) := by
  have hd := dec_enc (zig_lt h0 h1) r
  unfold sg rNum
  simp only [if_true, hd]
  rw [unzig_zig]
  simp
theorem drop_pair {M : List TN} {k : Nat} {p : TN} (h : M[k]? = some p) : M.drop k = p :: M.drop (k + 1) := by
  obtain ⟨hk, rfl⟩ := List.getElem?_eq_some_iff.1 h
  exact List.drop_eq_getElem_cons hk
theorem rdP_wrt {d : Int} {M : List TN} (G : GoodM d M) (r : List UInt8) : ∀ k, k ≤ M.length → rdP ((M.flatMap prB).flatten ++ r, 0) k = (M.take k, ((M.drop k).flatMap prB).flatten ++ r, 0)
  | 0, _ => by simp [rdP]
  | k + 1, h => by
    have ih := rdP_wrt G r k (by omega)
    obtain ⟨x, hx, hm⟩ := pair_lt (show k < M.length by omega)
    obtain ⟨ix, cx, -⟩ := G.key x hm
    obtain ⟨-, n0, n1⟩ := G.num x hm
    unfold rdP
    rw [ih, drop_pair hx]
    have e : ((x :: M.drop (k + 1)).flatMap prB).flatten ++ r = wrtL x.1 ++ (enc (zig x.2) ++ (((M.drop (k + 1)).flatMap prB).flatten ++ r)) := by
      simp [prB]
    rw [e]
    obtain ⟨r1, r2⟩ := rd_wrt ix cx (enc (zig x.2) ++ (((M.drop (k + 1)).flatMap prB).flatten ++ r))
    dsimp only
    rw [r1, r2, sg_enc (by omega) (by omega), List.take_add_one, hx]
    rfl
theorem bytM_eq (d : Int) (M : List TN) (r : List UInt8) : bytM d M ++ r = stamp.encI d ++ (stamp.encI (M.length : Int) ++ ((M.flatMap prB).flatten ++ r)) := by
  unfold bytM partsB
  rw [List.take_length]
  simp
theorem mu_wrt {d : Int} {M : List TN} (G : GoodM d M) (h0 : 0 ≤ d) (h3 : d ≤ 3) (hm : M.length ≤ 4096) (r : List UInt8) : muD (bytM d M ++ r, 0) = d ∧ muL (bytM d M ++ r, 0) = M ∧ muB (bytM d M ++ r, 0) = true ∧ muR (bytM d M ++ r, 0) = (r, 0) := by
  have e1 := nx_enc h0 h3 (by omega) (stamp.encI (M.length : Int) ++ ((M.flatMap prB).flatten ++ r))
  have e2 := nx_enc (x := (M.length : Int)) (m := 4096) (by omega) (by omega) (by omega) ((M.flatMap prB).flatten ++ r)
  have hN : muN (bytM d M ++ r, 0) = M.length := by
    unfold muN
    rw [bytM_eq, e1, e2]
    simp
  have hP := rdP_wrt G r M.length (Nat.le_refl _)
  rw [List.take_length, List.drop_length] at hP
  have hL : muL (bytM d M ++ r, 0) = M := by
    unfold muL
    rw [hN, bytM_eq, e1, e2, hP]
  have hQ : muQ (bytM d M ++ r, 0) = (r, 0) := by
    unfold muQ
    rw [hN, bytM_eq, e1, e2, hP]
    simp
  have hD : muD (bytM d M ++ r, 0) = d := by
    unfold muD
    rw [bytM_eq, e1]
  have hA := good_all G M.length (Nat.le_refl _)
  refine ⟨hD, hL, ?_, ?_⟩
  · unfold muB
    rw [hQ, hL, hD, hA]
    rfl
  · unfold muR
    rw [hQ, hL, hD, hA]
    rfl
end Go.Proofs.Ytomekndinopoaaa.multi
namespace Go.Proofs.Ytomekndinopoaaa.multi
open Go.ChangeShapes Go.WideShapes Go.ChangeAt Go.RowKit Go.Maps Go.WideMaps
open Go.Proofs.Ytomekndinopoaaa.region
open Go.Proofs.Ytomekndinopoaaa.tm Go.Proofs.Ytomekndinopoaaa.opened Go.Proofs.Ytomekndinopoaaa.block Go.Proofs.Ytomekndinopoaaa.stamp Go.Proofs.Ytomekndinopoaaa.chain Go.Proofs.Ytomekndinopoaaa.code Go.Proofs.Ytomekndinopoaaa.enc

def numB (n : Int) : Bool := decide (-1099511627776 ≤ n) && decide (n ≤ 1099511627776)
theorem isNumber_any (n : Int) (_h0 : -9223372036854775808 ≤ n) (_h1 : n ≤ 9223372036854775807) (w : World) :
    Calls Try.prog 75 #[.int .i64 n] w fun e w' => e = .returned (.bool (numB n)) ∧ Below w.heap.size w w' := by
  by_cases a : -1099511627776 ≤ n
  · by_cases b : n ≤ 1099511627776
    · rw [show numB n = true by simp [numB, a, b]]
      go_enter Try.func75, Try.ntmps75
      go_wp2
      go_ret
      exact ⟨rfl, Below.refl _ _⟩
    · rw [show numB n = false by simp [numB, a, b]]
      go_enter Try.func75, Try.ntmps75
      go_wp2
      go_ret
      exact ⟨rfl, Below.refl _ _⟩
  · rw [show numB n = false by simp [numB, a]]
    go_enter Try.func75, Try.ntmps75
    go_wp2
    go_ret
    exact ⟨rfl, Below.refl _ _⟩
theorem okP_num {d : Int} {p : TN} : okP d p = (decide (p.1.d = d) && (decide (p.2 ≠ 0) && numB p.2)) := by
  simp [okP, numB, Bool.and_assoc]
set_option maxRecDepth 100000 in
set_option maxHeartbeats 8000000 in
theorem isAll_any (B : Option Addr) (c : Nat) (d : Int) (L : List TN) (iL : ∀ p ∈ L, p.1.In ∧ chk p.1 = 0 ∧ -9223372036854775808 ≤ p.2 ∧ p.2 ≤ 9223372036854775807) (mL : L.length ≤ 4096) (w : World) (h : Lp w B L) :
    Calls Try.prog 54 #[.slice B L.length c, .int .i64 d] w fun e w' => e = .returned (.bool (allB d L L.length)) ∧ Below w.heap.size w w' := by
  have H := Lib.hid h
  have HI := Lib.hid iL
  obtain ⟨z, hz⟩ : ∃ z, allB d L L.length = z := ⟨_, rfl⟩
  have HZ := Lib.hid hz
  rw [hz]
  clear h hz iL
  go_enter Try.func54, Try.ntmps54
  go_wp2_with fail
  go_loopw [9] (fun s wr => ∃ k : Nat, k ≤ L.length ∧ s = .int .i64 k ∧ Hid (allB d L k = true) ∧ Below w.heap.size w wr) (fun s _ => L.length - (intOf s).toNat)
  case atStart => exact ⟨0, Nat.zero_le _, rfl, Lib.hid rfl, Below.refl _ _⟩
  case round =>
    obtain ⟨k, hk, rfl, HK, BB⟩ := hrel
    by_cases hlt : k < L.length
    · obtain ⟨p, hp, hpm⟩ := pair_lt hlt
      have HN := Lib.hid (allB_next (d := d) hp)
      obtain ⟨ip, kp, n0, n1⟩ := HI.out p hpm
      have HF := Lib.hid (fun h => (HZ.out.symm.trans (allB_false (k := k + 1) h L.length (by omega)) : z = false))
      rw [HK.out, Bool.true_and, okP_num] at HN
      obtain ⟨b1, o1, hA, hb1, c0, c1, c2, c3, c4, c5⟩ := (H.out.below BB).at hp
      subst hA
      have HP := Lib.hid hp
      have bb := fresh1 wr (.cells (cP p).toArray 86)
      have BW := Lib.hid (BB.trans (bb.mono BB.size))
      have OX := Whole.fresh wr 86 (cP p).toArray
      clear hp hpm bb
      obtain ⟨t, n⟩ := p
      simp only at c0 c1 c2 c3 c4 c5 n0 n1 ip HN
      have CN := Lib.hid (isNumber_any n n0 n1)
      generalize numB n = nb at HN CN
      go_upto_region 4 with fail
      change Code.wp _ _ _ _ (wr.alloc (.cells (cP (t, n)).toArray 86))
      clear c0 c1 c2 c3 c4 c5 hb1 BB
      generalize wr.alloc (.cells (cP (t, n)).toArray 86) = w5 at BW OX ⊢
      generalize wr.heap.size = gz at OX ⊢
      have HX := Lib.hid OX
      have hgz := OX.inside
      have d0 : w5.cell? ⟨gz, 0, none⟩ = some (.int .u32 t.e) := OX.read 0
      have d1 : w5.cell? ⟨gz, 1, none⟩ = some (.int .i64 t.d) := OX.read 1
      have d5 : w5.cell? ⟨gz, 5, none⟩ = some (.int .i64 n) := OX.read 5
      clear OX
      by_cases e1 : t.d = d
      · subst e1
        by_cases e2 : n = 0
        · have hz2 := HF.out (by rw [HN.out]; simp [e2])
          subst hz2
          have B5 := BW.out
          clear HF HN CN
          subst e2
          have x1 : (t.d != t.d) = false := by simp
          go_wp2_with fail
          go_ret
          exact ⟨rfl, B5⟩
        · have x1 : (t.d != t.d) = false := by simp
          have x2 : (n == 0) = false := by simpa using e2
          cases nb with
          | false =>
            have hz2 := HF.out (by rw [HN.out]; simp)
            subst hz2
            clear HF HN
            go_wp2_with (go_at_call 75; refine (CN.out _).mono ?_; rintro e w6 ⟨rfl, b6⟩; have B6 := BW.out.trans (b6.mono BW.out.size); clear b6)
            go_ret
            exact ⟨rfl, B6⟩
          | true =>
            have HN2 : Hid (allB t.d L (k + 1) = stepP L k (t, n)) := Lib.hid (by rw [HN.out]; simp [e2])
            clear HN
            go_upto_region 6 with (go_at_call 75; refine (CN.out _).mono ?_; rintro e w6 ⟨rfl, b6⟩; have B6 := Lib.hid (BW.out.trans (b6.mono BW.out.size)); have HX6 := Lib.hid (HX.out.below b6 hgz); clear b6)
            clear d0 d1 d5 CN BW HX hgz x1 x2
            cases k with
            | zero =>
              have hN3 : allB t.d L (0 + 1) = true := by rw [HN2.out]; rfl
              have HN3 := Lib.hid hN3
              clear hN3 HN2
              refine region_since w6 (by kernel_rfl) (by kernel_rfl) (Below.refl _ _) ?_
              repeat (go_big_quiet_step (fail))
              refine wpQuiet_nil ?_
              rintro w8 ⟨y, hw⟩
              have B8 := B6.out.trans ((hw ▸ y.2 : Below w6.heap.size w6 w8).mono B6.out.size)
              clear hw y
              go_wp2_with fail
              go_roundw
              case rel => exact ⟨1, by omega, by go_num, HN3, B8⟩
              case measure => simp [intOf]; omega
            | succ j =>
              obtain ⟨r, hr, hrm⟩ := pair_lt (show j < L.length by omega)
              have ir := (HI.out r hrm).1
              obtain ⟨b2, o2, hA2, hb2, f0, f1, f2, f3, f4, f5⟩ := (H.out.below B6.out).at hr
              simp only [Option.some.injEq, Addr.mk.injEq, and_true] at hA2
              obtain ⟨rfl, rfl⟩ := hA2
              have CC := Lib.hid (compare_any r.1 t ir ip)
              have HN3 : Hid (allB t.d L (j + 1 + 1) = decide (cmpT r.1 t < 0)) := Lib.hid (by rw [HN2.out]; simp [stepP, hr])
              obtain ⟨cm, hcm⟩ : ∃ cm, cmpT r.1 t = cm := ⟨_, rfl⟩
              rw [hcm] at CC HN3
              clear hcm HN2 hrm hr ir f5
              have s0 : ∀ y : Since w6, y.1.cell? ⟨b1, o1 + j * 6, none⟩ = some (.int .u32 r.1.e) := fun y => (y.2.cell hb2).trans f0
              have s1 : ∀ y : Since w6, y.1.cell? ⟨b1, o1 + j * 6 + 1, none⟩ = some (.int .i64 r.1.d) := fun y => (y.2.cell hb2).trans f1
              have s2 : ∀ y : Since w6, y.1.cell? ⟨b1, o1 + j * 6 + 2, none⟩ = some (.int .u32 r.1.a) := fun y => (y.2.cell hb2).trans f2
              have s3 : ∀ y : Since w6, y.1.cell? ⟨b1, o1 + j * 6 + 3, none⟩ = some (.int .u32 r.1.b) := fun y => (y.2.cell hb2).trans f3
              have s4 : ∀ y : Since w6, y.1.cell? ⟨b1, o1 + j * 6 + 4, none⟩ = some (.int .u32 r.1.c) := fun y => (y.2.cell hb2).trans f4
              have t0 : ∀ y : Since w6, y.1.cell? ⟨gz, 0, none⟩ = some (.int .u32 t.e) := fun y => (HX6.out.below y.2 HX6.out.inside).read 0
              have t1 : ∀ y : Since w6, y.1.cell? ⟨gz, 1, none⟩ = some (.int .i64 t.d) := fun y => (HX6.out.below y.2 HX6.out.inside).read 1
              have t2 : ∀ y : Since w6, y.1.cell? ⟨gz, 2, none⟩ = some (.int .u32 t.a) := fun y => (HX6.out.below y.2 HX6.out.inside).read 2
              have t3 : ∀ y : Since w6, y.1.cell? ⟨gz, 3, none⟩ = some (.int .u32 t.b) := fun y => (HX6.out.below y.2 HX6.out.inside).read 3
              have t4 : ∀ y : Since w6, y.1.cell? ⟨gz, 4, none⟩ = some (.int .u32 t.c) := fun y => (HX6.out.below y.2 HX6.out.inside).read 4
              clear f0 f1 f2 f3 f4 hb2
              by_cases hc : cm < 0
              · have HN4 : Hid (allB t.d L (j + 1 + 1) = true) := Lib.hid (by rw [HN3.out]; simpa using hc)
                clear HN3 HF
                refine region_since w6 (by kernel_rfl) (by kernel_rfl) (Below.refl _ _) ?_
                repeat (go_big_quiet_step ((go_at_call 62; with_reducible exact since_call CC.out _)))
                refine wpQuiet_nil ?_
                rintro w8 ⟨y, hw⟩
                have B8 := B6.out.trans ((hw ▸ y.2 : Below w6.heap.size w6 w8).mono B6.out.size)
                clear hw y s0 s1 s2 s3 s4 t0 t1 t2 t3 t4
                go_wp2_with fail
                go_roundw
                case rel => exact ⟨j + 1 + 1, by omega, by go_num, HN4, B8⟩
                case measure => simp [intOf]; omega
              · have hz2 := HF.out (by rw [HN3.out]; simp; omega)
                subst hz2
                clear HN3 HF
                refine region_since w6 (by kernel_rfl) (by kernel_rfl) (Below.refl _ _) ?_
                repeat (go_big_quiet_step ((go_at_call 62; with_reducible exact since_call CC.out _)))
                refine wpQuiet_nil ?_
                rintro w8 ⟨y, hw⟩
                have B8 := B6.out.trans ((hw ▸ y.2 : Below w6.heap.size w6 w8).mono B6.out.size)
                clear hw y s0 s1 s2 s3 s4 t0 t1 t2 t3 t4
                go_wp2_with fail
                go_ret
                exact ⟨rfl, B8⟩
      · have hz2 := HF.out (by rw [HN.out]; simp [e1])
        subst hz2
        have B5 := BW.out
        have x1 : (t.d != d) = true := by simpa using e1
        clear HF HN CN
        go_wp2_with fail
        go_ret
        exact ⟨rfl, B5⟩
    · obtain rfl : k = L.length := by omega
      obtain rfl : z = true := HZ.out.symm.trans HK.out
      go_wp2_with fail
      go_ret
      exact ⟨rfl, BB⟩
end Go.Proofs.Ytomekndinopoaaa.multi
