/-
  Plain mathematics, no program: the register of CRC-32C as a linear, reversible step on natural numbers; a text as one number; changes within 32 bits that stand together.
-/
namespace Go.Proofs.Ytbomlapmoiamgaa.crcm

def poly : Nat := 2197175160
/-- One step of the register, on numbers of any size. -/
def stp (c : Nat) : Nat := if c % 2 = 1 then (c / 2) ^^^ poly else c / 2
def stpN : Nat → Nat → Nat
  | 0, c => c
  | n + 1, c => stpN n (stp c)
def upd (c : Nat) (b : UInt8) : Nat := stpN 8 (c ^^^ b.toNat)
def run : List UInt8 → Nat → Nat
  | [], c => c
  | b :: l, c => run l (upd c b)
/-- A text as one number, its first byte lowest. -/
def num : List UInt8 → Nat
  | [] => 0
  | b :: l => b.toNat + 256 * num l

theorem stp_testBit (c i : Nat) : (stp c).testBit i = (c.testBit (i + 1) ^^ (c.testBit 0 && poly.testBit i)) := by
  unfold stp
  by_cases h : c % 2 = 1
  · rw [if_pos h, Nat.testBit_xor, Nat.testBit_succ]
    simp [h]
  · rw [if_neg h, Nat.testBit_succ]
    simp [h]
theorem stp_xor (a b : Nat) : stp (a ^^^ b) = stp a ^^^ stp b := by
  apply Nat.eq_of_testBit_eq
  intro i
  simp only [stp_testBit, Nat.testBit_xor]
  cases a.testBit (i + 1) <;> cases b.testBit (i + 1) <;> cases a.testBit 0 <;> cases b.testBit 0 <;> cases poly.testBit i <;> rfl
theorem stpN_xor : ∀ (n a b : Nat), stpN n (a ^^^ b) = stpN n a ^^^ stpN n b
  | 0, _, _ => rfl
  | n + 1, a, b => by rw [stpN, stp_xor, stpN_xor n]; rfl
theorem stpN_add : ∀ (n m c : Nat), stpN (n + m) c = stpN m (stpN n c)
  | 0, m, c => by rw [Nat.zero_add]; rfl
  | n + 1, m, c => by rw [Nat.succ_add, stpN, stpN_add n m]; rfl
theorem stp_double (x : Nat) : stp (2 * x) = x := by
  unfold stp
  rw [if_neg (by omega)]
  omega
theorem stpN_shift : ∀ (n x : Nat), stpN n (2 ^ n * x) = x
  | 0, x => by simp [stpN]
  | n + 1, x => by
    rw [stpN, Nat.pow_succ, Nat.mul_comm (2 ^ n) 2, Nat.mul_assoc, stp_double, stpN_shift n]
theorem stp_zero : stp 0 = 0 := rfl
theorem poly_lt : poly < 4294967296 := by decide
theorem stp_lt {c : Nat} (h : c < 4294967296) : stp c < 4294967296 := by
  unfold stp
  split
  · exact Nat.xor_lt_two_pow (n := 32) (by omega) (by decide)
  · omega
theorem stp_pos {c : Nat} (h : c < 4294967296) (h0 : c ≠ 0) : stp c ≠ 0 := by
  unfold stp
  split
  · intro he
    have hb : ((c / 2) ^^^ poly).testBit 31 = false := by rw [he]; simp
    rw [Nat.testBit_xor] at hb
    have h1 : (c / 2).testBit 31 = false := Nat.testBit_lt_two_pow (by omega)
    have h2 : poly.testBit 31 = true := by decide
    rw [h1, h2] at hb
    simp at hb
  · omega
theorem stpN_lt : ∀ (n : Nat) {c : Nat}, c < 4294967296 → stpN n c < 4294967296
  | 0, _, h => h
  | n + 1, _, h => stpN_lt n (stp_lt h)
theorem stpN_pos : ∀ (n : Nat) {c : Nat}, c < 4294967296 → c ≠ 0 → stpN n c ≠ 0
  | 0, _, _, h0 => h0
  | n + 1, _, h, h0 => stpN_pos n (stp_lt h) (stp_pos h h0)
theorem upd_lt {c : Nat} (b : UInt8) (h : c < 4294967296) : upd c b < 4294967296 :=
  stpN_lt 8 (Nat.xor_lt_two_pow (n := 32) h (by have := b.toNat_lt; omega))
theorem run_lt : ∀ (l : List UInt8) {c : Nat}, c < 4294967296 → run l c < 4294967296
  | [], _, h => h
  | b :: l, _, h => run_lt l (upd_lt b h)
theorem run_append : ∀ (l r : List UInt8) (c : Nat), run (l ++ r) c = run r (run l c)
  | [], _, _ => rfl
  | b :: l, r, c => by rw [List.cons_append, run, run_append l r]; rfl

theorem num_cons_xor (b : UInt8) (l : List UInt8) : num (b :: l) = b.toNat ^^^ (2 ^ 8 * num l) := by
  have hb := b.toNat_lt
  rw [num, Nat.xor_comm]
  have := Nat.two_pow_add_eq_or_of_lt (i := 8) (b := b.toNat) (by omega) (num l)
  rw [show (256 : Nat) = 2 ^ 8 from rfl, Nat.add_comm, this]
  apply Nat.eq_of_testBit_eq
  intro i
  simp only [Nat.testBit_or, Nat.testBit_xor, Nat.testBit_two_pow_mul]
  by_cases hi : 8 ≤ i
  · have : b.toNat.testBit i = false := Nat.testBit_lt_two_pow (Nat.lt_of_lt_of_le hb (Nat.pow_le_pow_right (by omega) hi))
    simp [this]
  · simp [hi]
/-- The register behind a text, out of the text's number. -/
theorem run_num : ∀ (l : List UInt8) (c : Nat), run l c = stpN (8 * l.length) (c ^^^ num l)
  | [], c => by simp [run, num, stpN]
  | b :: l, c => by
    rw [run, run_num l, num_cons_xor, List.length_cons, show 8 * (l.length + 1) = 8 + 8 * l.length from by omega, stpN_add,
      ← Nat.xor_assoc, stpN_xor 8 (c ^^^ b.toNat), stpN_shift]
    rfl
/-- Two texts of one length that differ within 32 bits that stand together lead one register to two. -/
theorem run_burst {l r : List UInt8} {c f t : Nat} (hl : l.length = r.length) (hf : f ≤ 8 * l.length) (ht : t < 4294967296) (h0 : t ≠ 0) (h : num r = num l ^^^ (2 ^ f * t)) : run r c ≠ run l c := by
  rw [run_num, run_num, h, ← hl, ← Nat.xor_assoc, stpN_xor]
  intro he
  have h1 : stpN (8 * l.length) (2 ^ f * t) ≠ 0 := by
    rw [show 8 * l.length = f + (8 * l.length - f) from by omega, stpN_add, stpN_shift]
    exact stpN_pos _ ht h0
  apply h1
  have h2 := congrArg (fun x => stpN (8 * l.length) (c ^^^ num l) ^^^ x) he
  simp only [← Nat.xor_assoc, Nat.xor_self, Nat.zero_xor] at h2
  exact h2

/-! ### The number's parts -/
theorem num_lt : ∀ (l : List UInt8), num l < 2 ^ (8 * l.length)
  | [] => by simp [num]
  | b :: l => by
    have h := num_lt l
    have hb := b.toNat_lt
    rw [num, List.length_cons, show 8 * (l.length + 1) = 8 * l.length + 8 from by omega, Nat.pow_add]
    omega
theorem num_inj : ∀ {l r : List UInt8}, l.length = r.length → num l = num r → l = r
  | [], [], _, _ => rfl
  | b :: l, d :: r, hl, h => by
    have hb := b.toNat_lt
    have hd := d.toNat_lt
    rw [num, num] at h
    rw [num_inj (l := l) (r := r) (by simpa using hl) (by omega), UInt8.toNat_inj.1 (show b.toNat = d.toNat by omega)]
theorem num_append : ∀ (l r : List UInt8), num (l ++ r) = num l + 2 ^ (8 * l.length) * num r
  | [], r => by simp [num]
  | b :: l, r => by
    rw [List.cons_append, num, num_append l r, num, List.length_cons, show 8 * (l.length + 1) = 8 * l.length + 8 from by omega, Nat.pow_add, Nat.mul_add,
      Nat.mul_comm (2 ^ (8 * l.length)) (2 ^ 8), Nat.mul_assoc, Nat.add_assoc]
/-- A byte xored. -/
theorem num_set : ∀ (l : List UInt8) (j : Nat) (x : UInt8) (hj : j < l.length), num (l.set j (l[j] ^^^ x)) = num l ^^^ (2 ^ (8 * j) * x.toNat)
  | b :: l, 0, x, _ => by
    simp only [List.set_cons_zero, List.getElem_cons_zero, num_cons_xor, UInt8.toNat_xor, Nat.mul_zero, Nat.pow_zero, Nat.one_mul]
    rw [Nat.xor_assoc, Nat.xor_assoc, Nat.xor_comm x.toNat]
  | b :: l, j + 1, x, hj => by
    simp only [List.set_cons_succ, List.getElem_cons_succ, num_cons_xor]
    rw [num_set l j x (by simpa using hj), Nat.xor_assoc]
    congr 1
    rw [show 8 * (j + 1) = 8 + 8 * j from by omega, Nat.pow_add, Nat.mul_assoc]
    apply Nat.eq_of_testBit_eq
    intro i
    simp only [Nat.testBit_xor, Nat.testBit_two_pow_mul]
    by_cases hi : 8 ≤ i <;> simp [hi]
/-- The head of a row, and the rest of it, out of the number. -/
theorem num_take (l : List UInt8) {n : Nat} (h : n ≤ l.length) : num (l.take n) = num l % 2 ^ (8 * n) := by
  have h1 := num_append (l.take n) (l.drop n)
  have h2 := num_lt (l.take n)
  rw [List.take_append_drop] at h1
  rw [List.length_take, Nat.min_eq_left h] at h1 h2
  rw [h1, Nat.add_mul_mod_self_left, Nat.mod_eq_of_lt h2]
theorem num_drop (l : List UInt8) {n : Nat} (h : n ≤ l.length) : num (l.drop n) = num l / 2 ^ (8 * n) := by
  have h1 := num_append (l.take n) (l.drop n)
  have h2 := num_lt (l.take n)
  rw [List.take_append_drop] at h1
  rw [List.length_take, Nat.min_eq_left h] at h1 h2
  rw [h1, Nat.add_mul_div_left _ _ (Nat.two_pow_pos _), Nat.div_eq_of_lt h2, Nat.zero_add]
/-- One more bit of what is turned. -/
theorem bits_more (t i : Nat) : t % 2 ^ (i + 1) = (t % 2 ^ i) ^^^ (2 ^ i * (t / 2 ^ i % 2)) := by
  apply Nat.eq_of_testBit_eq
  intro k
  simp only [Nat.testBit_xor, Nat.testBit_mod_two_pow, Nat.testBit_two_pow_mul]
  rcases Nat.lt_trichotomy k i with h | h | h
  · have h1 : ¬ i ≤ k := by omega
    have h2 : k < i + 1 := by omega
    simp [h, h1, h2]
  · subst h
    simp [Nat.testBit_zero, ← Nat.testBit_eq_decide_div_mod_eq]
  · have h1 : ¬ k < i := by omega
    have h2 : ¬ k < i + 1 := by omega
    have h3 : i ≤ k := by omega
    have h4 : (t / 2 ^ i % 2).testBit (k - i) = false := Nat.testBit_lt_two_pow (by
      have : 2 ^ 1 ≤ 2 ^ (k - i) := Nat.pow_le_pow_right (by omega) (by omega)
      omega)
    simp [h1, h2, h4]
theorem xor_mul (n a b : Nat) : 2 ^ n * (a ^^^ b) = (2 ^ n * a) ^^^ (2 ^ n * b) := by
  apply Nat.eq_of_testBit_eq
  intro i
  simp only [Nat.testBit_xor, Nat.testBit_two_pow_mul]
  by_cases hi : n ≤ i <;> simp [hi]
/-- One round of the loop that turns bits. -/
theorem num_turn {l r : List UInt8} {f t i j s : Nat} (h : num r = num l ^^^ (2 ^ f * (t % 2 ^ i))) (hj : j < r.length) (hp : 8 * j + s = f + i) (x : UInt8) (hx : x.toNat = 2 ^ s * (t / 2 ^ i % 2)) :
    num (r.set j (r[j] ^^^ x)) = num l ^^^ (2 ^ f * (t % 2 ^ (i + 1))) := by
  rw [num_set r j x hj, h, Nat.xor_assoc, bits_more t i, xor_mul, hx]
  congr 2
  rw [← Nat.mul_assoc, ← Nat.mul_assoc, ← Nat.pow_add, ← Nat.pow_add, hp]

/-! ### Check sums, sealed texts -/
def more (s : Nat) (l : List UInt8) : Nat := run l (4294967295 - s)
/-- The check sum of a text behind one with the sum s. -/
def moreL (s : Nat) (l : List UInt8) : Nat := 4294967295 - more s l
def sumL (l : List UInt8) : Nat := moreL 0 l
def headL (n : Nat) : List UInt8 := [UInt8.ofNat n, UInt8.ofNat (n / 256), UInt8.ofNat (n / 65536), UInt8.ofNat (n / 16777216)]
def sealL (l : List UInt8) : List UInt8 := headL (sumL l) ++ l
def isSeal (l : List UInt8) : Bool := decide (4 ≤ l.length) && (sealL (l.drop 4) == l)
def openT (l : List UInt8) : List UInt8 := if isSeal l then l.drop 4 else []
theorem more_lt (s : Nat) (l : List UInt8) : more s l < 4294967296 := run_lt l (by omega)
theorem moreL_lt (s : Nat) (l : List UInt8) : moreL s l < 4294967296 := by unfold moreL; omega
theorem sumL_lt (l : List UInt8) : sumL l < 4294967296 := moreL_lt 0 l
theorem more_parts (l r : List UInt8) : moreL (sumL l) r = sumL (l ++ r) := by
  have h := more_lt 0 l
  unfold sumL moreL
  have e : more (4294967295 - more 0 l) r = more 0 (l ++ r) := by
    show run r (4294967295 - (4294967295 - more 0 l)) = run (l ++ r) _
    rw [run_append]
    congr 1
    unfold more at h ⊢
    omega
  rw [e]
theorem headL_length (n : Nat) : (headL n).length = 4 := rfl
theorem num_head {n : Nat} (h : n < 4294967296) : num (headL n) = n := by
  simp [headL, num]
  omega
theorem headL_inj {n m : Nat} (hn : n < 4294967296) (hm : m < 4294967296) (h : headL n = headL m) : n = m := by
  rw [← num_head hn, ← num_head hm, h]
theorem sealL_length (l : List UInt8) : (sealL l).length = l.length + 4 := by
  simp [sealL, headL_length]; omega
theorem sealL_drop (l : List UInt8) : (sealL l).drop 4 = l := by
  simp [sealL, headL]
theorem sealL_take (l : List UInt8) : (sealL l).take 4 = headL (sumL l) := by
  simp [sealL, headL]
theorem isSeal_seal (l : List UInt8) : isSeal (sealL l) = true := by
  simp [isSeal, sealL_drop, sealL_length]
theorem openT_seal (l : List UInt8) : openT (sealL l) = l := by
  simp [openT, isSeal_seal, sealL_drop]
theorem sum_burst {l r : List UInt8} {f t : Nat} (hl : l.length = r.length) (hf : f ≤ 8 * l.length) (ht : t < 4294967296) (h0 : t ≠ 0) (h : num r = num l ^^^ (2 ^ f * t)) : sumL r ≠ sumL l := by
  have h1 := run_burst (c := 4294967295 - 0) hl hf ht h0 h
  have h2 := more_lt 0 l
  have h3 := more_lt 0 r
  unfold sumL moreL
  unfold more at h2 h3 ⊢
  omega
/-- What is sealed, and turned behind its sum within 32 bits: no seal. -/
theorem seal_burst {l r : List UInt8} {f t : Nat} (hr : r.length = l.length + 4) (hf : 32 ≤ f) (hf2 : f ≤ 8 * l.length + 32) (ht : t < 4294967296) (h0 : t ≠ 0) (h : num r = num (sealL l) ^^^ (2 ^ f * t)) : isSeal r = false := by
  have hd : num (r.drop 4) = num l ^^^ (2 ^ (f - 32) * t) := by
    rw [num_drop r (by omega), h, show 8 * 4 = 32 from rfl]
    have e1 : num l = num (sealL l) / 2 ^ 32 := by
      rw [← sealL_drop l, num_drop _ (by rw [sealL_length]; omega), sealL_drop]
    have e2 : 2 ^ f * t = 2 ^ 32 * (2 ^ (f - 32) * t) := by
      rw [← Nat.mul_assoc, ← Nat.pow_add]; congr 2; omega
    rw [e1, e2]
    apply Nat.eq_of_testBit_eq
    intro i
    simp only [Nat.testBit_xor, Nat.testBit_div_two_pow, Nat.testBit_two_pow_mul]
    simp [Nat.add_sub_cancel]
  have ht4 : r.take 4 = (sealL l).take 4 := by
    apply num_inj
    · rw [List.length_take, List.length_take, sealL_length, hr]
    · rw [num_take r (by omega), num_take _ (by rw [sealL_length]; omega), h]
      apply Nat.eq_of_testBit_eq
      intro i
      simp only [Nat.testBit_mod_two_pow, Nat.testBit_xor, Nat.testBit_two_pow_mul]
      by_cases hi : i < 8 * 4
      · have : ¬ f ≤ i := by omega
        simp [this]
      · simp [hi]
  have hs := sum_burst (l := l) (r := r.drop 4) (by simp; omega) (f := f - 32) (by omega) ht h0 hd
  cases hc : isSeal r with
  | false => rfl
  | true =>
    exfalso
    simp only [isSeal, Bool.and_eq_true, beq_iff_eq] at hc
    have h4 := congrArg (List.take 4) hc.2
    rw [sealL_take, ht4, sealL_take] at h4
    exact hs (headL_inj (sumL_lt _) (sumL_lt _) h4)
/-- What is sealed, and a byte of it turned: no seal. -/
theorem seal_byte {l : List UInt8} {p : Nat} {x : UInt8} (hp : p < (sealL l).length) (hx : x.toNat ≠ 0) : isSeal ((sealL l).set p ((sealL l)[p] ^^^ x)) = false := by
  have hb := x.toNat_lt
  have hsl := sealL_length l
  by_cases h4 : 4 ≤ p
  · refine seal_burst (l := l) (f := 8 * p) (t := x.toNat) (by rw [List.length_set, hsl]) (by omega) (by omega) (by omega) hx (num_set _ p x hp)
  · have hd : ((sealL l).set p ((sealL l)[p] ^^^ x)).drop 4 = l := by
      rw [List.drop_set, if_pos (by omega), sealL_drop]
    cases hc : isSeal ((sealL l).set p ((sealL l)[p] ^^^ x)) with
    | false => rfl
    | true =>
      exfalso
      simp only [isSeal, Bool.and_eq_true, beq_iff_eq] at hc
      have h5 := congrArg num hc.2
      rw [hd, num_set _ p x hp] at h5
      have h6 : 2 ^ (8 * p) * x.toNat = 0 := by
        have h7 := congrArg (fun y => num (sealL l) ^^^ y) h5
        simp only [← Nat.xor_assoc, Nat.xor_self, Nat.zero_xor] at h7
        exact h7.symm
      rcases Nat.mul_eq_zero.1 h6 with h7 | h7
      · exact absurd h7 (Nat.ne_of_gt (Nat.two_pow_pos _))
      · exact hx h7
end Go.Proofs.Ytbomlapmoiamgaa.crcm
