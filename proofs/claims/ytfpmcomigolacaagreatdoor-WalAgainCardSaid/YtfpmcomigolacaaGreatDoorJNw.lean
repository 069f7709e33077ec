/-
  Numbers in digits, as mathematics: what number a word says.
-/
import Derived.Lib.ParseIntBTie
import Derived.Lib.ParseIntBCases
import Derived.Lib.AtoiAllCases
import Derived.Lib.ItoaMem
import Derived.Laws.BitsLemmas
import Derived.Test.YtfpmcomigolacaaGreatDoorJWm
set_option linter.unusedSimpArgs false
set_option linter.unusedVariables false
namespace Go.Proofs.YtfpmcomigolacaaGreatDoor.words

theorem u8_of {n : Nat} (h : n < 256) : (UInt8.ofNat n).toNat = n := by simp; omega
theorem dig_mem : ∀ (u : Nat) (c : UInt8), c ∈ Lib.decDigits u → 48 ≤ c.toNat ∧ c.toNat ≤ 57 := by
  intro u
  induction u using Nat.strongRecOn with
  | _ u ih =>
    intro c hc
    by_cases h : u < 10
    · rw [Lib.decDigits_one h, List.mem_singleton] at hc
      subst hc
      rw [u8_of (by omega)]
      omega
    · rw [Lib.decDigits, dif_neg h] at hc
      rcases List.mem_append.1 hc with hc | hc
      · exact ih (u / 10) (by omega) c hc
      · rw [List.mem_singleton] at hc
        subst hc
        rw [u8_of (by omega)]
        omega
theorem dec_pos (u : Nat) : Lib.decDigits u ≠ [] := by
  intro e
  have := Lib.decDigits_length u
  have h := Lib.nDigits_pos u
  rw [e] at this
  simp at this
  omega
theorem pm_dig : ∀ (u : Nat), u < 18446744073709551616 → ∀ l, Lib.parseUint10 0 (Lib.decDigits u ++ l) = Lib.parseUint10 u l := by
  intro u
  induction u using Nat.strongRecOn with
  | _ u ih =>
    intro hu l
    by_cases h : u < 10
    · rw [Lib.decDigits_one h]
      have e := u8_of (n := 48 + u) (by omega)
      simp only [List.cons_append, List.nil_append, Lib.parseUint10, e]
      rw [if_pos (by omega), if_neg (by omega), if_neg (by omega), show 0 * 10 + (48 + u - 48) = u by omega]
    · rw [Lib.decDigits, dif_neg h, List.append_assoc, ih (u / 10) (by omega) (by omega)]
      have e := u8_of (n := 48 + u % 10) (by omega)
      simp only [List.cons_append, List.nil_append, Lib.parseUint10, e]
      rw [if_pos (by omega), if_neg (by omega), if_neg (by omega), show u / 10 * 10 + (48 + u % 10 - 48) = u by omega]
theorem mag_dec (u : Nat) (h : u < 18446744073709551616) : Lib.parseMag (Lib.decDigits u) = .ok u := by
  have e := pm_dig u h []
  rw [List.append_nil] at e
  unfold Lib.parseMag
  rw [if_neg (dec_pos u), e, Lib.parseUint10]
theorem parse_itoa (n : Int) (h0 : -9223372036854775808 ≤ n) (h1 : n ≤ 9223372036854775807) : Lib.parseIntB 64 (Lib.itoa n) = .ok n := by
  rw [Lib.parseIntB_64]
  by_cases hn : n < 0
  · obtain ⟨u, hu, rfl⟩ : ∃ u : Nat, 1 ≤ u ∧ n = -(u : Int) := ⟨n.natAbs, by omega, by omega⟩
    rw [Lib.itoa_neg u hu, Lib.atoiAll_minus, mag_dec u (by omega)]
    simp only [Lib.signed]
    rw [if_neg (by omega)]
  · obtain ⟨u, rfl⟩ : ∃ u : Nat, n = (u : Int) := ⟨n.toNat, by omega⟩
    rw [Lib.itoa_nonneg]
    cases hd : Lib.decDigits u with
    | nil => exact absurd hd (dec_pos u)
    | cons c r =>
      have hc := dig_mem u c (by rw [hd]; simp)
      rw [Lib.atoiAll_plain c r (by omega) (by omega), ← hd, mag_dec u (by omega)]
      simp only [Lib.signless]
      rw [if_neg (by omega)]
/-- The number that a word says. -/
def sgP (w : Bs) : Option Int := match Lib.parseIntB 64 w with
  | .ok v => if Lib.itoa v = w then some v else none
  | _ => none
def sgV (w : Bs) : Int := (sgP w).getD 0
def sgE (w : Bs) : Int := if (sgP w).isSome then 0 else 6
theorem sg_itoa (n : Int) (h0 : -9223372036854775808 ≤ n) (h1 : n ≤ 9223372036854775807) : sgP (Lib.itoa n) = some n := by
  unfold sgP
  rw [parse_itoa n h0 h1]
  simp
theorem sg_some {w : Bs} {v : Int} (h : sgP w = some v) : Lib.itoa v = w ∧ -9223372036854775808 ≤ v ∧ v ≤ 9223372036854775807 := by
  unfold sgP at h
  split at h
  · rename_i u hu
    split at h
    · simp at h
      subst h
      have := Lib.parseIntB_bounds hu
      exact ⟨by assumption, by omega, by omega⟩
    · cases h
  · cases h
theorem sg_none {w : Bs} (h : sgP w = none) {n : Int} (h0 : -9223372036854775808 ≤ n) (h1 : n ≤ 9223372036854775807) : Lib.itoa n ≠ w := by
  intro e
  rw [← e, sg_itoa n h0 h1] at h
  cases h
theorem sg_no {w : Bs} (h : ∀ n : Int, -9223372036854775808 ≤ n → n ≤ 9223372036854775807 → Lib.itoa n ≠ w) : sgP w = none := by
  cases hp : sgP w with
  | none => rfl
  | some v =>
    obtain ⟨e, h0, h1⟩ := sg_some hp
    exact absurd e (h v h0 h1)
theorem sg_bounds (w : Bs) : -9223372036854775808 ≤ sgV w ∧ sgV w ≤ 9223372036854775807 := by
  unfold sgV
  cases h : sgP w with
  | none => simp
  | some v => exact (sg_some h).2
theorem sgE_some {w : Bs} {v : Int} (h : sgP w = some v) : sgE w = 0 ∧ sgV w = v := by simp [sgE, sgV, h]
theorem sgE_none {w : Bs} (h : sgP w = none) : sgE w = 6 ∧ sgV w = 0 := by simp [sgE, sgV, h]
theorem sgE_cases (w : Bs) : sgE w = 0 ∨ sgE w = 6 := by unfold sgE; split <;> simp
/-! ### The number from low to high -/
def inE (w : Bs) (low high : Int) : Int := if sgE w ≠ 0 then sgE w else if sgV w < low ∨ high < sgV w then 1 else 0
def inV (w : Bs) (low high : Int) : Int := if sgE w ≠ 0 then 0 else if sgV w < low ∨ high < sgV w then 0 else sgV w

/-! ### Digits one by one -/
/-- What digits come to. -/
def dval (l : Bs) : Nat := l.foldl (fun a c => a * 10 + (c.toNat - 48)) 0
theorem dval_snoc (l : Bs) (c : UInt8) : dval (l ++ [c]) = dval l * 10 + (c.toNat - 48) := by unfold dval; rw [List.foldl_append]; rfl
theorem dval_dec (u : Nat) : dval (Lib.decDigits u) = u := by
  induction u using Nat.strongRecOn with
  | _ u ih =>
    by_cases h : u < 10
    · rw [Lib.decDigits_one h]
      have e := u8_of (n := 48 + u) (by omega)
      simp only [dval, List.foldl_cons, List.foldl_nil, e]
      omega
    · rw [Lib.decDigits, dif_neg h, dval_snoc, ih (u / 10) (by omega), u8_of (by omega)]
      omega
theorem nDigits_le : ∀ (k u : Nat), u < 10 ^ (k + 1) → Lib.nDigits u ≤ k + 1
  | 0, u, h => by rw [Lib.nDigits_small (by simpa using h)]; omega
  | k + 1, u, h => by
    by_cases hu : u < 10
    · rw [Lib.nDigits_small hu]; omega
    · rw [Lib.nDigits_big hu]
      have := nDigits_le k (u / 10) (by rw [Nat.pow_succ] at h; omega)
      omega
/-- Where a number's digits begin: behind a minus sign. -/
def frontN (w : Bs) : Nat := if w.head? = some 45 then 1 else 0
theorem itoa_shape (n : Int) (h0 : -9223372036854775808 ≤ n) (h1 : n ≤ 9223372036854775807) : (Lib.itoa n).length ≤ 20 ∧ (∀ c ∈ (Lib.itoa n).drop (frontN (Lib.itoa n)), 48 ≤ c.toNat ∧ c.toNat ≤ 57) ∧ dval ((Lib.itoa n).drop (frontN (Lib.itoa n))) = n.natAbs ∧ (frontN (Lib.itoa n) = 1 ↔ n < 0) := by
  by_cases hn : n < 0
  · obtain ⟨u, hu, rfl⟩ : ∃ u : Nat, 1 ≤ u ∧ n = -(u : Int) := ⟨n.natAbs, by omega, by omega⟩
    have e : frontN (45 :: Lib.decDigits u) = 1 := by simp [frontN]
    rw [Lib.itoa_neg u hu, e]
    have hl := nDigits_le 18 u (by omega)
    refine ⟨by rw [List.length_cons, Lib.decDigits_length]; omega, ?_, ?_, by simp; omega⟩
    · exact fun c hc => dig_mem u c (by simpa using hc)
    · simp [dval_dec]
  · obtain ⟨u, rfl⟩ : ∃ u : Nat, n = (u : Int) := ⟨n.toNat, by omega⟩
    rw [Lib.itoa_nonneg]
    have hl := nDigits_le 18 u (by omega)
    have e : frontN (Lib.decDigits u) = 0 := by
      cases hd : Lib.decDigits u with
      | nil => rfl
      | cons c r =>
        have hc := dig_mem u c (by rw [hd]; simp)
        have : c ≠ 45 := by rintro rfl; exact absurd hc.1 (by decide)
        simp [frontN, this]
    rw [e]
    refine ⟨by rw [Lib.decDigits_length]; omega, ?_, ?_, by simp⟩
    · exact fun c hc => dig_mem u c (by simpa using hc)
    · simp [dval_dec]
theorem sg_long {w : Bs} (h : 20 < w.length) : sgP w = none :=
  sg_no fun n h0 h1 e => by have := (itoa_shape n h0 h1).1; rw [e] at this; omega
theorem sg_odd {w : Bs} {c : UInt8} (hc : c ∈ w.drop (frontN w)) (h : ¬ (48 ≤ c.toNat ∧ c.toNat ≤ 57)) : sgP w = none :=
  sg_no fun n h0 h1 e => by have := (itoa_shape n h0 h1).2.1; rw [e] at this; exact h (this c hc)
theorem wrap_bounds (m : Int) : -9223372036854775808 ≤ IntKind.i64.wrap m ∧ IntKind.i64.wrap m ≤ 9223372036854775807 := by
  rw [IntKind.wrap_i64]
  omega
/-- The number that the digits come to, if there is any. -/
theorem sg_fin0 {w : Bs} (hf : frontN w = 0) {m : Int} (hm : m = ((dval w % 18446744073709551616 : Nat) : Int)) : sgP w = if Lib.itoa (IntKind.i64.wrap m) = w then some (IntKind.i64.wrap m) else none := by
  have hb := wrap_bounds m
  by_cases hi : Lib.itoa (IntKind.i64.wrap m) = w
  · rw [if_pos hi, ← hi]
    exact sg_itoa _ hb.1 hb.2
  · rw [if_neg hi]
    refine sg_no fun n h0 h1 e => hi ?_
    obtain ⟨-, -, h2, h3⟩ := itoa_shape n h0 h1
    rw [e, hf] at h2 h3
    rw [List.drop_zero] at h2
    have hn : ¬ n < 0 := fun h => by have := h3.2 h; omega
    have hx : IntKind.i64.wrap m = n := by rw [hm, h2, IntKind.wrap_i64]; omega
    rw [hx]
    exact e
theorem sg_fin1 {w : Bs} (hf : frontN w = 1) {m : Int} (hm : m = ((dval (w.drop 1) % 18446744073709551616 : Nat) : Int)) : sgP w = if Lib.itoa (IntKind.i64.wrap (-(IntKind.i64.wrap m))) = w then some (IntKind.i64.wrap (-(IntKind.i64.wrap m))) else none := by
  have hb := wrap_bounds (-(IntKind.i64.wrap m))
  by_cases hi : Lib.itoa (IntKind.i64.wrap (-(IntKind.i64.wrap m))) = w
  · rw [if_pos hi]
    have := sg_itoa _ hb.1 hb.2
    rwa [hi] at this
  · rw [if_neg hi]
    refine sg_no fun n h0 h1 e => hi ?_
    obtain ⟨-, -, h2, h3⟩ := itoa_shape n h0 h1
    rw [e, hf] at h2 h3
    have hn : n < 0 := h3.1 rfl
    have hx : IntKind.i64.wrap (-(IntKind.i64.wrap m)) = n := by rw [hm, h2, IntKind.wrap_i64, IntKind.wrap_i64]; omega
    rw [hx]
    exact e
theorem sgE_of {w : Bs} {n : Int} (h : sgP w = if Lib.itoa n = w then some n else none) : (Lib.itoa n = w → sgE w = 0 ∧ sgV w = n) ∧ (Lib.itoa n ≠ w → sgE w = 6 ∧ sgV w = 0) := by
  refine ⟨fun e => sgE_some (by rw [h, if_pos e]), fun e => sgE_none (by rw [h, if_neg e])⟩
end Go.Proofs.YtfpmcomigolacaaGreatDoor.words
