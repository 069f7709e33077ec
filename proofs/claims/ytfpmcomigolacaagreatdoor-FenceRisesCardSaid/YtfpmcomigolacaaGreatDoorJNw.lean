/-
  Numbers in digits, as mathematics: what number a word says.
  A log as mathematics: what each call of it does to it and to its disk.
-/
import Derived.Lib.ParseIntBTie
import Derived.Lib.ParseIntBCases
import Derived.Lib.AtoiAllCases
import Derived.Lib.ItoaMem
import Derived.Laws.BitsLemmas
import Derived.Test.YtfpmcomigolacaaGreatDoorJWm
import Derived.Test.YtfpmcomigolacaaGreatDoorJMath
set_option linter.unusedSimpArgs false
set_option linter.unusedVariables false
namespace Go.Proofs.YtfpmcomigolacaaGreatDoor.words

theorem u8_of {n : Nat} (h : n < 256) : (UInt8.ofNat n).toNat = n := by simp; omega
theorem dig_mem : ∀ (u : Nat) (c : UInt8), c ∈ Lib.decDigits u → 48 ≤ c.toNat ∧ c.toNat ≤ 57 := by
  intro u
  induction u using Nat.strongRecOn with
  | _ u ih =>
    intro c hc
    by_cases h : u < 10
    · rw [Lib.decDigits_one h, List.mem_singleton] at hc
      subst hc
      rw [u8_of (by omega)]
      omega
    · rw [Lib.decDigits, dif_neg h] at hc
      rcases List.mem_append.1 hc with hc | hc
      · exact ih (u / 10) (by omega) c hc
      · rw [List.mem_singleton] at hc
        subst hc
        rw [u8_of (by omega)]
        omega
theorem dec_pos (u : Nat) : Lib.decDigits u ≠ [] := by
  intro e
  have := Lib.decDigits_length u
  have h := Lib.nDigits_pos u
  rw [e] at this
  simp at this
  omega
theorem pm_dig : ∀ (u : Nat), u < 18446744073709551616 → ∀ l, Lib.parseUint10 0 (Lib.decDigits u ++ l) = Lib.parseUint10 u l := by
  intro u
  induction u using Nat.strongRecOn with
  | _ u ih =>
    intro hu l
    by_cases h : u < 10
    · rw [Lib.decDigits_one h]
      have e := u8_of (n := 48 + u) (by omega)
      simp only [List.cons_append, List.nil_append, Lib.parseUint10, e]
      rw [if_pos (by omega), if_neg (by omega), if_neg (by omega), show 0 * 10 + (48 + u - 48) = u by omega]
    · rw [Lib.decDigits, dif_neg h, List.append_assoc, ih (u / 10) (by omega) (by omega)]
      have e := u8_of (n := 48 + u % 10) (by omega)
      simp only [List.cons_append, List.nil_append, Lib.parseUint10, e]
      rw [if_pos (by omega), if_neg (by omega), if_neg (by omega), show u / 10 * 10 + (48 + u % 10 - 48) = u by omega]
theorem mag_dec (u : Nat) (h : u < 18446744073709551616) : Lib.parseMag (Lib.decDigits u) = .ok u := by
  have e := pm_dig u h []
  rw [List.append_nil] at e
  unfold Lib.parseMag
  rw [if_neg (dec_pos u), e, Lib.parseUint10]
theorem parse_itoa (n : Int) (h0 : -9223372036854775808 ≤ n) (h1 : n ≤ 9223372036854775807) : Lib.parseIntB 64 (Lib.itoa n) = .ok n := by
  rw [Lib.parseIntB_64]
  by_cases hn : n < 0
  · obtain ⟨u, hu, rfl⟩ : ∃ u : Nat, 1 ≤ u ∧ n = -(u : Int) := ⟨n.natAbs, by omega, by omega⟩
    rw [Lib.itoa_neg u hu, Lib.atoiAll_minus, mag_dec u (by omega)]
    simp only [Lib.signed]
    rw [if_neg (by omega)]
  · obtain ⟨u, rfl⟩ : ∃ u : Nat, n = (u : Int) := ⟨n.toNat, by omega⟩
    rw [Lib.itoa_nonneg]
    cases hd : Lib.decDigits u with
    | nil => exact absurd hd (dec_pos u)
    | cons c r =>
      have hc := dig_mem u c (by rw [hd]; simp)
      rw [Lib.atoiAll_plain c r (by omega) (by omega), ← hd, mag_dec u (by omega)]
      simp only [Lib.signless]
      rw [if_neg (by omega)]
/-- The number that a word says. -/
def sgP (w : Bs) : Option Int := match Lib.parseIntB 64 w with
  | .ok v => if Lib.itoa v = w then some v else none
  | _ => none
def sgV (w : Bs) : Int := (sgP w).getD 0
def sgE (w : Bs) : Int := if (sgP w).isSome then 0 else 6
theorem sg_itoa (n : Int) (h0 : -9223372036854775808 ≤ n) (h1 : n ≤ 9223372036854775807) : sgP (Lib.itoa n) = some n := by
  unfold sgP
  rw [parse_itoa n h0 h1]
  simp
theorem sg_some {w : Bs} {v : Int} (h : sgP w = some v) : Lib.itoa v = w ∧ -9223372036854775808 ≤ v ∧ v ≤ 9223372036854775807 := by
  unfold sgP at h
  split at h
  · rename_i u hu
    split at h
    · simp at h
      subst h
      have := Lib.parseIntB_bounds hu
      exact ⟨by assumption, by omega, by omega⟩
    · cases h
  · cases h
theorem sg_none {w : Bs} (h : sgP w = none) {n : Int} (h0 : -9223372036854775808 ≤ n) (h1 : n ≤ 9223372036854775807) : Lib.itoa n ≠ w := by
  intro e
  rw [← e, sg_itoa n h0 h1] at h
  cases h
theorem sg_no {w : Bs} (h : ∀ n : Int, -9223372036854775808 ≤ n → n ≤ 9223372036854775807 → Lib.itoa n ≠ w) : sgP w = none := by
  cases hp : sgP w with
  | none => rfl
  | some v =>
    obtain ⟨e, h0, h1⟩ := sg_some hp
    exact absurd e (h v h0 h1)
theorem sg_bounds (w : Bs) : -9223372036854775808 ≤ sgV w ∧ sgV w ≤ 9223372036854775807 := by
  unfold sgV
  cases h : sgP w with
  | none => simp
  | some v => exact (sg_some h).2
theorem sgE_some {w : Bs} {v : Int} (h : sgP w = some v) : sgE w = 0 ∧ sgV w = v := by simp [sgE, sgV, h]
theorem sgE_none {w : Bs} (h : sgP w = none) : sgE w = 6 ∧ sgV w = 0 := by simp [sgE, sgV, h]
theorem sgE_cases (w : Bs) : sgE w = 0 ∨ sgE w = 6 := by unfold sgE; split <;> simp
/-! ### The number from low to high -/
def inE (w : Bs) (low high : Int) : Int := if sgE w ≠ 0 then sgE w else if sgV w < low ∨ high < sgV w then 1 else 0
def inV (w : Bs) (low high : Int) : Int := if sgE w ≠ 0 then 0 else if sgV w < low ∨ high < sgV w then 0 else sgV w

/-! ### Digits one by one -/
/-- What digits come to. -/
def dval (l : Bs) : Nat := l.foldl (fun a c => a * 10 + (c.toNat - 48)) 0
theorem dval_snoc (l : Bs) (c : UInt8) : dval (l ++ [c]) = dval l * 10 + (c.toNat - 48) := by unfold dval; rw [List.foldl_append]; rfl
theorem dval_dec (u : Nat) : dval (Lib.decDigits u) = u := by
  induction u using Nat.strongRecOn with
  | _ u ih =>
    by_cases h : u < 10
    · rw [Lib.decDigits_one h]
      have e := u8_of (n := 48 + u) (by omega)
      simp only [dval, List.foldl_cons, List.foldl_nil, e]
      omega
    · rw [Lib.decDigits, dif_neg h, dval_snoc, ih (u / 10) (by omega), u8_of (by omega)]
      omega
theorem nDigits_le : ∀ (k u : Nat), u < 10 ^ (k + 1) → Lib.nDigits u ≤ k + 1
  | 0, u, h => by rw [Lib.nDigits_small (by simpa using h)]; omega
  | k + 1, u, h => by
    by_cases hu : u < 10
    · rw [Lib.nDigits_small hu]; omega
    · rw [Lib.nDigits_big hu]
      have := nDigits_le k (u / 10) (by rw [Nat.pow_succ] at h; omega)
      omega
/-- Where a number's digits begin: behind a minus sign. -/
def frontN (w : Bs) : Nat := if w.head? = some 45 then 1 else 0
theorem itoa_shape (n : Int) (h0 : -9223372036854775808 ≤ n) (h1 : n ≤ 9223372036854775807) : (Lib.itoa n).length ≤ 20 ∧ (∀ c ∈ (Lib.itoa n).drop (frontN (Lib.itoa n)), 48 ≤ c.toNat ∧ c.toNat ≤ 57) ∧ dval ((Lib.itoa n).drop (frontN (Lib.itoa n))) = n.natAbs ∧ (frontN (Lib.itoa n) = 1 ↔ n < 0) := by
  by_cases hn : n < 0
  · obtain ⟨u, hu, rfl⟩ : ∃ u : Nat, 1 ≤ u ∧ n = -(u : Int) := ⟨n.natAbs, by omega, by omega⟩
    have e : frontN (45 :: Lib.decDigits u) = 1 := by simp [frontN]
    rw [Lib.itoa_neg u hu, e]
    have hl := nDigits_le 18 u (by omega)
    refine ⟨by rw [List.length_cons, Lib.decDigits_length]; omega, ?_, ?_, by simp; omega⟩
    · exact fun c hc => dig_mem u c (by simpa using hc)
    · simp [dval_dec]
  · obtain ⟨u, rfl⟩ : ∃ u : Nat, n = (u : Int) := ⟨n.toNat, by omega⟩
    rw [Lib.itoa_nonneg]
    have hl := nDigits_le 18 u (by omega)
    have e : frontN (Lib.decDigits u) = 0 := by
      cases hd : Lib.decDigits u with
      | nil => rfl
      | cons c r =>
        have hc := dig_mem u c (by rw [hd]; simp)
        have : c ≠ 45 := by rintro rfl; exact absurd hc.1 (by decide)
        simp [frontN, this]
    rw [e]
    refine ⟨by rw [Lib.decDigits_length]; omega, ?_, ?_, by simp⟩
    · exact fun c hc => dig_mem u c (by simpa using hc)
    · simp [dval_dec]
theorem sg_long {w : Bs} (h : 20 < w.length) : sgP w = none :=
  sg_no fun n h0 h1 e => by have := (itoa_shape n h0 h1).1; rw [e] at this; omega
theorem sg_odd {w : Bs} {c : UInt8} (hc : c ∈ w.drop (frontN w)) (h : ¬ (48 ≤ c.toNat ∧ c.toNat ≤ 57)) : sgP w = none :=
  sg_no fun n h0 h1 e => by have := (itoa_shape n h0 h1).2.1; rw [e] at this; exact h (this c hc)
theorem wrap_bounds (m : Int) : -9223372036854775808 ≤ IntKind.i64.wrap m ∧ IntKind.i64.wrap m ≤ 9223372036854775807 := by
  rw [IntKind.wrap_i64]
  omega
/-- The number that the digits come to, if there is any. -/
theorem sg_fin0 {w : Bs} (hf : frontN w = 0) {m : Int} (hm : m = ((dval w % 18446744073709551616 : Nat) : Int)) : sgP w = if Lib.itoa (IntKind.i64.wrap m) = w then some (IntKind.i64.wrap m) else none := by
  have hb := wrap_bounds m
  by_cases hi : Lib.itoa (IntKind.i64.wrap m) = w
  · rw [if_pos hi, ← hi]
    exact sg_itoa _ hb.1 hb.2
  · rw [if_neg hi]
    refine sg_no fun n h0 h1 e => hi ?_
    obtain ⟨-, -, h2, h3⟩ := itoa_shape n h0 h1
    rw [e, hf] at h2 h3
    rw [List.drop_zero] at h2
    have hn : ¬ n < 0 := fun h => by have := h3.2 h; omega
    have hx : IntKind.i64.wrap m = n := by rw [hm, h2, IntKind.wrap_i64]; omega
    rw [hx]
    exact e
theorem sg_fin1 {w : Bs} (hf : frontN w = 1) {m : Int} (hm : m = ((dval (w.drop 1) % 18446744073709551616 : Nat) : Int)) : sgP w = if Lib.itoa (IntKind.i64.wrap (-(IntKind.i64.wrap m))) = w then some (IntKind.i64.wrap (-(IntKind.i64.wrap m))) else none := by
  have hb := wrap_bounds (-(IntKind.i64.wrap m))
  by_cases hi : Lib.itoa (IntKind.i64.wrap (-(IntKind.i64.wrap m))) = w
  · rw [if_pos hi]
    have := sg_itoa _ hb.1 hb.2
    rwa [hi] at this
  · rw [if_neg hi]
    refine sg_no fun n h0 h1 e => hi ?_
    obtain ⟨-, -, h2, h3⟩ := itoa_shape n h0 h1
    rw [e, hf] at h2 h3
    have hn : n < 0 := h3.1 rfl
    have hx : IntKind.i64.wrap (-(IntKind.i64.wrap m)) = n := by rw [hm, h2, IntKind.wrap_i64, IntKind.wrap_i64]; omega
    rw [hx]
    exact e
theorem sgE_of {w : Bs} {n : Int} (h : sgP w = if Lib.itoa n = w then some n else none) : (Lib.itoa n = w → sgE w = 0 ∧ sgV w = n) ∧ (Lib.itoa n ≠ w → sgE w = 6 ∧ sgV w = 0) := by
  refine ⟨fun e => sgE_some (by rw [h, if_pos e]), fun e => sgE_none (by rw [h, if_neg e])⟩
end Go.Proofs.YtfpmcomigolacaaGreatDoor.words
set_option linter.unusedSimpArgs false
set_option linter.unusedVariables false
namespace Go.Proofs.YtfpmcomigolacaaGreatDoor.wal
open Go.Proofs.YtfpmcomigolacaaGreatDoor.enc Go.Proofs.YtfpmcomigolacaaGreatDoor.code Go.Proofs.YtfpmcomigolacaaGreatDoor.crcm Go.Proofs.YtfpmcomigolacaaGreatDoor.words Go.Proofs.YtfpmcomigolacaaGreatDoor.disk

structure Lg where
  nm : Bs
  per : Int
  least : Int
  heads : List Int
  recs : List Bs
  torn : Bool
  syn : Int
  fail : Bool

def baseN (L : Lg) : Int := L.heads.head?.getD 0
def nextN (L : Lg) : Int := baseN L + L.recs.length
def nextF (L : Lg) : Int := L.least + L.heads.length
def fn (nm : Bs) (k : Int) : Bs := nm ++ Lib.itoa k
def lastF (L : Lg) : Bs := fn L.nm (nextF L - 1)
def lastH (L : Lg) : Int := L.heads.getLast?.getD 0
def closedB (L : Lg) : Bool := decide (L.heads = []) || (L.torn || decide (L.per ≤ nextN L - lastH L))
def noteL (L : Lg) (e : Int) : Lg := if e = 14 then { L with fail := true } else L
/-- What is read of the last file: what is wrong; whether all of it lasts. -/
def slE (L : Lg) (D : Dk) : Int :=
  if D.off = true then 14 else if L.heads = [] then 0 else if readE D (lastF L) ≠ 0 then readE D (lastF L) else if oldL D.F (lastF L) = (readV D (lastF L)).length then 0 else onE D (lastF L)
def slD (L : Lg) (D : Dk) : Dk :=
  if D.off = true then D else if L.heads = [] then D else if readE D (lastF L) ≠ 0 then D else if oldL D.F (lastF L) = (readV D (lastF L)).length then D else synV D (lastF L)
def syE (L : Lg) (D : Dk) : Int := if L.fail = true then 14 else slE L D
def syD (L : Lg) (D : Dk) : Dk := if L.fail = true then D else slD L D
def syL (L : Lg) (D : Dk) : Lg := if L.fail = true then L else if slE L D ≠ 0 then noteL L (slE L D) else { L with syn := nextN L }
/-- The bytes of a file that begins. -/
def newB (L : Lg) (s : Bs) : Bs := frameL (enc (nextN L).toNat) ++ frameL s
def bgE (L : Lg) (D : Dk) (s : Bs) : Int := if 999 < nextF L then 2 else if syE L D ≠ 0 then syE L D else appE (syD L D) (fn L.nm (nextF L)) (newB L s)
def bgD (L : Lg) (D : Dk) (s : Bs) : Dk := if 999 < nextF L then D else if syE L D ≠ 0 then syD L D else appV (syD L D) (fn L.nm (nextF L)) (newB L s)
def bgL (L : Lg) (D : Dk) (s : Bs) : Lg :=
  if 999 < nextF L then L else if syE L D ≠ 0 then syL L D else if appE (syD L D) (fn L.nm (nextF L)) (newB L s) ≠ 0 then syL L D
  else { syL L D with heads := L.heads ++ [nextN L], torn := false }
def wrE (L : Lg) (D : Dk) (s : Bs) : Int := if closedB L = true then bgE L D s else appE D (lastF L) (frameL s)
def wrD (L : Lg) (D : Dk) (s : Bs) : Dk := if closedB L = true then bgD L D s else appV D (lastF L) (frameL s)
def wrL (L : Lg) (D : Dk) (s : Bs) : Lg := if closedB L = true then bgL L D s else L
def apE (L : Lg) (D : Dk) (s : Bs) : Int := if L.fail = true then 14 else if 4096 < s.length then 7 else wrE L D s
def apN (L : Lg) (D : Dk) (s : Bs) : Int := if apE L D s = 0 then nextN L else 0
def apD (L : Lg) (D : Dk) (s : Bs) : Dk := if L.fail = true then D else if 4096 < s.length then D else wrD L D s
def apL (L : Lg) (D : Dk) (s : Bs) : Lg :=
  if L.fail = true then L else if 4096 < s.length then L else if wrE L D s ≠ 0 then noteL (wrL L D s) (wrE L D s) else { wrL L D s with recs := L.recs ++ [s] }
def pastB (L : Lg) (n : Int) : Bool := match L.heads with
  | _ :: h :: _ => decide (h ≤ n)
  | _ => false
def dfE (L : Lg) (D : Dk) : Int := onE D (fn L.nm L.least)
def dfD (L : Lg) (D : Dk) : Dk := remV D (fn L.nm L.least)
def h0 (L : Lg) : Int := (L.heads[0]?).getD 0
def h1 (L : Lg) : Int := (L.heads[1]?).getD 0
def dfV (L : Lg) : Lg := { L with recs := L.recs.drop (h1 L - h0 L).toNat, heads := L.heads.tail, least := L.least + 1 }
def drF : Nat → Lg → Dk → Int → Int × Lg × Dk
  | 0, L, D, _ => (0, L, D)
  | k + 1, L, D, n => if pastB L n = true then (if dfE L D ≠ 0 then (dfE L D, noteL L (dfE L D), dfD L D) else drF k (dfV L) (dfD L D) n) else (0, L, D)
def drV (L : Lg) (D : Dk) (n : Int) : Int × Lg × Dk :=
  if L.fail = true then (14, L, D) else if pastB L n = false then (0, L, D) else if syE L D ≠ 0 then (syE L D, syL L D, syD L D) else drF L.heads.length (syL L D) (syD L D) n
def gtE (L : Lg) (n : Int) : Int := if n < baseN L ∨ nextN L ≤ n then 1 else 0
def gtV (L : Lg) (n : Int) : Bs := if n < baseN L ∨ nextN L ≤ n then [] else (L.recs[(n - baseN L).toNat]?).getD []

/-! ### Opening -/
def numOf (nm f : Bs) : Option Int := if Lib.hasPrefix f nm = true then (if inE (Lib.trimPrefix f nm) 1 999 = 0 then some (inV (Lib.trimPrefix f nm) 1 999) else none) else none
def numsU (nm : Bs) (F : List Fl) : List Int := (F.map Fl.n).filterMap (numOf nm)
def headV (L : Lg) (t : Bs) : Int := if L.heads = [] then (rInt t 0 1099511627776).1 else nextN L
def headB (L : Lg) (t : Bs) : Bool := if L.heads = [] then decide (rEnd (t.drop (rInt t 0 1099511627776).2.1) (rInt t 0 1099511627776).2.2 = 0) else (t == enc (nextN L).toNat)
def textsV (L : Lg) (D : Dk) (k : Int) : List Bs := (frsV (readV D (fn L.nm k))).1
def takeB (L : Lg) (D : Dk) (k : Int) : Bool :=
  if L.heads ≠ [] ∧ k ≠ nextF L then false else match textsV L D k with
    | [] => false
    | t :: _ => headB L t
def takeV (L : Lg) (D : Dk) (k : Int) : Lg :=
  { L with least := if L.heads = [] then k else L.least, heads := L.heads ++ [headV L ((textsV L D k).head?.getD [])], recs := L.recs ++ (textsV L D k).tail, torn := decide ((frsV (readV D (fn L.nm k))).2 < (readV D (fn L.nm k)).length) }
def takesV (D : Dk) : Lg → List Int → Lg
  | L, [] => L
  | L, k :: r => if takeB L D k = true then takesV D (takeV L D k) r else L
def rmV (nm : Bs) : Dk → List Int → Int × Dk
  | D, [] => (0, D)
  | D, k :: r => if onE D (fn nm k) ≠ 0 then (onE D (fn nm k), remV D (fn nm k)) else rmV nm (remV D (fn nm k)) r
def lg0 (nm : Bs) (per : Int) : Lg := ⟨nm, per, 1, [], [], false, 0, false⟩
def isDig (c : UInt8) : Bool := decide (48 ≤ c.toNat ∧ c.toNat ≤ 57)
def chkE (D : Dk) (nm : Bs) (per : Int) : Int :=
  if D.off = true then 14 else if nameB nm = false then 6 else if 8 < nm.length then 6 else if isDig (nm.getLast?.getD 0) = true then 6 else if per < 1 ∨ 64 < per then 1 else 0
/-- What Open tells, the log, the disk; nums: the numbers of the files, in order. -/
def opnV (D : Dk) (nm : Bs) (per : Int) (nums : List Int) : Int × Lg × Dk :=
  if chkE D nm per ≠ 0 then (chkE D nm per, lg0 nm per, D) else
  let L := takesV D (lg0 nm per) nums
  let R := rmV nm D (nums.drop L.heads.length).reverse
  if R.1 ≠ 0 then (R.1, L, R.2) else (syE L R.2, syL L R.2, syD L R.2)

/-! ### What holds of every log -/
structure GoodL (L : Lg) : Prop where
  len : L.nm.length ≤ 8
  lo : 1 ≤ L.least
  hi : nextF L ≤ 1000
  sorted : L.heads.Pairwise (· ≤ ·)
  base : 0 ≤ baseN L
  last : ∀ h ∈ L.heads, h ≤ nextN L
theorem note_fields (L : Lg) (e : Int) : (noteL L e).nm = L.nm ∧ (noteL L e).per = L.per ∧ (noteL L e).least = L.least ∧ (noteL L e).heads = L.heads ∧ (noteL L e).recs = L.recs ∧ (noteL L e).torn = L.torn ∧ (noteL L e).syn = L.syn := by
  unfold noteL
  split <;> exact ⟨rfl, rfl, rfl, rfl, rfl, rfl, rfl⟩
theorem sy_fields (L : Lg) (D : Dk) : (syL L D).nm = L.nm ∧ (syL L D).per = L.per ∧ (syL L D).least = L.least ∧ (syL L D).heads = L.heads ∧ (syL L D).recs = L.recs ∧ (syL L D).torn = L.torn := by
  unfold syL
  split
  · exact ⟨rfl, rfl, rfl, rfl, rfl, rfl⟩
  · split
    · obtain ⟨h1, h2, h3, h4, h5, h6, _⟩ := note_fields L (slE L D)
      exact ⟨h1, h2, h3, h4, h5, h6⟩
    · exact ⟨rfl, rfl, rfl, rfl, rfl, rfl⟩
theorem GoodL.as {L M : Lg} (G : GoodL L) (h1 : M.nm = L.nm) (h2 : M.least = L.least) (h3 : M.heads = L.heads) (h4 : M.recs = L.recs) : GoodL M :=
  ⟨h1 ▸ G.len, h2 ▸ G.lo, by unfold nextF; rw [h2, h3]; exact G.hi, h3 ▸ G.sorted, by unfold baseN; rw [h3]; exact G.base, by unfold nextN baseN; rw [h3, h4]; exact G.last⟩
theorem good_note {L : Lg} (G : GoodL L) (e : Int) : GoodL (noteL L e) := by
  obtain ⟨h1, h2, h3, h4, h5, h6, _⟩ := note_fields L e
  exact G.as h1 h3 h4 h5
theorem good_sy {L : Lg} (G : GoodL L) (D : Dk) : GoodL (syL L D) := by
  obtain ⟨h1, h2, h3, h4, h5, h6⟩ := sy_fields L D
  exact G.as h1 h3 h4 h5
theorem sy_next (L : Lg) (D : Dk) : nextN (syL L D) = nextN L ∧ nextF (syL L D) = nextF L ∧ baseN (syL L D) = baseN L := by
  obtain ⟨h1, h2, h3, h4, h5, h6⟩ := sy_fields L D
  unfold nextN nextF baseN
  rw [h3, h4, h5]
  exact ⟨rfl, rfl, rfl⟩
theorem base_mem {L : Lg} {a : Int} {r : List Int} (h : L.heads = a :: r) : baseN L = a := by unfold baseN; rw [h]; rfl
theorem heads_ge {L : Lg} (G : GoodL L) : ∀ h ∈ L.heads, baseN L ≤ h := by
  intro h hh
  cases e : L.heads with
  | nil => rw [e] at hh; cases hh
  | cons a r =>
    rw [base_mem e]
    rw [e] at hh
    have := G.sorted
    rw [e] at this
    rcases List.mem_cons.1 hh with rfl | hh
    · exact Int.le_refl _
    · exact (List.pairwise_cons.1 this).1 h hh
theorem base_le {L : Lg} (G : GoodL L) : baseN L ≤ nextN L := by unfold nextN; omega
/-- A file more. -/
theorem good_head {L M : Lg} (G : GoodL L) (hF : nextF L ≤ 999) (h1 : M.nm = L.nm) (h2 : M.least = L.least) (h3 : M.heads = L.heads ++ [nextN L]) (hb : L.heads = [] → L.recs = []) (h4 : ∃ r, M.recs = L.recs ++ r) : GoodL M ∧ baseN M = (if L.heads = [] then nextN L else baseN L) := by
  obtain ⟨r, h4⟩ := h4
  have hbase : baseN M = (if L.heads = [] then nextN L else baseN L) := by
    unfold baseN
    rw [h3]
    cases e : L.heads with
    | nil => simp
    | cons a t => simp
  refine ⟨⟨h1 ▸ G.len, h2 ▸ G.lo, ?_, ?_, ?_, ?_⟩, hbase⟩
  · unfold nextF at hF ⊢
    rw [h2, h3, List.length_append]
    simp
    omega
  · rw [h3]
    refine List.pairwise_append.2 ⟨G.sorted, List.pairwise_singleton _ _, fun a ha b hb => ?_⟩
    rw [List.mem_singleton] at hb
    rw [hb]
    exact G.last a ha
  · rw [hbase]
    split
    · have := G.base
      unfold nextN
      omega
    · exact G.base
  · intro h hh
    have hn : nextN M = nextN L + r.length := by
      unfold nextN
      rw [hbase, h4, List.length_append]
      split
      · rename_i he
        rw [hb he]
        unfold nextN
        rw [hb he]
        simp
      · push_cast
        omega
    rw [h3] at hh
    rcases List.mem_append.1 hh with hh | hh
    · have := G.last h hh
      omega
    · rw [List.mem_singleton] at hh
      omega
/-- No file, no record. -/
def Bare (L : Lg) : Prop := L.heads = [] → L.recs = []
theorem good_df {L : Lg} (G : GoodL L) {n : Int} (h : pastB L n = true) : GoodL (dfV L) ∧ 0 ≤ h1 L - h0 L ∧ h1 L - h0 L ≤ L.recs.length ∧ nextN (dfV L) = nextN L ∧ baseN (dfV L) = h1 L ∧ baseN (dfV L) ≤ n := by
  cases e : L.heads with
  | nil => unfold pastB at h; rw [e] at h; cases h
  | cons a t =>
    cases e2 : t with
    | nil => unfold pastB at h; rw [e, e2] at h; cases h
    | cons b r =>
      subst e2
      have hs := G.sorted
      rw [e] at hs
      obtain ⟨s1, s2⟩ := List.pairwise_cons.1 hs
      have hab := s1 b (by simp)
      have hl := G.last b (by rw [e]; simp)
      have hba := base_mem e
      have hn : nextN L = a + L.recs.length := by unfold nextN; rw [hba]
      have hbd : baseN (dfV L) = b := by unfold baseN dfV; rw [e]; rfl
      have e0 : h0 L = a := by unfold h0; rw [e]; rfl
      have e1 : h1 L = b := by unfold h1; rw [e]; rfl
      have hrl : (dfV L).recs.length = L.recs.length - (b - a).toNat := by show (L.recs.drop _).length = _; rw [e0, e1]; simp
      have hnd : nextN (dfV L) = nextN L := by
        rw [hn]
        unfold nextN
        rw [hbd, hrl]
        omega
      have hbn : b ≤ n := by unfold pastB at h; rw [e] at h; simpa using h
      have ha := G.base
      rw [hba] at ha
      refine ⟨⟨G.len, ?_, ?_, ?_, by rw [hbd]; omega, fun x hx => ?_⟩, by rw [e0, e1]; omega, by rw [e0, e1]; omega, hnd, by rw [hbd, e1], by rw [hbd]; exact hbn⟩
      · show 1 ≤ L.least + 1
        have := G.lo
        omega
      · show L.least + 1 + (L.heads.tail.length : Int) ≤ 1000
        have := G.hi
        unfold nextF at this
        rw [e] at this ⊢
        simp at this ⊢
        omega
      · show L.heads.tail.Pairwise _
        rw [e]
        exact s2
      · rw [hnd]
        refine G.last x ?_
        have hx' : x ∈ L.heads.tail := hx
        rw [e] at hx' ⊢
        simp at hx' ⊢
        exact .inr hx'
end Go.Proofs.YtfpmcomigolacaaGreatDoor.wal
