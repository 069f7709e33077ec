/-
  Numbers in digits, as mathematics: what number a word says.
  Records in writing, as mathematics.
-/
import Derived.Lib.ParseIntBTie
import Derived.Lib.ParseIntBCases
import Derived.Lib.AtoiAllCases
import Derived.Lib.ItoaMem
import Derived.Laws.BitsLemmas
import Derived.Test.YtkfjgmfokpgcbaaGreatDoorJWm
import Derived.Test.YtkfjgmfokpgcbaaGreatDoorJTm
import Derived.Lib.Join
namespace Go.Proofs.YtkfjgmfokpgcbaaGreatDoor.words

theorem u8_of {n : Nat} (h : n < 256) : (UInt8.ofNat n).toNat = n := by simp; omega
theorem dig_mem : ∀ (u : Nat) (c : UInt8), c ∈ Lib.decDigits u → 48 ≤ c.toNat ∧ c.toNat ≤ 57 := by
  intro u
  induction u using Nat.strongRecOn with
  | _ u ih =>
    intro c hc
    by_cases h : u < 10
    · rw [Lib.decDigits_one h, List.mem_singleton] at hc
      subst hc
      rw [u8_of (by omega)]
      omega
    · rw [Lib.decDigits, dif_neg h] at hc
      rcases List.mem_append.1 hc with hc | hc
      · exact ih (u / 10) (by omega) c hc
      · rw [List.mem_singleton] at hc
        subst hc
        rw [u8_of (by omega)]
        omega
theorem dec_pos (u : Nat) : Lib.decDigits u ≠ [] := by
  intro e
  have := Lib.decDigits_length u
  have h := Lib.nDigits_pos u
  rw [e] at this
  simp at this
  omega
theorem pm_dig : ∀ (u : Nat), u < 18446744073709551616 → ∀ l, Lib.parseUint10 0 (Lib.decDigits u ++ l) = Lib.parseUint10 u l := by
  intro u
  induction u using Nat.strongRecOn with
  | _ u ih =>
    intro hu l
    by_cases h : u < 10
    · rw [Lib.decDigits_one h]
      have e := u8_of (n := 48 + u) (by omega)
      simp only [List.cons_append, List.nil_append, Lib.parseUint10, e]
      rw [if_pos (by omega), if_neg (by omega), if_neg (by omega), show 0 * 10 + (48 + u - 48) = u by omega]
    · rw [Lib.decDigits, dif_neg h, List.append_assoc, ih (u / 10) (by omega) (by omega)]
      have e := u8_of (n := 48 + u % 10) (by omega)
      simp only [List.cons_append, List.nil_append, Lib.parseUint10, e]
      rw [if_pos (by omega), if_neg (by omega), if_neg (by omega), show u / 10 * 10 + (48 + u % 10 - 48) = u by omega]
theorem mag_dec (u : Nat) (h : u < 18446744073709551616) : Lib.parseMag (Lib.decDigits u) = .ok u := by
  have e := pm_dig u h []
  rw [List.append_nil] at e
  unfold Lib.parseMag
  rw [if_neg (dec_pos u), e, Lib.parseUint10]
theorem parse_itoa (n : Int) (h0 : -9223372036854775808 ≤ n) (h1 : n ≤ 9223372036854775807) : Lib.parseIntB 64 (Lib.itoa n) = .ok n := by
  rw [Lib.parseIntB_64]
  by_cases hn : n < 0
  · obtain ⟨u, hu, rfl⟩ : ∃ u : Nat, 1 ≤ u ∧ n = -(u : Int) := ⟨n.natAbs, by omega, by omega⟩
    rw [Lib.itoa_neg u hu, Lib.atoiAll_minus, mag_dec u (by omega)]
    simp only [Lib.signed]
    rw [if_neg (by omega)]
  · obtain ⟨u, rfl⟩ : ∃ u : Nat, n = (u : Int) := ⟨n.toNat, by omega⟩
    rw [Lib.itoa_nonneg]
    cases hd : Lib.decDigits u with
    | nil => exact absurd hd (dec_pos u)
    | cons c r =>
      have hc := dig_mem u c (by rw [hd]; simp)
      rw [Lib.atoiAll_plain c r (by omega) (by omega), ← hd, mag_dec u (by omega)]
      simp only [Lib.signless]
      rw [if_neg (by omega)]
/-- The number that a word says. -/
def sgP (w : Bs) : Option Int := match Lib.parseIntB 64 w with
  | .ok v => if Lib.itoa v = w then some v else none
  | _ => none
def sgV (w : Bs) : Int := (sgP w).getD 0
def sgE (w : Bs) : Int := if (sgP w).isSome then 0 else 6
theorem sg_itoa (n : Int) (h0 : -9223372036854775808 ≤ n) (h1 : n ≤ 9223372036854775807) : sgP (Lib.itoa n) = some n := by
  unfold sgP
  rw [parse_itoa n h0 h1]
  simp
theorem sg_some {w : Bs} {v : Int} (h : sgP w = some v) : Lib.itoa v = w ∧ -9223372036854775808 ≤ v ∧ v ≤ 9223372036854775807 := by
  unfold sgP at h
  split at h
  · rename_i u hu
    split at h
    · simp at h
      subst h
      have := Lib.parseIntB_bounds hu
      exact ⟨by assumption, by omega, by omega⟩
    · cases h
  · cases h
theorem sg_none {w : Bs} (h : sgP w = none) {n : Int} (h0 : -9223372036854775808 ≤ n) (h1 : n ≤ 9223372036854775807) : Lib.itoa n ≠ w := by
  intro e
  rw [← e, sg_itoa n h0 h1] at h
  cases h
theorem sg_no {w : Bs} (h : ∀ n : Int, -9223372036854775808 ≤ n → n ≤ 9223372036854775807 → Lib.itoa n ≠ w) : sgP w = none := by
  cases hp : sgP w with
  | none => rfl
  | some v =>
    obtain ⟨e, h0, h1⟩ := sg_some hp
    exact absurd e (h v h0 h1)
theorem sg_bounds (w : Bs) : -9223372036854775808 ≤ sgV w ∧ sgV w ≤ 9223372036854775807 := by
  unfold sgV
  cases h : sgP w with
  | none => simp
  | some v => exact (sg_some h).2
theorem sgE_some {w : Bs} {v : Int} (h : sgP w = some v) : sgE w = 0 ∧ sgV w = v := by simp [sgE, sgV, h]
theorem sgE_none {w : Bs} (h : sgP w = none) : sgE w = 6 ∧ sgV w = 0 := by simp [sgE, sgV, h]
theorem sgE_cases (w : Bs) : sgE w = 0 ∨ sgE w = 6 := by unfold sgE; split <;> simp
/-! ### The number from low to high -/
def inE (w : Bs) (low high : Int) : Int := if sgE w ≠ 0 then sgE w else if sgV w < low ∨ high < sgV w then 1 else 0
def inV (w : Bs) (low high : Int) : Int := if sgE w ≠ 0 then 0 else if sgV w < low ∨ high < sgV w then 0 else sgV w

/-! ### Digits one by one -/
/-- What digits come to. -/
def dval (l : Bs) : Nat := l.foldl (fun a c => a * 10 + (c.toNat - 48)) 0
theorem dval_snoc (l : Bs) (c : UInt8) : dval (l ++ [c]) = dval l * 10 + (c.toNat - 48) := by unfold dval; rw [List.foldl_append]; rfl
theorem dval_dec (u : Nat) : dval (Lib.decDigits u) = u := by
  induction u using Nat.strongRecOn with
  | _ u ih =>
    by_cases h : u < 10
    · rw [Lib.decDigits_one h]
      have e := u8_of (n := 48 + u) (by omega)
      simp only [dval, List.foldl_cons, List.foldl_nil, e]
      omega
    · rw [Lib.decDigits, dif_neg h, dval_snoc, ih (u / 10) (by omega), u8_of (by omega)]
      omega
theorem nDigits_le : ∀ (k u : Nat), u < 10 ^ (k + 1) → Lib.nDigits u ≤ k + 1
  | 0, u, h => by rw [Lib.nDigits_small (by simpa using h)]; omega
  | k + 1, u, h => by
    by_cases hu : u < 10
    · rw [Lib.nDigits_small hu]; omega
    · rw [Lib.nDigits_big hu]
      have := nDigits_le k (u / 10) (by rw [Nat.pow_succ] at h; omega)
      omega
/-- Where a number's digits begin: behind a minus sign. -/
def frontN (w : Bs) : Nat := if w.head? = some 45 then 1 else 0
theorem itoa_shape (n : Int) (h0 : -9223372036854775808 ≤ n) (h1 : n ≤ 9223372036854775807) : (Lib.itoa n).length ≤ 20 ∧ (∀ c ∈ (Lib.itoa n).drop (frontN (Lib.itoa n)), 48 ≤ c.toNat ∧ c.toNat ≤ 57) ∧ dval ((Lib.itoa n).drop (frontN (Lib.itoa n))) = n.natAbs ∧ (frontN (Lib.itoa n) = 1 ↔ n < 0) := by
  by_cases hn : n < 0
  · obtain ⟨u, hu, rfl⟩ : ∃ u : Nat, 1 ≤ u ∧ n = -(u : Int) := ⟨n.natAbs, by omega, by omega⟩
    have e : frontN (45 :: Lib.decDigits u) = 1 := by simp [frontN]
    rw [Lib.itoa_neg u hu, e]
    have hl := nDigits_le 18 u (by omega)
    refine ⟨by rw [List.length_cons, Lib.decDigits_length]; omega, ?_, ?_, by simp; omega⟩
    · exact fun c hc => dig_mem u c (by simpa using hc)
    · simp [dval_dec]
  · obtain ⟨u, rfl⟩ : ∃ u : Nat, n = (u : Int) := ⟨n.toNat, by omega⟩
    rw [Lib.itoa_nonneg]
    have hl := nDigits_le 18 u (by omega)
    have e : frontN (Lib.decDigits u) = 0 := by
      cases hd : Lib.decDigits u with
      | nil => rfl
      | cons c r =>
        have hc := dig_mem u c (by rw [hd]; simp)
        have : c ≠ 45 := by rintro rfl; exact absurd hc.1 (by decide)
        simp [frontN, this]
    rw [e]
    refine ⟨by rw [Lib.decDigits_length]; omega, ?_, ?_, by simp⟩
    · exact fun c hc => dig_mem u c (by simpa using hc)
    · simp [dval_dec]
theorem sg_long {w : Bs} (h : 20 < w.length) : sgP w = none :=
  sg_no fun n h0 h1 e => by have := (itoa_shape n h0 h1).1; rw [e] at this; omega
theorem sg_odd {w : Bs} {c : UInt8} (hc : c ∈ w.drop (frontN w)) (h : ¬ (48 ≤ c.toNat ∧ c.toNat ≤ 57)) : sgP w = none :=
  sg_no fun n h0 h1 e => by have := (itoa_shape n h0 h1).2.1; rw [e] at this; exact h (this c hc)
theorem wrap_bounds (m : Int) : -9223372036854775808 ≤ IntKind.i64.wrap m ∧ IntKind.i64.wrap m ≤ 9223372036854775807 := by
  rw [IntKind.wrap_i64]
  omega
/-- The number that the digits come to, if there is any. -/
theorem sg_fin0 {w : Bs} (hf : frontN w = 0) {m : Int} (hm : m = ((dval w % 18446744073709551616 : Nat) : Int)) : sgP w = if Lib.itoa (IntKind.i64.wrap m) = w then some (IntKind.i64.wrap m) else none := by
  have hb := wrap_bounds m
  by_cases hi : Lib.itoa (IntKind.i64.wrap m) = w
  · rw [if_pos hi, ← hi]
    exact sg_itoa _ hb.1 hb.2
  · rw [if_neg hi]
    refine sg_no fun n h0 h1 e => hi ?_
    obtain ⟨-, -, h2, h3⟩ := itoa_shape n h0 h1
    rw [e, hf] at h2 h3
    rw [List.drop_zero] at h2
    have hn : ¬ n < 0 := fun h => by have := h3.2 h; omega
    have hx : IntKind.i64.wrap m = n := by rw [hm, h2, IntKind.wrap_i64]; omega
    rw [hx]
    exact e
theorem sg_fin1 {w : Bs} (hf : frontN w = 1) {m : Int} (hm : m = ((dval (w.drop 1) % 18446744073709551616 : Nat) : Int)) : sgP w = if Lib.itoa (IntKind.i64.wrap (-(IntKind.i64.wrap m))) = w then some (IntKind.i64.wrap (-(IntKind.i64.wrap m))) else none := by
  have hb := wrap_bounds (-(IntKind.i64.wrap m))
  by_cases hi : Lib.itoa (IntKind.i64.wrap (-(IntKind.i64.wrap m))) = w
  · rw [if_pos hi]
    have := sg_itoa _ hb.1 hb.2
    rwa [hi] at this
  · rw [if_neg hi]
    refine sg_no fun n h0 h1 e => hi ?_
    obtain ⟨-, -, h2, h3⟩ := itoa_shape n h0 h1
    rw [e, hf] at h2 h3
    have hn : n < 0 := h3.1 rfl
    have hx : IntKind.i64.wrap (-(IntKind.i64.wrap m)) = n := by rw [hm, h2, IntKind.wrap_i64, IntKind.wrap_i64]; omega
    rw [hx]
    exact e
theorem sgE_of {w : Bs} {n : Int} (h : sgP w = if Lib.itoa n = w then some n else none) : (Lib.itoa n = w → sgE w = 0 ∧ sgV w = n) ∧ (Lib.itoa n ≠ w → sgE w = 6 ∧ sgV w = 0) := by
  refine ⟨fun e => sgE_some (by rw [h, if_pos e]), fun e => sgE_none (by rw [h, if_neg e])⟩
end Go.Proofs.YtkfjgmfokpgcbaaGreatDoor.words
namespace Go.Proofs.YtkfjgmfokpgcbaaGreatDoor.data
open Go.Proofs.YtkfjgmfokpgcbaaGreatDoor.words

/-- What stands between the commas of a text, with what the first part has already. -/
def cutsC : Bs → Bs → List Bs
  | w, [] => [w]
  | w, c :: r => if c = 44 then w :: cutsC [] r else cutsC (w ++ [c]) r
def cutsL (s : Bs) : List Bs := cutsC [] s
theorem cutsC_app : ∀ (a : Bs) (w r : Bs), (44 : UInt8) ∉ a → cutsC w (a ++ r) = cutsC (w ++ a) r
  | [], w, r, _ => by simp
  | c :: a, w, r, h => by
    have h1 : c ≠ 44 := fun e => h (by simp [e])
    have h2 : (44 : UInt8) ∉ a := fun e => h (by simp [e])
    rw [List.cons_append, cutsC, if_neg h1, cutsC_app a _ r h2, List.append_assoc]
    rfl
theorem cuts_pos (w s : Bs) : cutsC w s ≠ [] := by
  induction s generalizing w with
  | nil => simp [cutsC]
  | cons c r ih =>
    rw [cutsC]
    split
    · simp
    · exact ih _
theorem cuts_yes {l : Bs} {a b : Bs} (h : Lib.cut l [44] = (a, b, true)) : cutsL l = a :: cutsL b ∧ l = a ++ 44 :: b ∧ (44 : UInt8) ∉ a := by
  unfold cutsL
  rcases cut_one l 44 with ⟨a', b', rfl, ha, e⟩ | ⟨hn, e⟩
  · rw [h] at e
    injection e with e1 e2
    injection e2 with e3 e4
    subst e1 e3
    rw [cutsC_app a [] _ ha, cutsC, if_pos rfl]
    exact ⟨rfl, rfl, ha⟩
  · rw [h] at e
    injection e with e1 e2
    injection e2 with e3 e4
    cases e4
theorem cuts_no {l : Bs} (h : (44 : UInt8) ∉ l) : cutsL l = [l] := by
  unfold cutsL
  have := cutsC_app l [] [] h
  rw [List.append_nil] at this
  rw [this]
  rfl
theorem cut_uniq {x : UInt8} : ∀ {a a' b b' : Bs}, a ++ x :: b = a' ++ x :: b' → x ∉ a → x ∉ a' → a = a' ∧ b = b'
  | [], [], b, b', h, _, _ => by simpa using h
  | [], c :: a', b, b', h, _, h2 => by
    simp at h
    exact absurd h.1 (fun e => h2 (by simp [e]))
  | c :: a, [], b, b', h, h1, _ => by
    simp at h
    exact absurd h.1 (fun e => h1 (by simp [e]))
  | c :: a, c' :: a', b, b', h, h1, h2 => by
    simp only [List.cons_append, List.cons.injEq] at h
    obtain ⟨e1, e2⟩ := cut_uniq h.2 (fun e => h1 (by simp [e])) (fun e => h2 (by simp [e]))
    exact ⟨by rw [h.1, e1], e2⟩
theorem cut_at {x : UInt8} {a b : Bs} (h : x ∉ a) : Lib.cut (a ++ x :: b) [x] = (a, b, true) := by
  rcases cut_one (a ++ x :: b) x with ⟨a', b', e, ha, e2⟩ | ⟨hn, e⟩
  · obtain ⟨e3, e4⟩ := cut_uniq e h ha
    rw [e2, ← e3, ← e4]
  · exact absurd (by simp) hn
theorem cut_not {x : UInt8} {l : Bs} (h : x ∉ l) : Lib.cut l [x] = (l, [], false) := by
  rcases cut_one l x with ⟨a', b', e, ha, e2⟩ | ⟨hn, e⟩
  · exact absurd (by rw [e]; simp) h
  · exact e
/-- The record of a text. -/
def recP (w : Bs) : Option Rc := if (Lib.cut w [58]).2.2 = true then (match sgP (Lib.cut w [58]).1, sgP (Lib.cut w [58]).2.1 with
  | some k, some v => some ⟨k, v⟩
  | _, _ => none) else none
/-- The records of texts. -/
def recs : List Bs → Option (List Rc)
  | [] => some []
  | w :: l => match recP w, recs l with
    | some r, some L => some (r :: L)
    | _, _ => none
theorem recs_len : ∀ {P : List Bs} {L : List Rc}, recs P = some L → L.length = P.length
  | [], L, h => by simp [recs] at h; simp [← h]
  | w :: l, L, h => by
    rw [recs] at h
    cases h1 : recP w with
    | none => simp [h1] at h
    | some r =>
      cases h2 : recs l with
      | none => simp [h1, h2] at h
      | some M =>
        simp [h1, h2] at h
        rw [← h]
        simp [recs_len h2]
theorem recs_app : ∀ (P : List Bs) (w : Bs), recs (P ++ [w]) = match recs P, recP w with
    | some L, some r => some (L ++ [r])
    | _, _ => none
  | [], w => by
    simp only [List.nil_append, recs]
    cases recP w <;> rfl
  | p :: P, w => by
    rw [List.cons_append, recs, recs_app P w, recs]
    cases recP p <;> cases recs P <;> cases recP w <;> rfl
theorem recs_some {P : List Bs} {w : Bs} {L : List Rc} {r : Rc} (h : recs P = some L) (hr : recP w = some r) : recs (P ++ [w]) = some (L ++ [r]) := by rw [recs_app, h, hr]
theorem recs_none {P : List Bs} {w : Bs} (hr : recP w = none) : ∀ Q, recs (P ++ w :: Q) = none := by
  intro Q
  induction P with
  | nil =>
    rw [List.nil_append, recs, hr]
  | cons p P ih =>
    rw [List.cons_append, recs, ih]
    cases recP p <;> rfl
theorem recP_in {w : Bs} {r : Rc} (h : recP w = some r) : r.In := by
  unfold recP at h
  split at h
  · cases h1 : sgP (Lib.cut w [58]).1 with
    | none => simp [h1] at h
    | some k =>
      cases h2 : sgP (Lib.cut w [58]).2.1 with
      | none => simp [h1, h2] at h
      | some v =>
        simp [h1, h2] at h
        rw [← h]
        exact ⟨(sg_some h1).2, (sg_some h2).2⟩
  · cases h
theorem recs_in : ∀ {P : List Bs} {L : List Rc}, recs P = some L → InR L
  | [], L, h => by simp [recs] at h; subst h; intro r hr; cases hr
  | w :: l, L, h => by
    rw [recs] at h
    cases h1 : recP w with
    | none => simp [h1] at h
    | some r =>
      cases h2 : recs l with
      | none => simp [h1, h2] at h
      | some M =>
        simp [h1, h2] at h
        subst h
        intro x hx
        rcases List.mem_cons.1 hx with rfl | hx
        · exact recP_in h1
        · exact recs_in h2 x hx
/-- What data.Parse answers. -/
def prsV (s : Bs) : List Rc := if s = [45] then [] else match recs (cutsL s) with
  | none => []
  | some L => if 64 < L.length then [] else L
def prsE (s : Bs) : Int := if s = [45] then 0 else match recs (cutsL s) with
  | none => 6
  | some L => if 64 < L.length then 7 else 0
theorem prs_dash : prsV [45] = [] ∧ prsE [45] = 0 := ⟨by simp [prsV], by simp [prsE]⟩
theorem prs_none {s : Bs} (h : s ≠ [45]) (hr : recs (cutsL s) = none) : prsV s = [] ∧ prsE s = 6 := ⟨by simp [prsV, h, hr], by simp [prsE, h, hr]⟩
theorem prs_long {s : Bs} {L : List Rc} (h : s ≠ [45]) (hr : recs (cutsL s) = some L) (hl : 64 < L.length) : prsV s = [] ∧ prsE s = 7 := ⟨by simp [prsV, h, hr, hl], by simp [prsE, h, hr, hl]⟩
theorem prs_some {s : Bs} {L : List Rc} (h : s ≠ [45]) (hr : recs (cutsL s) = some L) (hl : ¬ 64 < L.length) : prsV s = L ∧ prsE s = 0 := ⟨by simp [prsV, h, hr, hl], by simp [prsE, h, hr, hl]⟩
theorem prs_in (s : Bs) : InR (prsV s) := by
  unfold prsV
  split
  · intro r hr; cases hr
  · split
    · intro r hr; cases hr
    · rename_i L hL
      split
      · intro r hr; cases hr
      · exact recs_in hL
theorem prs_len (s : Bs) : (prsV s).length ≤ 64 := by
  unfold prsV
  split
  · simp
  · split
    · simp
    · split
      · simp
      · omega
/-! ### In writing -/
def txtR (r : Rc) : Bs := Lib.itoa r.k ++ 58 :: Lib.itoa r.v
def txtL (L : List Rc) : Bs := if L = [] then [45] else Lib.join (L.map txtR) [44]
theorem digits_in (u : Nat) : ∀ c ∈ Lib.decDigits u, 48 ≤ c.toNat ∧ c.toNat ≤ 57 := by
  induction u using Nat.strongRecOn with
  | _ u ih =>
    intro c hc
    rw [Lib.decDigits] at hc
    split at hc
    · simp at hc
      subst hc
      simp
      omega
    · rw [List.mem_append] at hc
      rcases hc with hc | hc
      · exact ih (u / 10) (by omega) c hc
      · simp at hc
        subst hc
        simp
        omega
theorem itoa_in (n : Int) : ∀ c ∈ Lib.itoa n, c = 45 ∨ (48 ≤ c.toNat ∧ c.toNat ≤ 57) := by
  intro c hc
  unfold Lib.itoa at hc
  split at hc
  · rcases List.mem_cons.1 hc with rfl | hc
    · exact .inl rfl
    · exact .inr (digits_in _ c hc)
  · exact .inr (digits_in _ c hc)
theorem itoa_out (n : Int) : (44 : UInt8) ∉ Lib.itoa n ∧ (58 : UInt8) ∉ Lib.itoa n := by
  constructor
  · intro h
    rcases itoa_in n _ h with h | h
    · cases h
    · simp at h
  · intro h
    rcases itoa_in n _ h with h | h
    · cases h
    · simp at h
theorem txtR_out (r : Rc) : (44 : UInt8) ∉ txtR r := by
  unfold txtR
  intro h
  rw [List.mem_append, List.mem_cons] at h
  rcases h with h | h | h
  · exact (itoa_out _).1 h
  · cases h
  · exact (itoa_out _).1 h
theorem rec_txt {r : Rc} (h : r.In) : recP (txtR r) = some r := by
  unfold recP txtR
  rw [cut_at (itoa_out r.k).2, if_pos rfl, sg_itoa _ h.1.1 h.1.2, sg_itoa _ h.2.1 h.2.2]
theorem recs_txt : ∀ {L : List Rc}, InR L → recs (L.map txtR) = some L
  | [], _ => rfl
  | r :: L, h => by
    rw [List.map_cons, recs, rec_txt (h r (by simp)), recs_txt (L := L) fun x hx => h x (by simp [hx])]
theorem join_more (x y : Bs) (r : List Bs) : Lib.join (x :: y :: r) [44] = x ++ 44 :: Lib.join (y :: r) [44] := by
  rw [Lib.join_cons, Lib.join_cons]
  simp [Lib.joinTail]
theorem cuts_join : ∀ {P : List Bs}, P ≠ [] → (∀ p ∈ P, (44 : UInt8) ∉ p) → cutsL (Lib.join P [44]) = P
  | [], h, _ => absurd rfl h
  | [p], _, h => by
    rw [Lib.join_one]
    exact cuts_no (h p (by simp))
  | p :: q :: P, _, h => by
    rw [join_more]
    rw [(cuts_yes (cut_at (h p (by simp)))).1, cuts_join (P := q :: P) (by simp) fun x hx => h x (by simp [hx])]
theorem join_colon {r : Rc} {L : List Rc} : (58 : UInt8) ∈ Lib.join ((r :: L).map txtR) [44] := by
  rw [List.map_cons, Lib.join_cons, List.mem_append]
  exact .inl (by unfold txtR; simp)
/-- What is written is read as it was. -/
theorem recs_text {L : List Rc} (hL : InR L) (h : L ≠ []) : txtL L ≠ [45] ∧ recs (cutsL (txtL L)) = some L := by
  obtain ⟨r, M, rfl⟩ := List.exists_cons_of_ne_nil h
  unfold txtL
  rw [if_neg h]
  constructor
  · intro e
    have := join_colon (r := r) (L := M)
    rw [e] at this
    simp at this
  · rw [cuts_join (by simp) (fun p hp => ?_)]
    · exact recs_txt hL
    · obtain ⟨x, -, rfl⟩ := List.mem_map.1 hp
      exact txtR_out x
end Go.Proofs.YtkfjgmfokpgcbaaGreatDoor.data
