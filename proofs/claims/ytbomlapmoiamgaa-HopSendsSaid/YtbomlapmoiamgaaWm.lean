/-
  Lines, words, names and options of a text, as mathematics of lists of bytes.
-/
import Derived.Lib.IndexMore
import Derived.Lib.IndexLaws
import Derived.Lib.IndexBytes
import Derived.Lib.Strings
set_option linter.unusedSimpArgs false
set_option linter.unusedVariables false
namespace Go.Proofs.Ytbomlapmoiamgaa.words

abbrev Bs : Type := List UInt8
/-- The lines of a text, with what the first one has already. -/
def linesC : Bs → Bs → List Bs
  | w, [] => if w = [] then [] else [w]
  | w, c :: r => if c = 10 then w :: linesC [] r else linesC (w ++ [c]) r
/-- The words of a line, with what the first one has already. -/
def splitC : Bs → Bs → List Bs
  | w, [] => if w = [] then [] else [w]
  | w, c :: r => if c = 32 then (if w = [] then splitC [] r else w :: splitC [] r) else if w = [] ∧ c = 35 then [] else splitC (w ++ [c]) r
def linesL (s : Bs) : List Bs := linesC [] s
def splitL (s : Bs) : List Bs := splitC [] s

theorem cut_one (l : Bs) (x : UInt8) : (∃ a b, l = a ++ x :: b ∧ x ∉ a ∧ Lib.cut l [x] = (a, b, true)) ∨ (x ∉ l ∧ Lib.cut l [x] = (l, [], false)) := by
  unfold Lib.cut
  rw [Lib.index_one]
  by_cases h : Lib.indexByte l x = -1
  · right
    have hn := Lib.indexByte_none h
    refine ⟨fun hm => ?_, ?_⟩
    · obtain ⟨i, hi⟩ := List.getElem?_of_mem hm
      exact hn i hi
    · rw [h]; simp
  · left
    obtain ⟨i, hi⟩ : ∃ i : Nat, Lib.indexByte l x = i := by
      have hge := Lib.index_ge l [x]
      rw [Lib.index_one] at hge
      exact ⟨(Lib.indexByte l x).toNat, by omega⟩
    obtain ⟨h1, h2⟩ := Lib.indexByte_some hi
    have hlt := (List.getElem?_eq_some_iff.1 h1).1
    refine ⟨l.take i, l.drop (i + 1), ?_, ?_, ?_⟩
    · have hd : l.drop i = x :: l.drop (i + 1) := by
        rw [List.drop_eq_getElem_cons hlt]
        rw [List.getElem?_eq_getElem hlt] at h1
        simp at h1
        rw [h1]
      rw [← hd, List.take_append_drop]
    · intro hm
      obtain ⟨k, hk⟩ := List.getElem?_of_mem hm
      rw [List.getElem?_take] at hk
      split at hk
      · exact h2 k (by assumption) hk
      · cases hk
    · rw [hi]
      simp

theorem linesC_app : ∀ (a : Bs) (w r : Bs), (10 : UInt8) ∉ a → linesC w (a ++ r) = linesC (w ++ a) r
  | [], w, r, _ => by simp
  | c :: a, w, r, h => by
    have h1 : c ≠ 10 := fun e => h (by simp [e])
    have h2 : (10 : UInt8) ∉ a := fun e => h (by simp [e])
    rw [List.cons_append, linesC, if_neg h1, linesC_app a _ r h2, List.append_assoc]
    rfl
/-- One line, and those behind it. -/
theorem lines_cut {l : Bs} (h : l ≠ []) : linesL l = (Lib.cut l [10]).1 :: linesL (Lib.cut l [10]).2.1 := by
  unfold linesL
  rcases cut_one l 10 with ⟨a, b, rfl, ha, e⟩ | ⟨hn, e⟩
  · rw [e, linesC_app a [] _ ha, linesC, if_pos rfl]
    rfl
  · rw [e]
    have := linesC_app l [] [] hn
    rw [List.append_nil] at this
    rw [this, linesC, if_neg (by simpa using h)]
    rfl
theorem cut_less {l : Bs} (h : l ≠ []) (x : UInt8) : (Lib.cut l [x]).2.1.length < l.length := by
  rcases cut_one l x with ⟨a, b, rfl, ha, e⟩ | ⟨hn, e⟩
  · rw [e]; simp; omega
  · rw [e]
    exact List.length_pos_iff.2 h
theorem cut_fst (l : Bs) (x : UInt8) : (Lib.cut l [x]).1.length ≤ l.length := by
  rcases cut_one l x with ⟨a, b, rfl, ha, e⟩ | ⟨hn, e⟩
  · rw [e]; simp
  · rw [e]; exact Nat.le_refl _
theorem lines_nil : linesL [] = [] := rfl
theorem split_nil : splitL [] = [] := rfl

theorem splitC_app : ∀ (a : Bs) (w r : Bs), (32 : UInt8) ∉ a → w ≠ [] → splitC w (a ++ r) = splitC (w ++ a) r
  | [], w, r, _, _ => by simp
  | c :: a, w, r, h, hw => by
    have h1 : c ≠ 32 := fun e => h (by simp [e])
    have h2 : (32 : UInt8) ∉ a := fun e => h (by simp [e])
    rw [List.cons_append, splitC, if_neg h1, if_neg (fun e => hw e.1), splitC_app a _ r h2 (by simp), List.append_assoc]
    rfl
/-- A word's beginning tells a comment. -/
def isNote (a : Bs) : Bool := Lib.hasPrefix a [35]
theorem isNote_cons (c : UInt8) (a : Bs) : isNote (c :: a) = decide (c = 35) := by
  unfold isNote Lib.hasPrefix
  by_cases h : c = 35
  · subst h; simp [List.isPrefixOf]
  · simp [List.isPrefixOf, h]
    exact fun e => h e.symm
theorem splitC_word (a : Bs) (r : Bs) (h : (32 : UInt8) ∉ a) (hn : isNote a = false) (ha : a ≠ []) : splitC [] (a ++ r) = splitC a r := by
  cases a with
  | nil => exact absurd rfl ha
  | cons c a =>
    have h1 : c ≠ 32 := fun e => h (by simp [e])
    have h2 : (32 : UInt8) ∉ a := fun e => h (by simp [e])
    rw [isNote_cons] at hn
    have h3 : c ≠ 35 := by simpa using hn
    rw [List.cons_append, splitC, if_neg h1, if_neg (fun e => h3 e.2), List.nil_append, splitC_app a [c] r h2 (by simp)]
    rfl
theorem splitC_note (a : Bs) (r : Bs) (hn : isNote a = true) : splitC [] (a ++ r) = [] := by
  cases a with
  | nil => simp [isNote, Lib.hasPrefix, List.isPrefixOf] at hn
  | cons c a =>
    rw [isNote_cons] at hn
    have h3 : c = 35 := by simpa using hn
    subst h3
    rw [List.cons_append, splitC, if_neg (by decide), if_pos ⟨rfl, rfl⟩]
/-- One word, and those behind it. -/
theorem split_cut (l : Bs) : splitL l = if isNote (Lib.cut l [32]).1 then [] else if (Lib.cut l [32]).1 = [] then splitL (Lib.cut l [32]).2.1 else (Lib.cut l [32]).1 :: splitL (Lib.cut l [32]).2.1 := by
  unfold splitL
  rcases cut_one l 32 with ⟨a, b, rfl, ha, e⟩ | ⟨hn, e⟩
  · rw [e]
    dsimp only
    cases hx : isNote a
    · rw [if_neg (by simp)]
      by_cases h0 : a = []
      · subst h0
        rw [if_pos rfl, List.nil_append, splitC, if_pos rfl, if_pos rfl]
      · rw [if_neg h0, splitC_word a _ ha hx h0, splitC, if_pos rfl, if_neg h0]
    · rw [if_pos rfl, splitC_note a _ hx]
  · rw [e]
    dsimp only
    cases hx : isNote l
    · rw [if_neg (by simp)]
      by_cases h0 : l = []
      · subst h0
        rfl
      · have := splitC_word l [] hn hx h0
        rw [List.append_nil] at this
        rw [if_neg h0, this, splitC, if_neg h0]
        rfl
    · rw [if_pos rfl]
      have := splitC_note l [] hx
      rwa [List.append_nil] at this

/-! ### Words that are put together -/
def spaces (k : Nat) : Bs := List.replicate k 32
theorem split_spaces (k : Nat) (r : Bs) : splitC [] (spaces k ++ r) = splitC [] r := by
  induction k with
  | zero => rfl
  | succ k ih =>
    show splitC [] (32 :: (spaces k ++ r)) = _
    rw [splitC, if_pos rfl, if_pos rfl, ih]
/-- What a word is asked to be, and a line. -/
structure Plain (x : Bs) : Prop where
  some : x ≠ []
  note : isNote x = false
  space : (32 : UInt8) ∉ x
  line : (10 : UInt8) ∉ x
def spread (k : Nat) : List Bs → Bs
  | [] => []
  | x :: r => spaces k ++ (x ++ spread k r)
def lined : List Bs → Bs
  | [] => []
  | x :: r => x ++ 10 :: lined r
theorem spread_snoc (k : Nat) (x : Bs) : ∀ N : List Bs, spread k (N ++ [x]) = spread k N ++ (spaces k ++ x)
  | [] => by simp [spread]
  | y :: r => by simp [spread, spread_snoc k x r]
theorem lined_snoc (x : Bs) : ∀ N : List Bs, lined (N ++ [x]) = lined N ++ (x ++ [10])
  | [] => by simp [lined]
  | y :: r => by simp [lined, lined_snoc x r]
theorem split_spread (k : Nat) (t : Bs) (ht : splitC [] (32 :: t) = []) (t0 : t = [] ∨ t.head? = some 32) : ∀ N : List Bs, (∀ x ∈ N, Plain x) → splitL (spread (k + 1) N ++ t) = N
  | [], _ => by
    show splitC [] t = []
    rwa [splitC, if_pos rfl, if_pos rfl] at ht
  | x :: r, h => by
    have hx := h x (by simp)
    have ih := split_spread k t ht t0 r (fun y hy => h y (by simp [hy]))
    unfold splitL at ih ⊢
    rw [spread, List.append_assoc, split_spaces, List.append_assoc, splitC_word x _ hx.space hx.note hx.some]
    have front : ∃ z, spread (k + 1) r ++ t = 32 :: z ∨ spread (k + 1) r ++ t = [] := by
      cases r with
      | nil =>
        rcases t0 with rfl | h0
        · exact ⟨[], .inr rfl⟩
        · cases t with
          | nil => exact ⟨[], .inr rfl⟩
          | cons c t =>
            simp at h0
            subst h0
            exact ⟨t, .inl rfl⟩
      | cons y q => exact ⟨spaces k ++ (y ++ spread (k + 1) q) ++ t, .inl rfl⟩
    obtain ⟨z, hz | hz⟩ := front
    · rw [hz] at ih ⊢
      rw [splitC, if_pos rfl, if_neg hx.some]
      rw [splitC, if_pos rfl, if_pos rfl] at ih
      rw [ih]
    · rw [hz] at ih ⊢
      rw [splitC, if_neg hx.some]
      rw [← ih]
      rfl
theorem lines_lined : ∀ N : List Bs, (∀ x ∈ N, Plain x) → linesL (lined N) = N
  | [], _ => rfl
  | x :: r, h => by
    have hx := h x (by simp)
    have ih := lines_lined r (fun y hy => h y (by simp [hy]))
    unfold linesL at ih ⊢
    rw [lined, linesC_app x [] _ hx.line, linesC, if_pos rfl, ih]
    rfl
theorem spread_len (k m : Nat) : ∀ N : List Bs, (∀ x ∈ N, x.length ≤ m) → (spread k N).length ≤ N.length * (k + m)
  | [], _ => by simp [spread]
  | x :: r, h => by
    have ih := spread_len k m r (fun y hy => h y (by simp [hy]))
    have := h x (by simp)
    rw [spread, List.length_append, List.length_append, List.length_cons, spaces, List.length_replicate, Nat.add_mul]
    omega
theorem lined_len (m : Nat) : ∀ N : List Bs, (∀ x ∈ N, x.length ≤ m) → (lined N).length ≤ N.length * (1 + m)
  | [], _ => by simp [lined]
  | x :: r, h => by
    have ih := lined_len m r (fun y hy => h y (by simp [hy]))
    have := h x (by simp)
    rw [lined, List.length_append, List.length_cons, List.length_cons, Nat.add_mul]
    omega

/-! ### Names -/
def isA (c : UInt8) : Bool := decide (97 ≤ c.toNat ∧ c.toNat ≤ 122)
def isD (c : UInt8) : Bool := decide (48 ≤ c.toNat ∧ c.toNat ≤ 57)
/-- Whether all bytes may stand in a name, and the first one at its front. -/
def nameB (w : Bs) : Bool := decide (w.length ≤ 12) && (match w with
  | [] => false
  | c :: r => isA c && r.all fun x => isA x || isD x)

/-! ### Options -/
def optF (name x : Bs) : Bool := Lib.hasPrefix x (name ++ [61])
def optL (name : Bs) : List Bs → Bs × Bool
  | [] => ([], false)
  | x :: r => if optF name x then (x.drop (name.length + 1), true) else optL name r
theorem opt_take {name : Bs} : ∀ {l : List Bs} {k : Nat}, (∀ x ∈ l.take k, optF name x = false) → optL name l = optL name (l.drop k)
  | l, 0, _ => by simp
  | [], k + 1, _ => by simp
  | x :: r, k + 1, h => by
    have h0 := h x (by simp)
    rw [optL, h0, if_neg (by simp), List.drop_succ_cons]
    exact opt_take fun y hy => h y (by simp [hy])
/-- The words that have been looked at have none. -/
theorem opt_at {name : Bs} {l : List Bs} {k : Nat} {x : Bs} (h : ∀ y ∈ l.take k, optF name y = false) (hx : l[k]? = some x) (hf : optF name x = true) : optL name l = (x.drop (name.length + 1), true) := by
  rw [opt_take h]
  obtain ⟨hl, e⟩ := List.getElem?_eq_some_iff.1 hx
  rw [List.drop_eq_getElem_cons hl, e, optL, hf, if_pos rfl]
theorem opt_none {name : Bs} {l : List Bs} (h : ∀ y ∈ l, optF name y = false) : optL name l = ([], false) := by
  rw [opt_take (k := l.length) (by rw [List.take_length]; exact h), List.drop_length]
  rfl
theorem opt_more {name : Bs} {l : List Bs} {k : Nat} {x : Bs} (h : ∀ y ∈ l.take k, optF name y = false) (hx : l[k]? = some x) (hf : optF name x = false) : ∀ y ∈ l.take (k + 1), optF name y = false := by
  intro y hy
  rw [List.take_add_one, hx] at hy
  rcases List.mem_append.1 hy with hy | hy
  · exact h y hy
  · simp at hy
    subst hy
    exact hf
end Go.Proofs.Ytbomlapmoiamgaa.words
