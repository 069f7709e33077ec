/-
  Lines, words, names and options of a text, as mathematics of lists of bytes.
  The disk as mathematics: files in the order of their names, what lasts of them, steps that are left.
-/
import Derived.Lib.IndexMore
import Derived.Lib.IndexLaws
import Derived.Lib.IndexBytes
import Derived.Lib.Strings
set_option linter.unusedSimpArgs false
set_option linter.unusedVariables false
namespace Go.Proofs.YtfpmcomigolacaaGreatDoor.words

abbrev Bs : Type := List UInt8
/-- The lines of a text, with what the first one has already. -/
def linesC : Bs → Bs → List Bs
  | w, [] => if w = [] then [] else [w]
  | w, c :: r => if c = 10 then w :: linesC [] r else linesC (w ++ [c]) r
/-- The words of a line, with what the first one has already. -/
def splitC : Bs → Bs → List Bs
  | w, [] => if w = [] then [] else [w]
  | w, c :: r => if c = 32 then (if w = [] then splitC [] r else w :: splitC [] r) else if w = [] ∧ c = 35 then [] else splitC (w ++ [c]) r
def linesL (s : Bs) : List Bs := linesC [] s
def splitL (s : Bs) : List Bs := splitC [] s

theorem cut_one (l : Bs) (x : UInt8) : (∃ a b, l = a ++ x :: b ∧ x ∉ a ∧ Lib.cut l [x] = (a, b, true)) ∨ (x ∉ l ∧ Lib.cut l [x] = (l, [], false)) := by
  unfold Lib.cut
  rw [Lib.index_one]
  by_cases h : Lib.indexByte l x = -1
  · right
    have hn := Lib.indexByte_none h
    refine ⟨fun hm => ?_, ?_⟩
    · obtain ⟨i, hi⟩ := List.getElem?_of_mem hm
      exact hn i hi
    · rw [h]; simp
  · left
    obtain ⟨i, hi⟩ : ∃ i : Nat, Lib.indexByte l x = i := by
      have hge := Lib.index_ge l [x]
      rw [Lib.index_one] at hge
      exact ⟨(Lib.indexByte l x).toNat, by omega⟩
    obtain ⟨h1, h2⟩ := Lib.indexByte_some hi
    have hlt := (List.getElem?_eq_some_iff.1 h1).1
    refine ⟨l.take i, l.drop (i + 1), ?_, ?_, ?_⟩
    · have hd : l.drop i = x :: l.drop (i + 1) := by
        rw [List.drop_eq_getElem_cons hlt]
        rw [List.getElem?_eq_getElem hlt] at h1
        simp at h1
        rw [h1]
      rw [← hd, List.take_append_drop]
    · intro hm
      obtain ⟨k, hk⟩ := List.getElem?_of_mem hm
      rw [List.getElem?_take] at hk
      split at hk
      · exact h2 k (by assumption) hk
      · cases hk
    · rw [hi]
      simp

theorem linesC_app : ∀ (a : Bs) (w r : Bs), (10 : UInt8) ∉ a → linesC w (a ++ r) = linesC (w ++ a) r
  | [], w, r, _ => by simp
  | c :: a, w, r, h => by
    have h1 : c ≠ 10 := fun e => h (by simp [e])
    have h2 : (10 : UInt8) ∉ a := fun e => h (by simp [e])
    rw [List.cons_append, linesC, if_neg h1, linesC_app a _ r h2, List.append_assoc]
    rfl
/-- One line, and those behind it. -/
theorem lines_cut {l : Bs} (h : l ≠ []) : linesL l = (Lib.cut l [10]).1 :: linesL (Lib.cut l [10]).2.1 := by
  unfold linesL
  rcases cut_one l 10 with ⟨a, b, rfl, ha, e⟩ | ⟨hn, e⟩
  · rw [e, linesC_app a [] _ ha, linesC, if_pos rfl]
    rfl
  · rw [e]
    have := linesC_app l [] [] hn
    rw [List.append_nil] at this
    rw [this, linesC, if_neg (by simpa using h)]
    rfl
theorem cut_less {l : Bs} (h : l ≠ []) (x : UInt8) : (Lib.cut l [x]).2.1.length < l.length := by
  rcases cut_one l x with ⟨a, b, rfl, ha, e⟩ | ⟨hn, e⟩
  · rw [e]; simp; omega
  · rw [e]
    exact List.length_pos_iff.2 h
theorem cut_fst (l : Bs) (x : UInt8) : (Lib.cut l [x]).1.length ≤ l.length := by
  rcases cut_one l x with ⟨a, b, rfl, ha, e⟩ | ⟨hn, e⟩
  · rw [e]; simp
  · rw [e]; exact Nat.le_refl _
theorem lines_nil : linesL [] = [] := rfl
theorem split_nil : splitL [] = [] := rfl

theorem splitC_app : ∀ (a : Bs) (w r : Bs), (32 : UInt8) ∉ a → w ≠ [] → splitC w (a ++ r) = splitC (w ++ a) r
  | [], w, r, _, _ => by simp
  | c :: a, w, r, h, hw => by
    have h1 : c ≠ 32 := fun e => h (by simp [e])
    have h2 : (32 : UInt8) ∉ a := fun e => h (by simp [e])
    rw [List.cons_append, splitC, if_neg h1, if_neg (fun e => hw e.1), splitC_app a _ r h2 (by simp), List.append_assoc]
    rfl
/-- A word's beginning tells a comment. -/
def isNote (a : Bs) : Bool := Lib.hasPrefix a [35]
theorem isNote_cons (c : UInt8) (a : Bs) : isNote (c :: a) = decide (c = 35) := by
  unfold isNote Lib.hasPrefix
  by_cases h : c = 35
  · subst h; simp [List.isPrefixOf]
  · simp [List.isPrefixOf, h]
    exact fun e => h e.symm
theorem splitC_word (a : Bs) (r : Bs) (h : (32 : UInt8) ∉ a) (hn : isNote a = false) (ha : a ≠ []) : splitC [] (a ++ r) = splitC a r := by
  cases a with
  | nil => exact absurd rfl ha
  | cons c a =>
    have h1 : c ≠ 32 := fun e => h (by simp [e])
    have h2 : (32 : UInt8) ∉ a := fun e => h (by simp [e])
    rw [isNote_cons] at hn
    have h3 : c ≠ 35 := by simpa using hn
    rw [List.cons_append, splitC, if_neg h1, if_neg (fun e => h3 e.2), List.nil_append, splitC_app a [c] r h2 (by simp)]
    rfl
theorem splitC_note (a : Bs) (r : Bs) (hn : isNote a = true) : splitC [] (a ++ r) = [] := by
  cases a with
  | nil => simp [isNote, Lib.hasPrefix, List.isPrefixOf] at hn
  | cons c a =>
    rw [isNote_cons] at hn
    have h3 : c = 35 := by simpa using hn
    subst h3
    rw [List.cons_append, splitC, if_neg (by decide), if_pos ⟨rfl, rfl⟩]
/-- One word, and those behind it. -/
theorem split_cut (l : Bs) : splitL l = if isNote (Lib.cut l [32]).1 then [] else if (Lib.cut l [32]).1 = [] then splitL (Lib.cut l [32]).2.1 else (Lib.cut l [32]).1 :: splitL (Lib.cut l [32]).2.1 := by
  unfold splitL
  rcases cut_one l 32 with ⟨a, b, rfl, ha, e⟩ | ⟨hn, e⟩
  · rw [e]
    dsimp only
    cases hx : isNote a
    · rw [if_neg (by simp)]
      by_cases h0 : a = []
      · subst h0
        rw [if_pos rfl, List.nil_append, splitC, if_pos rfl, if_pos rfl]
      · rw [if_neg h0, splitC_word a _ ha hx h0, splitC, if_pos rfl, if_neg h0]
    · rw [if_pos rfl, splitC_note a _ hx]
  · rw [e]
    dsimp only
    cases hx : isNote l
    · rw [if_neg (by simp)]
      by_cases h0 : l = []
      · subst h0
        rfl
      · have := splitC_word l [] hn hx h0
        rw [List.append_nil] at this
        rw [if_neg h0, this, splitC, if_neg h0]
        rfl
    · rw [if_pos rfl]
      have := splitC_note l [] hx
      rwa [List.append_nil] at this

/-! ### Words that are put together -/
def spaces (k : Nat) : Bs := List.replicate k 32
theorem split_spaces (k : Nat) (r : Bs) : splitC [] (spaces k ++ r) = splitC [] r := by
  induction k with
  | zero => rfl
  | succ k ih =>
    show splitC [] (32 :: (spaces k ++ r)) = _
    rw [splitC, if_pos rfl, if_pos rfl, ih]
/-- What a word is asked to be, and a line. -/
structure Plain (x : Bs) : Prop where
  some : x ≠ []
  note : isNote x = false
  space : (32 : UInt8) ∉ x
  line : (10 : UInt8) ∉ x
def spread (k : Nat) : List Bs → Bs
  | [] => []
  | x :: r => spaces k ++ (x ++ spread k r)
def lined : List Bs → Bs
  | [] => []
  | x :: r => x ++ 10 :: lined r
theorem spread_snoc (k : Nat) (x : Bs) : ∀ N : List Bs, spread k (N ++ [x]) = spread k N ++ (spaces k ++ x)
  | [] => by simp [spread]
  | y :: r => by simp [spread, spread_snoc k x r]
theorem lined_snoc (x : Bs) : ∀ N : List Bs, lined (N ++ [x]) = lined N ++ (x ++ [10])
  | [] => by simp [lined]
  | y :: r => by simp [lined, lined_snoc x r]
theorem split_spread (k : Nat) (t : Bs) (ht : splitC [] (32 :: t) = []) (t0 : t = [] ∨ t.head? = some 32) : ∀ N : List Bs, (∀ x ∈ N, Plain x) → splitL (spread (k + 1) N ++ t) = N
  | [], _ => by
    show splitC [] t = []
    rwa [splitC, if_pos rfl, if_pos rfl] at ht
  | x :: r, h => by
    have hx := h x (by simp)
    have ih := split_spread k t ht t0 r (fun y hy => h y (by simp [hy]))
    unfold splitL at ih ⊢
    rw [spread, List.append_assoc, split_spaces, List.append_assoc, splitC_word x _ hx.space hx.note hx.some]
    have front : ∃ z, spread (k + 1) r ++ t = 32 :: z ∨ spread (k + 1) r ++ t = [] := by
      cases r with
      | nil =>
        rcases t0 with rfl | h0
        · exact ⟨[], .inr rfl⟩
        · cases t with
          | nil => exact ⟨[], .inr rfl⟩
          | cons c t =>
            simp at h0
            subst h0
            exact ⟨t, .inl rfl⟩
      | cons y q => exact ⟨spaces k ++ (y ++ spread (k + 1) q) ++ t, .inl rfl⟩
    obtain ⟨z, hz | hz⟩ := front
    · rw [hz] at ih ⊢
      rw [splitC, if_pos rfl, if_neg hx.some]
      rw [splitC, if_pos rfl, if_pos rfl] at ih
      rw [ih]
    · rw [hz] at ih ⊢
      rw [splitC, if_neg hx.some]
      rw [← ih]
      rfl
theorem lines_lined : ∀ N : List Bs, (∀ x ∈ N, Plain x) → linesL (lined N) = N
  | [], _ => rfl
  | x :: r, h => by
    have hx := h x (by simp)
    have ih := lines_lined r (fun y hy => h y (by simp [hy]))
    unfold linesL at ih ⊢
    rw [lined, linesC_app x [] _ hx.line, linesC, if_pos rfl, ih]
    rfl
theorem spread_len (k m : Nat) : ∀ N : List Bs, (∀ x ∈ N, x.length ≤ m) → (spread k N).length ≤ N.length * (k + m)
  | [], _ => by simp [spread]
  | x :: r, h => by
    have ih := spread_len k m r (fun y hy => h y (by simp [hy]))
    have := h x (by simp)
    rw [spread, List.length_append, List.length_append, List.length_cons, spaces, List.length_replicate, Nat.add_mul]
    omega
theorem lined_len (m : Nat) : ∀ N : List Bs, (∀ x ∈ N, x.length ≤ m) → (lined N).length ≤ N.length * (1 + m)
  | [], _ => by simp [lined]
  | x :: r, h => by
    have ih := lined_len m r (fun y hy => h y (by simp [hy]))
    have := h x (by simp)
    rw [lined, List.length_append, List.length_cons, List.length_cons, Nat.add_mul]
    omega

/-! ### Names -/
def isA (c : UInt8) : Bool := decide (97 ≤ c.toNat ∧ c.toNat ≤ 122)
def isD (c : UInt8) : Bool := decide (48 ≤ c.toNat ∧ c.toNat ≤ 57)
/-- Whether all bytes may stand in a name, and the first one at its front. -/
def nameB (w : Bs) : Bool := decide (w.length ≤ 12) && (match w with
  | [] => false
  | c :: r => isA c && r.all fun x => isA x || isD x)

/-! ### Options -/
def optF (name x : Bs) : Bool := Lib.hasPrefix x (name ++ [61])
def optL (name : Bs) : List Bs → Bs × Bool
  | [] => ([], false)
  | x :: r => if optF name x then (x.drop (name.length + 1), true) else optL name r
theorem opt_take {name : Bs} : ∀ {l : List Bs} {k : Nat}, (∀ x ∈ l.take k, optF name x = false) → optL name l = optL name (l.drop k)
  | l, 0, _ => by simp
  | [], k + 1, _ => by simp
  | x :: r, k + 1, h => by
    have h0 := h x (by simp)
    rw [optL, h0, if_neg (by simp), List.drop_succ_cons]
    exact opt_take fun y hy => h y (by simp [hy])
/-- The words that have been looked at have none. -/
theorem opt_at {name : Bs} {l : List Bs} {k : Nat} {x : Bs} (h : ∀ y ∈ l.take k, optF name y = false) (hx : l[k]? = some x) (hf : optF name x = true) : optL name l = (x.drop (name.length + 1), true) := by
  rw [opt_take h]
  obtain ⟨hl, e⟩ := List.getElem?_eq_some_iff.1 hx
  rw [List.drop_eq_getElem_cons hl, e, optL, hf, if_pos rfl]
theorem opt_none {name : Bs} {l : List Bs} (h : ∀ y ∈ l, optF name y = false) : optL name l = ([], false) := by
  rw [opt_take (k := l.length) (by rw [List.take_length]; exact h), List.drop_length]
  rfl
theorem opt_more {name : Bs} {l : List Bs} {k : Nat} {x : Bs} (h : ∀ y ∈ l.take k, optF name y = false) (hx : l[k]? = some x) (hf : optF name x = false) : ∀ y ∈ l.take (k + 1), optF name y = false := by
  intro y hy
  rw [List.take_add_one, hx] at hy
  rcases List.mem_append.1 hy with hy | hy
  · exact h y hy
  · simp at hy
    subst hy
    exact hf
end Go.Proofs.YtfpmcomigolacaaGreatDoor.words
set_option linter.unusedSimpArgs false
set_option linter.unusedVariables false
namespace Go.Proofs.YtfpmcomigolacaaGreatDoor.disk
open Go.Proofs.YtfpmcomigolacaaGreatDoor.words

structure Fl where
  n : Bs
  b : Bs
  l : Nat
structure Dk where
  F : List Fl
  off : Bool
  left : Int

def used (F : List Fl) : Nat := (F.map fun f => f.b.length).sum
def lk (F : List Fl) (n : Bs) : Option Fl := F.find? fun f => decide (f.n = n)
def ins (f : Fl) : List Fl → List Fl
  | [] => [f]
  | x :: r => if f.n < x.n then f :: x :: r else x :: ins f r
def del (n : Bs) (F : List Fl) : List Fl := F.filter fun x => !decide (x.n = n)
def put (f : Fl) (F : List Fl) : List Fl := ins f (del f.n F)
def Srt (F : List Fl) : Prop := F.Pairwise fun x y => x.n < y.n

theorem lt_irr (a : Bs) : ¬ a < a := List.lt_irrefl a
theorem lt_tr {a b c : Bs} (h : a < b) (k : b < c) : a < c := List.lt_trans h k
theorem lt_of_not {a b : Bs} (h : ¬ a < b) (hne : a ≠ b) : b < a := by
  rcases List.le_total a b with h1 | h1
  · exact absurd (List.le_antisymm h1 (List.not_lt.1 h)) hne
  · exact Classical.byContradiction fun h2 => hne (List.le_antisymm (List.not_lt.1 h2) h1)

theorem ins_perm (f : Fl) : ∀ F : List Fl, (ins f F).Perm (f :: F)
  | [] => List.Perm.refl _
  | x :: r => by
    unfold ins
    split
    · exact List.Perm.refl _
    · exact ((ins_perm f r).cons x).trans (List.Perm.swap f x r)
theorem put_perm (f : Fl) (F : List Fl) : (put f F).Perm (f :: del f.n F) := ins_perm f _
theorem mem_put {f x : Fl} {F : List Fl} : x ∈ put f F ↔ x = f ∨ (x ∈ F ∧ x.n ≠ f.n) := by
  rw [(put_perm f F).mem_iff, List.mem_cons, del, List.mem_filter]
  simp
theorem mem_del {x : Fl} {n : Bs} {F : List Fl} : x ∈ del n F ↔ x ∈ F ∧ x.n ≠ n := by
  rw [del, List.mem_filter]
  simp
theorem srt_ins {f : Fl} : ∀ {F : List Fl}, Srt F → (∀ x ∈ F, x.n ≠ f.n) → Srt (ins f F)
  | [], _, _ => by simp [ins, Srt]
  | x :: r, h, hne => by
    obtain ⟨h1, h2⟩ := List.pairwise_cons.1 h
    unfold ins
    split
    · rename_i hlt
      refine List.pairwise_cons.2 ⟨fun y hy => ?_, h⟩
      rcases List.mem_cons.1 hy with rfl | hy
      · exact hlt
      · exact lt_tr hlt (h1 y hy)
    · rename_i hlt
      refine List.pairwise_cons.2 ⟨fun y hy => ?_, srt_ins h2 fun y hy => hne y (by simp [hy])⟩
      rcases List.mem_cons.1 ((ins_perm f r).mem_iff.1 hy) with rfl | hy
      · exact lt_of_not hlt (fun e => hne x (by simp) e.symm)
      · exact h1 y hy
theorem srt_del {F : List Fl} (h : Srt F) (n : Bs) : Srt (del n F) := List.Pairwise.filter _ h
theorem srt_put {F : List Fl} (h : Srt F) (f : Fl) : Srt (put f F) := srt_ins (srt_del h _) fun _ hx => (mem_del.1 hx).2
theorem srt_ne {F : List Fl} (h : Srt F) : F.Pairwise fun x y => x.n ≠ y.n := by
  unfold Srt at h
  exact h.imp fun {a b} hab (e : a.n = b.n) => lt_irr b.n (e ▸ hab)
theorem used_perm {F G : List Fl} (h : F.Perm G) : used F = used G := (h.map _).sum_nat
theorem used_cons (f : Fl) (F : List Fl) : used (f :: F) = f.b.length + used F := rfl
theorem used_put (f : Fl) (F : List Fl) : used (put f F) = f.b.length + used (del f.n F) := used_perm (put_perm f F)
theorem used_filter (p : Fl → Bool) : ∀ F : List Fl, used (F.filter p) ≤ used F
  | [] => Nat.le_refl _
  | x :: r => by
    have := used_filter p r
    rw [List.filter_cons]
    split
    · rw [used_cons, used_cons]; omega
    · rw [used_cons]; omega
theorem lk_none {F : List Fl} {n : Bs} : lk F n = none ↔ ∀ x ∈ F, x.n ≠ n := by
  unfold lk
  rw [List.find?_eq_none]
  simp
theorem lk_some {F : List Fl} {n : Bs} {f : Fl} (h : lk F n = some f) : f ∈ F ∧ f.n = n := ⟨List.mem_of_find?_eq_some h, by have := List.find?_some h; simpa using this⟩
theorem lk_mem : ∀ {F : List Fl}, Srt F → ∀ {f : Fl}, f ∈ F → lk F f.n = some f
  | x :: r, h, f, hf => by
    obtain ⟨h1, h2⟩ := List.pairwise_cons.1 h
    unfold lk
    rw [List.find?_cons]
    rcases List.mem_cons.1 hf with rfl | hf
    · simp
    · have : x.n ≠ f.n := fun e => lt_irr f.n (e ▸ h1 f hf)
      rw [decide_eq_false this]
      exact lk_mem h2 hf
theorem lk_perm {F G : List Fl} (h : F.Perm G) (hG : Srt G) (n : Bs) : lk F n = lk G n := by
  cases hg : lk G n with
  | none => exact lk_none.2 fun x hx => lk_none.1 hg x (h.mem_iff.1 hx)
  | some f =>
    obtain ⟨h1, h2⟩ := lk_some hg
    cases hf : lk F n with
    | none => exact absurd h2 (lk_none.1 hf f (h.mem_iff.2 h1))
    | some f' =>
      obtain ⟨h3, h4⟩ := lk_some hf
      have := lk_mem hG (h.mem_iff.1 h3)
      rw [h4, hg] at this
      exact this.symm
theorem lk_put {F : List Fl} (h : Srt F) (f : Fl) (n : Bs) : lk (put f F) n = if n = f.n then some f else lk F n := by
  split
  · rename_i e
    subst e
    exact lk_mem (srt_put h f) (mem_put.2 (.inl rfl))
  · rename_i hne
    cases hk : lk F n with
    | none =>
      refine lk_none.2 fun x hx => ?_
      rcases mem_put.1 hx with rfl | ⟨hx, _⟩
      · exact fun e => hne e.symm
      · exact lk_none.1 hk x hx
    | some g =>
      obtain ⟨h1, h2⟩ := lk_some hk
      subst h2
      exact lk_mem (srt_put h f) (mem_put.2 (.inr ⟨h1, hne⟩))
theorem lk_del {F : List Fl} (h : Srt F) (m n : Bs) : lk (del m F) n = if n = m then none else lk F n := by
  split
  · rename_i e
    subst e
    exact lk_none.2 fun x hx => (mem_del.1 hx).2
  · rename_i hne
    cases hk : lk F n with
    | none => exact lk_none.2 fun x hx => lk_none.1 hk x (mem_del.1 hx).1
    | some g =>
      obtain ⟨h1, h2⟩ := lk_some hk
      subst h2
      exact lk_mem (srt_del h m) (mem_del.2 ⟨h1, hne⟩)
theorem used_del : ∀ {F : List Fl}, Srt F → ∀ (n : Bs), used (del n F) + (((lk F n).map fun f => f.b.length).getD 0) = used F
  | [], _, _ => rfl
  | x :: r, h, n => by
    obtain ⟨h1, h2⟩ := List.pairwise_cons.1 h
    have ih := used_del h2 n
    unfold del lk at ih ⊢
    rw [List.filter_cons, List.find?_cons]
    by_cases e : x.n = n
    · rw [decide_eq_true e]
      simp only [Bool.not_true, Bool.false_eq_true, if_false, Option.map_some, Option.getD_some]
      have hn : lk r n = none := lk_none.2 fun y hy e2 => lt_irr n (by have := h1 y hy; rwa [e, e2] at this)
      unfold lk at hn
      rw [hn] at ih
      rw [used_cons]
      simp at ih
      omega
    · rw [decide_eq_false e]
      simp only [Bool.not_false, if_true]
      rw [used_cons, used_cons]
      omega
theorem del_none {F : List Fl} {n : Bs} (h : lk F n = none) : del n F = F := by
  unfold del
  exact List.filter_eq_self.2 fun x hx => by simpa using lk_none.1 h x hx

/-! ### A file in the midst of the others -/
theorem del_mid {A R : List Fl} {f : Fl} (h : Srt (A ++ f :: R)) : del f.n (A ++ f :: R) = A ++ R := by
  have hp := srt_ne h
  obtain ⟨h1, h2, h3⟩ := List.pairwise_append.1 hp
  obtain ⟨h4, h5⟩ := List.pairwise_cons.1 h2
  unfold del
  rw [List.filter_append, List.filter_cons, decide_eq_true rfl]
  simp only [Bool.not_true, Bool.false_eq_true, if_false]
  rw [List.filter_eq_self.2 fun x hx => by simpa using h3 x hx f (by simp), List.filter_eq_self.2 fun x hx => by simpa using fun e => h4 x hx e.symm]
theorem ins_mid {g : Fl} : ∀ {A R : List Fl}, (∀ x ∈ A, x.n < g.n) → (∀ x ∈ R, g.n < x.n) → ins g (A ++ R) = A ++ g :: R
  | [], [], _, _ => rfl
  | [], x :: r, _, h => by
    show ins g (x :: r) = _
    rw [ins, if_pos (h x (by simp))]
    rfl
  | x :: A, R, h, k => by
    show ins g (x :: (A ++ R)) = _
    rw [ins, if_neg (fun hlt => lt_irr x.n (lt_tr (h x (by simp)) hlt)), ins_mid (fun y hy => h y (by simp [hy])) k]
    rfl
theorem put_mid {A R : List Fl} {f g : Fl} (h : Srt (A ++ f :: R)) (e : g.n = f.n) : put g (A ++ f :: R) = A ++ g :: R := by
  obtain ⟨h1, h2, h3⟩ := List.pairwise_append.1 h
  obtain ⟨h4, h5⟩ := List.pairwise_cons.1 h2
  unfold put
  rw [e, del_mid h]
  exact ins_mid (fun x hx => e ▸ h3 x hx f (by simp)) (fun x hx => e ▸ h4 x hx)
theorem srt_mid {A R : List Fl} {f g : Fl} (h : Srt (A ++ f :: R)) (e : g.n = f.n) : Srt (A ++ g :: R) := by
  rw [← put_mid h e]
  exact srt_put h g
theorem srt_cut {A R : List Fl} {f : Fl} (h : Srt (A ++ f :: R)) : Srt (A ++ R) := by
  rw [← del_mid h]
  exact srt_del h _
theorem names_sorted {F : List Fl} (h : Srt F) : (F.map Fl.n).mergeSort (fun x y => decide (x ≤ y)) = F.map Fl.n := by
  refine List.mergeSort_of_pairwise ?_
  refine List.pairwise_map.2 (List.Pairwise.imp (fun {a b} hab => ?_) h)
  simp only [decide_eq_true_eq]
  exact List.le_of_lt hab

/-! ### What is done -/
def chk (D : Dk) (n : Bs) : Int := if D.off = true then 14 else if nameB n = true then 0 else 6
def stpE (D : Dk) : Int := if D.left = 0 then 14 else 0
def stpV (D : Dk) : Dk := if D.left = 0 then { D with off := true } else if 0 < D.left then { D with left := D.left - 1 } else D
def oldB (F : List Fl) (n : Bs) : Bs := ((lk F n).map Fl.b).getD []
def oldL (F : List Fl) (n : Bs) : Nat := ((lk F n).map Fl.l).getD 0
def appE (D : Dk) (n s : Bs) : Int := if chk D n ≠ 0 then chk D n else if 262144 < used D.F + s.length then 2 else stpE D
def appV (D : Dk) (n s : Bs) : Dk := if appE D n s = 0 then { stpV D with F := put ⟨n, oldB D.F n ++ s, oldL D.F n⟩ D.F } else if chk D n = 0 ∧ used D.F + s.length ≤ 262144 then stpV D else D
def onE (D : Dk) (n : Bs) : Int := if chk D n ≠ 0 then chk D n else if lk D.F n = none then 3 else stpE D
def onV (D : Dk) (n : Bs) : Dk := if chk D n = 0 ∧ lk D.F n ≠ none then stpV D else D
def synV (D : Dk) (n : Bs) : Dk := if onE D n = 0 then { stpV D with F := put ⟨n, oldB D.F n, (oldB D.F n).length⟩ D.F } else onV D n
def remV (D : Dk) (n : Bs) : Dk := if onE D n = 0 then { stpV D with F := del n D.F } else onV D n
def readE (D : Dk) (n : Bs) : Int := if D.off = true then 14 else if lk D.F n = none then 3 else 0
def readV (D : Dk) (n : Bs) : Bs := if D.off = true then [] else oldB D.F n
def keepK (keep : List Int) (i : Nat) : Int := (keep[i]?).getD 0
/-- How many bytes of a file are left. -/
def leftN (keep : List Int) (i : Nat) (f : Fl) : Nat := f.l + ((max (keepK keep i) 0) % ((f.b.length - f.l : Nat) + 1 : Int)).toNat
def mendF (keep : List Int) (i : Nat) (f : Fl) : Fl := ⟨f.n, f.b.take (leftN keep i f), leftN keep i f⟩
def mendL (keep : List Int) : Nat → List Fl → List Fl
  | _, [] => []
  | i, f :: r => if leftN keep i f = 0 then mendL keep (i + 1) r else mendF keep i f :: mendL keep (i + 1) r
def mendV (D : Dk) (keep : List Int) : Dk := ⟨mendL keep 0 D.F, false, -1⟩
def armV (D : Dk) (n : Int) : Dk := { D with left := n }

structure GoodD (D : Dk) : Prop where
  srt : Srt D.F
  room : used D.F ≤ 262144
  lasts : ∀ f ∈ D.F, f.l ≤ f.b.length
  names : ∀ f ∈ D.F, nameB f.n = true
  lo : -9223372036854775808 ≤ D.left
  hi : D.left ≤ 9223372036854775807
theorem len_used : ∀ {F : List Fl} {f : Fl}, f ∈ F → f.b.length ≤ used F
  | x :: r, f, h => by
    rw [used_cons]
    rcases List.mem_cons.1 h with rfl | h
    · omega
    · have := len_used h; omega
theorem GoodD.len {D : Dk} (G : GoodD D) {f : Fl} (h : f ∈ D.F) : f.b.length ≤ 262144 := Nat.le_trans (len_used h) G.room
theorem stpV_F (D : Dk) : (stpV D).F = D.F := by unfold stpV; split; · rfl
                                                 · split <;> rfl
theorem good_stp {D : Dk} (G : GoodD D) : GoodD (stpV D) := by
  have h0 := G.lo
  have h1 := G.hi
  unfold stpV
  split
  · exact ⟨G.srt, G.room, G.lasts, G.names, h0, h1⟩
  · split
    · exact ⟨G.srt, G.room, G.lasts, G.names, by show _ ≤ D.left - 1; omega, by show D.left - 1 ≤ _; omega⟩
    · exact G
theorem good_put {D : Dk} (G : GoodD D) (f : Fl) (hl : f.l ≤ f.b.length) (hn : nameB f.n = true) (hu : used (put f D.F) ≤ 262144) : GoodD { D with F := put f D.F } :=
  ⟨srt_put G.srt f, hu, fun x hx => by
    rcases mem_put.1 hx with rfl | ⟨hx, _⟩
    · exact hl
    · exact G.lasts x hx, fun x hx => by
    rcases mem_put.1 hx with rfl | ⟨hx, _⟩
    · exact hn
    · exact G.names x hx, G.lo, G.hi⟩
theorem good_del {D : Dk} (G : GoodD D) (n : Bs) : GoodD { D with F := del n D.F } :=
  ⟨srt_del G.srt n, Nat.le_trans (used_filter _ _) G.room, fun x hx => G.lasts x (mem_del.1 hx).1, fun x hx => G.names x (mem_del.1 hx).1, G.lo, G.hi⟩
theorem chk_name {D : Dk} {n : Bs} (h : chk D n = 0) : nameB n = true ∧ D.off = false := by
  unfold chk at h
  by_cases h1 : D.off = true
  · rw [if_pos h1] at h; omega
  · rw [if_neg h1] at h
    by_cases h2 : nameB n = true
    · exact ⟨h2, by simpa using h1⟩
    · rw [if_neg h2] at h; omega
theorem old_len {F : List Fl} (h : Srt F) (n : Bs) (s : Bs) (l : Nat) : used (put ⟨n, oldB F n ++ s, l⟩ F) = used F + s.length := by
  rw [used_put]
  have := used_del h n
  show (oldB F n ++ s).length + used (del n F) = _
  unfold oldB
  rw [List.length_append]
  cases hk : lk F n with
  | none => rw [hk] at this; simp at this ⊢; omega
  | some f => rw [hk] at this; simp at this ⊢; omega
theorem old_lasts {D : Dk} (G : GoodD D) (n : Bs) : oldL D.F n ≤ (oldB D.F n).length := by
  unfold oldL oldB
  cases hk : lk D.F n with
  | none => simp
  | some f => exact G.lasts f (lk_some hk).1
theorem appE_0 {D : Dk} {n s : Bs} (h : appE D n s = 0) : chk D n = 0 ∧ used D.F + s.length ≤ 262144 ∧ stpE D = 0 := by
  unfold appE at h
  by_cases h1 : chk D n = 0
  · rw [if_neg (by simpa using h1)] at h
    by_cases h2 : 262144 < used D.F + s.length
    · rw [if_pos h2] at h; omega
    · rw [if_neg h2] at h
      exact ⟨h1, by omega, h⟩
  · rw [if_pos h1] at h
    exact absurd h h1
theorem onE_0 {D : Dk} {n : Bs} (h : onE D n = 0) : chk D n = 0 ∧ lk D.F n ≠ none ∧ stpE D = 0 := by
  unfold onE at h
  by_cases h1 : chk D n = 0
  · rw [if_neg (by simpa using h1)] at h
    by_cases h2 : lk D.F n = none
    · rw [if_pos h2] at h; omega
    · rw [if_neg h2] at h
      exact ⟨h1, h2, h⟩
  · rw [if_pos h1] at h
    exact absurd h h1
theorem good_app {D : Dk} (G : GoodD D) (n s : Bs) : GoodD (appV D n s) := by
  unfold appV
  split
  · rename_i h
    obtain ⟨h1, h2, -⟩ := appE_0 h
    have G2 := good_stp G
    have e := stpV_F D
    have := good_put G2 ⟨n, oldB D.F n ++ s, oldL D.F n⟩ (by have := old_lasts G n; simp; omega) (chk_name h1).1 (by rw [e, old_len G.srt]; exact h2)
    rw [e] at this
    exact this
  · split
    · exact good_stp G
    · exact G
theorem good_on {D : Dk} (G : GoodD D) (n : Bs) : GoodD (onV D n) := by
  unfold onV
  split
  · exact good_stp G
  · exact G
theorem good_syn {D : Dk} (G : GoodD D) (n : Bs) : GoodD (synV D n) := by
  unfold synV
  split
  · rename_i h
    obtain ⟨h1, h2, -⟩ := onE_0 h
    have G2 := good_stp G
    have e := stpV_F D
    have := good_put G2 ⟨n, oldB D.F n, (oldB D.F n).length⟩ (Nat.le_refl _) (chk_name h1).1 (by rw [e]; have := old_len G.srt n [] (oldB D.F n).length; rw [List.append_nil] at this; rw [this]; simpa using G.room)
    rw [e] at this
    exact this
  · exact good_on G n
theorem good_rem {D : Dk} (G : GoodD D) (n : Bs) : GoodD (remV D n) := by
  unfold remV
  split
  · have := good_del (good_stp G) n
    rw [stpV_F D] at this
    exact this
  · exact good_on G n
theorem good_arm {D : Dk} (G : GoodD D) {n : Int} (h0 : -9223372036854775808 ≤ n) (h1 : n ≤ 9223372036854775807) : GoodD (armV D n) := ⟨G.srt, G.room, G.lasts, G.names, h0, h1⟩
theorem good_new : GoodD ⟨[], false, -1⟩ := ⟨List.Pairwise.nil, by simp [used], fun _ h => (nomatch h), fun _ h => (nomatch h), by show (_ : Int) ≤ -1; omega, by show (-1 : Int) ≤ _; omega⟩
theorem leftN_lo (keep : List Int) (i : Nat) (f : Fl) : f.l ≤ leftN keep i f := by unfold leftN; omega
theorem leftN_hi (keep : List Int) (i : Nat) {f : Fl} (h : f.l ≤ f.b.length) : leftN keep i f ≤ f.b.length := by
  unfold leftN
  have h1 := Int.emod_nonneg (max (keepK keep i) 0) (b := ((f.b.length - f.l : Nat) + 1 : Int)) (by omega)
  have h2 := Int.emod_lt_of_pos (max (keepK keep i) 0) (b := ((f.b.length - f.l : Nat) + 1 : Int)) (by omega)
  omega
theorem mend_mem (keep : List Int) : ∀ {F : List Fl} {i : Nat} {x : Fl}, x ∈ mendL keep i F → ∃ j f, F[j]? = some f ∧ leftN keep (i + j) f ≠ 0 ∧ x = mendF keep (i + j) f
  | f :: r, i, x, h => by
    unfold mendL at h
    have more : x ∈ mendL keep (i + 1) r → ∃ j g, (f :: r)[j]? = some g ∧ leftN keep (i + j) g ≠ 0 ∧ x = mendF keep (i + j) g := fun h => by
      obtain ⟨j, g, h1, h2, h3⟩ := mend_mem keep h
      exact ⟨j + 1, g, by simpa using h1, by rw [show i + (j + 1) = i + 1 + j by omega]; exact h2, by rw [show i + (j + 1) = i + 1 + j by omega]; exact h3⟩
    split at h
    · exact more h
    · rename_i h0
      rcases List.mem_cons.1 h with rfl | h
      · exact ⟨0, f, rfl, h0, rfl⟩
      · exact more h
theorem mend_names (keep : List Int) : ∀ (F : List Fl) (i : Nat), ((mendL keep i F).map Fl.n).Sublist (F.map Fl.n)
  | [], _ => List.Sublist.refl _
  | f :: r, i => by
    unfold mendL
    split
    · exact (mend_names keep r (i + 1)).cons _
    · exact (mend_names keep r (i + 1)).cons_cons _
theorem srt_names {F : List Fl} : Srt F ↔ (F.map Fl.n).Pairwise (· < ·) := List.pairwise_map.symm
theorem srt_mend {F : List Fl} (h : Srt F) (keep : List Int) (i : Nat) : Srt (mendL keep i F) := srt_names.2 ((srt_names.1 h).sublist (mend_names keep F i))
theorem used_mend (keep : List Int) : ∀ (F : List Fl) (i : Nat), used (mendL keep i F) ≤ used F
  | [], _ => Nat.le_refl _
  | f :: r, i => by
    have := used_mend keep r (i + 1)
    unfold mendL
    split
    · rw [used_cons]; omega
    · rw [used_cons, used_cons]
      have : (mendF keep i f).b.length ≤ f.b.length := by unfold mendF; simp; omega
      omega
theorem good_mend {D : Dk} (G : GoodD D) (keep : List Int) : GoodD (mendV D keep) :=
  ⟨srt_mend G.srt keep 0, Nat.le_trans (used_mend keep _ _) G.room, fun x hx => by
    obtain ⟨j, f, h1, -, rfl⟩ := mend_mem keep hx
    have := leftN_hi keep (0 + j) (G.lasts f (List.mem_of_getElem? h1))
    rw [Nat.zero_add] at this ⊢
    unfold mendF
    simp
    omega, fun x hx => by
    obtain ⟨j, f, h1, -, rfl⟩ := mend_mem keep hx
    exact G.names f (List.mem_of_getElem? h1), by show (_ : Int) ≤ -1; omega, by show (-1 : Int) ≤ _; omega⟩
theorem mend_app (keep : List Int) : ∀ (A B : List Fl) (i : Nat), mendL keep i (A ++ B) = mendL keep i A ++ mendL keep (i + A.length) B
  | [], B, i => rfl
  | f :: r, B, i => by
    show mendL keep i (f :: (r ++ B)) = _
    have ih := mend_app keep r B (i + 1)
    rw [mendL, mendL, ih, List.length_cons, show i + 1 + r.length = i + (r.length + 1) by omega]
    split <;> rfl
/-- The files while they are mended: so many are done. -/
def midL (keep : List Int) (k : Nat) (F : List Fl) : List Fl := mendL keep 0 (F.take k) ++ F.drop k
theorem mid_zero (keep : List Int) (F : List Fl) : midL keep 0 F = F := rfl
theorem mid_all (keep : List Int) (F : List Fl) : midL keep F.length F = mendL keep 0 F := by unfold midL; simp
theorem mid_at {keep : List Int} {k : Nat} {F : List Fl} {f : Fl} (h : F[k]? = some f) : midL keep k F = mendL keep 0 (F.take k) ++ f :: F.drop (k + 1) := by
  obtain ⟨h1, h2⟩ := List.getElem?_eq_some_iff.1 h
  unfold midL
  rw [List.drop_eq_getElem_cons h1, h2]
theorem mid_next {keep : List Int} {k : Nat} {F : List Fl} {f : Fl} (h : F[k]? = some f) : midL keep (k + 1) F = mendL keep 0 (F.take k) ++ (if leftN keep k f = 0 then [] else [mendF keep k f]) ++ F.drop (k + 1) := by
  have hk := (List.getElem?_eq_some_iff.1 h).1
  unfold midL
  rw [List.take_add_one, h, mend_app]
  have : (F.take k).length = k := by rw [List.length_take]; omega
  rw [this]
  show _ ++ mendL keep (0 + k) [f] ++ _ = _
  rw [Nat.zero_add, mendL]
  split <;> rfl
theorem srt_midL {F : List Fl} (h : Srt F) (keep : List Int) (k : Nat) : Srt (midL keep k F) := by
  refine srt_names.2 ?_
  have : ((midL keep k F).map Fl.n).Sublist (F.map Fl.n) := by
    unfold midL
    rw [List.map_append]
    have e : F.map Fl.n = (F.take k).map Fl.n ++ (F.drop k).map Fl.n := by rw [← List.map_append, List.take_append_drop]
    rw [e]
    exact (mend_names keep _ _).append (List.Sublist.refl _)
  exact (srt_names.1 h).sublist this
theorem mid_del {keep : List Int} {k : Nat} {F : List Fl} {f : Fl} (hs : Srt F) (h : F[k]? = some f) (h0 : leftN keep k f = 0) : del f.n (midL keep k F) = midL keep (k + 1) F := by
  have hs2 := srt_midL hs keep k
  rw [mid_at h] at hs2 ⊢
  rw [del_mid hs2, mid_next h, if_pos h0, List.append_nil]
theorem mid_put {keep : List Int} {k : Nat} {F : List Fl} {f : Fl} (hs : Srt F) (h : F[k]? = some f) (h0 : leftN keep k f ≠ 0) : put (mendF keep k f) (midL keep k F) = midL keep (k + 1) F := by
  have hs2 := srt_midL hs keep k
  rw [mid_at h] at hs2 ⊢
  rw [put_mid (g := mendF keep k f) hs2 rfl, mid_next h, if_neg h0, List.append_assoc]
  rfl
theorem mid_lk {keep : List Int} {k : Nat} {F : List Fl} {f : Fl} (hs : Srt F) (h : F[k]? = some f) : lk (midL keep k F) f.n = some f := lk_mem (srt_midL hs keep k) (by rw [mid_at h]; simp)
end Go.Proofs.YtfpmcomigolacaaGreatDoor.disk
