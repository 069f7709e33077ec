/-
  Lines, words, names and options of a text, as mathematics of lists of bytes.
  Rows of strings: those that are one's own, and those that came in.
-/
import Derived.Lib.IndexMore
import Derived.Lib.IndexLaws
import Derived.Lib.IndexBytes
import Derived.Lib.Strings
import Derived.Test.YtpblpjopinllcaaGreatDoorRows
import Derived.Test.YtpblpjopinllcaaGreatDoorJOpen
import Derived.Test.YtpblpjopinllcaaGreatDoorJBlock
import Derived.OwnWalk
import Derived.OwnWalkIn
import Derived.Lib.Hide
import Derived.Maps.AppendAt
namespace Go.Proofs.YtpblpjopinllcaaGreatDoor.words

abbrev Bs : Type := List UInt8
/-- The lines of a text, with what the first one has already. -/
def linesC : Bs → Bs → List Bs
  | w, [] => if w = [] then [] else [w]
  | w, c :: r => if c = 10 then w :: linesC [] r else linesC (w ++ [c]) r
/-- The words of a line, with what the first one has already. -/
def splitC : Bs → Bs → List Bs
  | w, [] => if w = [] then [] else [w]
  | w, c :: r => if c = 32 then (if w = [] then splitC [] r else w :: splitC [] r) else if w = [] ∧ c = 35 then [] else splitC (w ++ [c]) r
def linesL (s : Bs) : List Bs := linesC [] s
def splitL (s : Bs) : List Bs := splitC [] s

theorem cut_one (l : Bs) (x : UInt8) : (∃ a b, l = a ++ x :: b ∧ x ∉ a ∧ Lib.cut l [x] = (a, b, true)) ∨ (x ∉ l ∧ Lib.cut l [x] = (l, [], false)) := by
  unfold Lib.cut
  rw [Lib.index_one]
  by_cases h : Lib.indexByte l x = -1
  · right
    have hn := Lib.indexByte_none h
    refine ⟨fun hm => ?_, ?_⟩
    · obtain ⟨i, hi⟩ := List.getElem?_of_mem hm
      exact hn i hi
    · rw [h]; simp
  · left
    obtain ⟨i, hi⟩ : ∃ i : Nat, Lib.indexByte l x = i := by
      have hge := Lib.index_ge l [x]
      rw [Lib.index_one] at hge
      exact ⟨(Lib.indexByte l x).toNat, by omega⟩
    obtain ⟨h1, h2⟩ := Lib.indexByte_some hi
    have hlt := (List.getElem?_eq_some_iff.1 h1).1
    refine ⟨l.take i, l.drop (i + 1), ?_, ?_, ?_⟩
    · have hd : l.drop i = x :: l.drop (i + 1) := by
        rw [List.drop_eq_getElem_cons hlt]
        rw [List.getElem?_eq_getElem hlt] at h1
        simp at h1
        rw [h1]
      rw [← hd, List.take_append_drop]
    · intro hm
      obtain ⟨k, hk⟩ := List.getElem?_of_mem hm
      rw [List.getElem?_take] at hk
      split at hk
      · exact h2 k (by assumption) hk
      · cases hk
    · rw [hi]
      simp

theorem linesC_app : ∀ (a : Bs) (w r : Bs), (10 : UInt8) ∉ a → linesC w (a ++ r) = linesC (w ++ a) r
  | [], w, r, _ => by simp
  | c :: a, w, r, h => by
    have h1 : c ≠ 10 := fun e => h (by simp [e])
    have h2 : (10 : UInt8) ∉ a := fun e => h (by simp [e])
    rw [List.cons_append, linesC, if_neg h1, linesC_app a _ r h2, List.append_assoc]
    rfl
/-- One line, and those behind it. -/
theorem lines_cut {l : Bs} (h : l ≠ []) : linesL l = (Lib.cut l [10]).1 :: linesL (Lib.cut l [10]).2.1 := by
  unfold linesL
  rcases cut_one l 10 with ⟨a, b, rfl, ha, e⟩ | ⟨hn, e⟩
  · rw [e, linesC_app a [] _ ha, linesC, if_pos rfl]
    rfl
  · rw [e]
    have := linesC_app l [] [] hn
    rw [List.append_nil] at this
    rw [this, linesC, if_neg (by simpa using h)]
    rfl
theorem cut_less {l : Bs} (h : l ≠ []) (x : UInt8) : (Lib.cut l [x]).2.1.length < l.length := by
  rcases cut_one l x with ⟨a, b, rfl, ha, e⟩ | ⟨hn, e⟩
  · rw [e]; simp; omega
  · rw [e]
    exact List.length_pos_iff.2 h
theorem cut_fst (l : Bs) (x : UInt8) : (Lib.cut l [x]).1.length ≤ l.length := by
  rcases cut_one l x with ⟨a, b, rfl, ha, e⟩ | ⟨hn, e⟩
  · rw [e]; simp
  · rw [e]; exact Nat.le_refl _
theorem lines_nil : linesL [] = [] := rfl
theorem split_nil : splitL [] = [] := rfl

theorem splitC_app : ∀ (a : Bs) (w r : Bs), (32 : UInt8) ∉ a → w ≠ [] → splitC w (a ++ r) = splitC (w ++ a) r
  | [], w, r, _, _ => by simp
  | c :: a, w, r, h, hw => by
    have h1 : c ≠ 32 := fun e => h (by simp [e])
    have h2 : (32 : UInt8) ∉ a := fun e => h (by simp [e])
    rw [List.cons_append, splitC, if_neg h1, if_neg (fun e => hw e.1), splitC_app a _ r h2 (by simp), List.append_assoc]
    rfl
/-- A word's beginning tells a comment. -/
def isNote (a : Bs) : Bool := Lib.hasPrefix a [35]
theorem isNote_cons (c : UInt8) (a : Bs) : isNote (c :: a) = decide (c = 35) := by
  unfold isNote Lib.hasPrefix
  by_cases h : c = 35
  · subst h; simp [List.isPrefixOf]
  · simp [List.isPrefixOf, h]
    exact fun e => h e.symm
theorem splitC_word (a : Bs) (r : Bs) (h : (32 : UInt8) ∉ a) (hn : isNote a = false) (ha : a ≠ []) : splitC [] (a ++ r) = splitC a r := by
  cases a with
  | nil => exact absurd rfl ha
  | cons c a =>
    have h1 : c ≠ 32 := fun e => h (by simp [e])
    have h2 : (32 : UInt8) ∉ a := fun e => h (by simp [e])
    rw [isNote_cons] at hn
    have h3 : c ≠ 35 := by simpa using hn
    rw [List.cons_append, splitC, if_neg h1, if_neg (fun e => h3 e.2), List.nil_append, splitC_app a [c] r h2 (by simp)]
    rfl
theorem splitC_note (a : Bs) (r : Bs) (hn : isNote a = true) : splitC [] (a ++ r) = [] := by
  cases a with
  | nil => simp [isNote, Lib.hasPrefix, List.isPrefixOf] at hn
  | cons c a =>
    rw [isNote_cons] at hn
    have h3 : c = 35 := by simpa using hn
    subst h3
    rw [List.cons_append, splitC, if_neg (by decide), if_pos ⟨rfl, rfl⟩]
/-- One word, and those behind it. -/
theorem split_cut (l : Bs) : splitL l = if isNote (Lib.cut l [32]).1 then [] else if (Lib.cut l [32]).1 = [] then splitL (Lib.cut l [32]).2.1 else (Lib.cut l [32]).1 :: splitL (Lib.cut l [32]).2.1 := by
  unfold splitL
  rcases cut_one l 32 with ⟨a, b, rfl, ha, e⟩ | ⟨hn, e⟩
  · rw [e]
    dsimp only
    cases hx : isNote a
    · rw [if_neg (by simp)]
      by_cases h0 : a = []
      · subst h0
        rw [if_pos rfl, List.nil_append, splitC, if_pos rfl, if_pos rfl]
      · rw [if_neg h0, splitC_word a _ ha hx h0, splitC, if_pos rfl, if_neg h0]
    · rw [if_pos rfl, splitC_note a _ hx]
  · rw [e]
    dsimp only
    cases hx : isNote l
    · rw [if_neg (by simp)]
      by_cases h0 : l = []
      · subst h0
        rfl
      · have := splitC_word l [] hn hx h0
        rw [List.append_nil] at this
        rw [if_neg h0, this, splitC, if_neg h0]
        rfl
    · rw [if_pos rfl]
      have := splitC_note l [] hx
      rwa [List.append_nil] at this

/-! ### Words that are put together -/
def spaces (k : Nat) : Bs := List.replicate k 32
theorem split_spaces (k : Nat) (r : Bs) : splitC [] (spaces k ++ r) = splitC [] r := by
  induction k with
  | zero => rfl
  | succ k ih =>
    show splitC [] (32 :: (spaces k ++ r)) = _
    rw [splitC, if_pos rfl, if_pos rfl, ih]
/-- What a word is asked to be, and a line. -/
structure Plain (x : Bs) : Prop where
  some : x ≠ []
  note : isNote x = false
  space : (32 : UInt8) ∉ x
  line : (10 : UInt8) ∉ x
def spread (k : Nat) : List Bs → Bs
  | [] => []
  | x :: r => spaces k ++ (x ++ spread k r)
def lined : List Bs → Bs
  | [] => []
  | x :: r => x ++ 10 :: lined r
theorem spread_snoc (k : Nat) (x : Bs) : ∀ N : List Bs, spread k (N ++ [x]) = spread k N ++ (spaces k ++ x)
  | [] => by simp [spread]
  | y :: r => by simp [spread, spread_snoc k x r]
theorem lined_snoc (x : Bs) : ∀ N : List Bs, lined (N ++ [x]) = lined N ++ (x ++ [10])
  | [] => by simp [lined]
  | y :: r => by simp [lined, lined_snoc x r]
theorem split_spread (k : Nat) (t : Bs) (ht : splitC [] (32 :: t) = []) (t0 : t = [] ∨ t.head? = some 32) : ∀ N : List Bs, (∀ x ∈ N, Plain x) → splitL (spread (k + 1) N ++ t) = N
  | [], _ => by
    show splitC [] t = []
    rwa [splitC, if_pos rfl, if_pos rfl] at ht
  | x :: r, h => by
    have hx := h x (by simp)
    have ih := split_spread k t ht t0 r (fun y hy => h y (by simp [hy]))
    unfold splitL at ih ⊢
    rw [spread, List.append_assoc, split_spaces, List.append_assoc, splitC_word x _ hx.space hx.note hx.some]
    have front : ∃ z, spread (k + 1) r ++ t = 32 :: z ∨ spread (k + 1) r ++ t = [] := by
      cases r with
      | nil =>
        rcases t0 with rfl | h0
        · exact ⟨[], .inr rfl⟩
        · cases t with
          | nil => exact ⟨[], .inr rfl⟩
          | cons c t =>
            simp at h0
            subst h0
            exact ⟨t, .inl rfl⟩
      | cons y q => exact ⟨spaces k ++ (y ++ spread (k + 1) q) ++ t, .inl rfl⟩
    obtain ⟨z, hz | hz⟩ := front
    · rw [hz] at ih ⊢
      rw [splitC, if_pos rfl, if_neg hx.some]
      rw [splitC, if_pos rfl, if_pos rfl] at ih
      rw [ih]
    · rw [hz] at ih ⊢
      rw [splitC, if_neg hx.some]
      rw [← ih]
      rfl
theorem lines_lined : ∀ N : List Bs, (∀ x ∈ N, Plain x) → linesL (lined N) = N
  | [], _ => rfl
  | x :: r, h => by
    have hx := h x (by simp)
    have ih := lines_lined r (fun y hy => h y (by simp [hy]))
    unfold linesL at ih ⊢
    rw [lined, linesC_app x [] _ hx.line, linesC, if_pos rfl, ih]
    rfl
theorem spread_len (k m : Nat) : ∀ N : List Bs, (∀ x ∈ N, x.length ≤ m) → (spread k N).length ≤ N.length * (k + m)
  | [], _ => by simp [spread]
  | x :: r, h => by
    have ih := spread_len k m r (fun y hy => h y (by simp [hy]))
    have := h x (by simp)
    rw [spread, List.length_append, List.length_append, List.length_cons, spaces, List.length_replicate, Nat.add_mul]
    omega
theorem lined_len (m : Nat) : ∀ N : List Bs, (∀ x ∈ N, x.length ≤ m) → (lined N).length ≤ N.length * (1 + m)
  | [], _ => by simp [lined]
  | x :: r, h => by
    have ih := lined_len m r (fun y hy => h y (by simp [hy]))
    have := h x (by simp)
    rw [lined, List.length_append, List.length_cons, List.length_cons, Nat.add_mul]
    omega

/-! ### Names -/
def isA (c : UInt8) : Bool := decide (97 ≤ c.toNat ∧ c.toNat ≤ 122)
def isD (c : UInt8) : Bool := decide (48 ≤ c.toNat ∧ c.toNat ≤ 57)
/-- Whether all bytes may stand in a name, and the first one at its front. -/
def nameB (w : Bs) : Bool := decide (w.length ≤ 12) && (match w with
  | [] => false
  | c :: r => isA c && r.all fun x => isA x || isD x)

/-! ### Options -/
def optF (name x : Bs) : Bool := Lib.hasPrefix x (name ++ [61])
def optL (name : Bs) : List Bs → Bs × Bool
  | [] => ([], false)
  | x :: r => if optF name x then (x.drop (name.length + 1), true) else optL name r
theorem opt_take {name : Bs} : ∀ {l : List Bs} {k : Nat}, (∀ x ∈ l.take k, optF name x = false) → optL name l = optL name (l.drop k)
  | l, 0, _ => by simp
  | [], k + 1, _ => by simp
  | x :: r, k + 1, h => by
    have h0 := h x (by simp)
    rw [optL, h0, if_neg (by simp), List.drop_succ_cons]
    exact opt_take fun y hy => h y (by simp [hy])
/-- The words that have been looked at have none. -/
theorem opt_at {name : Bs} {l : List Bs} {k : Nat} {x : Bs} (h : ∀ y ∈ l.take k, optF name y = false) (hx : l[k]? = some x) (hf : optF name x = true) : optL name l = (x.drop (name.length + 1), true) := by
  rw [opt_take h]
  obtain ⟨hl, e⟩ := List.getElem?_eq_some_iff.1 hx
  rw [List.drop_eq_getElem_cons hl, e, optL, hf, if_pos rfl]
theorem opt_none {name : Bs} {l : List Bs} (h : ∀ y ∈ l, optF name y = false) : optL name l = ([], false) := by
  rw [opt_take (k := l.length) (by rw [List.take_length]; exact h), List.drop_length]
  rfl
theorem opt_more {name : Bs} {l : List Bs} {k : Nat} {x : Bs} (h : ∀ y ∈ l.take k, optF name y = false) (hx : l[k]? = some x) (hf : optF name x = false) : ∀ y ∈ l.take (k + 1), optF name y = false := by
  intro y hy
  rw [List.take_add_one, hx] at hy
  rcases List.mem_append.1 hy with hy | hy
  · exact h y hy
  · simp at hy
    subst hy
    exact hf
end Go.Proofs.YtpblpjopinllcaaGreatDoor.words
namespace Go.Proofs.YtpblpjopinllcaaGreatDoor.words
open Go.ChangeShapes Go.WideShapes Go.ChangeAt Go.RowKit
open Go.Proofs.YtpblpjopinllcaaGreatDoor.opened Go.Proofs.YtpblpjopinllcaaGreatDoor.block

abbrev sV (l : Bs) : Value := .string ⟨l.toArray⟩
/-- A slice of strings that came in. -/
def Ls (w : World) (A : Option Addr) (N : List Bs) : Prop := Lies w A (N.map sV)
theorem Ls.nil (w : World) : Ls w none [] := .inl rfl
theorem Ls.below {w w' : World} {A : Option Addr} {N : List Bs} (h : Ls w A N) (hb : Below w.heap.size w w') : Ls w' A N := by
  rcases h with h | ⟨b, off, hA, hbl, hc⟩
  · exact .inl h
  · exact .inr ⟨b, off, hA, Nat.lt_of_lt_of_le hbl hb.size, fun i x hx => (hb.cell (p := ⟨b, off + i, none⟩) hbl).trans (hc i x hx)⟩
theorem Ls.at {w : World} {A : Option Addr} {N : List Bs} (h : Ls w A N) {k : Nat} {x : Bs} (hk : N[k]? = some x) : ∃ b off, A = some ⟨b, off, none⟩ ∧ b < w.heap.size ∧ w.cell? ⟨b, off + k, none⟩ = some (sV x) := by
  rcases h with h | ⟨b, off, hA, hbl, hc⟩
  · have : N = [] := by simpa using h
    subst this
    simp at hk
  · exact ⟨b, off, hA, hbl, hc k (sV x) (by rw [List.getElem?_map, hk]; rfl)⟩
/-- A slice of strings that is one's own. -/
abbrev OwnS (w : World) (base : Nat) (v : Value) (N : List Bs) : Prop := w.ownsRow base 9 1 v N.length (N.map sV)
theorem infoS : (Tryz.prog.info? 9).map (fun i => (i.zero, i.size, i.bytes)) = some (some (.string ByteArray.empty), 1, 16) := by kernel_rfl
theorem infoS_parts : ∃ i, Tryz.prog.info? 9 = some i ∧ i.zero = some (.string ByteArray.empty) ∧ i.size = 1 ∧ i.bytes = 16 := by
  have h := infoS
  rw [Option.map_eq_some_iff] at h
  obtain ⟨i, hi, he⟩ := h
  simp only [Prod.mk.injEq] at he
  exact ⟨i, hi, he.1, he.2.1, he.2.2⟩
theorem OwnS.lies {w : World} {base : Nat} {A : Option Addr} {n c : Nat} {N : List Bs} (h : OwnS w base (.slice A n c) N) : Ls w A N := by
  rcases h.2 with ⟨-, hn⟩ | ⟨g, cap, cur, hv, hb, hg, hc, hcm, hs, ht⟩
  · rw [List.eq_nil_of_length_eq_zero hn]; exact .inl rfl
  · injection hv with h1 h2 h3
    subst h1
    refine .inr ⟨g, 0, rfl, (Array.getElem?_eq_some_iff.1 hg).1, fun i x hx => ?_⟩
    have hi := (List.getElem?_eq_some_iff.1 hx).1
    rw [List.length_map] at hi
    rw [← ht, List.getElem?_take, if_pos (by omega), Array.getElem?_toList] at hx
    rw [← hx]
    simp [World.cell?, hg]
theorem OwnS.below {w w' : World} {base : Nat} {v : Value} {N : List Bs} (h : OwnS w base v N) (hb : Below w.heap.size w w') : OwnS w' base v N := by
  refine ⟨h.1, ?_⟩
  rcases h.2 with hn | ⟨g, cap, cur, hv, hg0, hg, rest⟩
  · exact .inl hn
  · exact .inr ⟨g, cap, cur, hv, hg0, (hb.block g (Array.getElem?_eq_some_iff.1 hg).1).trans hg, rest⟩
theorem OwnS.grown {W w1 : World} {base : Nat} {v : Value} {N : List Bs} {tmp : Obj} (h : OwnS W base v N) (hb0 : base ≤ W.heap.size) (hg : (W.alloc tmp).grownBy w1 v.ownBlock) : Below base W w1 :=
  ((Below.refl base W).alloc hb0 tmp).grown hg (by simp; omega) fun j ej => by
    rcases h.2 with ⟨rfl, _⟩ | ⟨g, cap, cur, rfl, hb, _, _⟩
    · simp [Value.ownBlock] at ej
    · obtain rfl : g = j := by simpa [Value.ownBlock] using ej
      exact hb
theorem OwnS.low {w : World} {base base' : Nat} {v : Value} {N : List Bs} (h : OwnS w base v N) (hb : base' ≤ base) : OwnS w base' v N := by
  refine ⟨h.1, ?_⟩
  rcases h.2 with hn | ⟨g, cap, cur, hv, hg0, hg, rest⟩
  · exact .inl hn
  · exact .inr ⟨g, cap, cur, hv, Nat.le_trans hb hg0, hg, rest⟩
theorem ownS_nil (w : World) (base : Nat) : OwnS w base (.slice none 0 0) [] := World.ownsRow_nil _ _ _ _
theorem heap_new (w : World) (o : Obj) : (w.alloc o).heap[w.heap.size]? = some o := by
  show (w.heap.push o)[w.heap.size]? = some o
  simp
theorem cell_new1 (w : World) (x : Value) (t : TypeId) : ∀ j u, [x][j]? = some u → (w.alloc (.cells #[x] t)).cell? ((⟨w.heap.size, 0, none⟩ : Addr).add j) = some u := by
  intro j u hj
  have hh : (w.alloc (.cells #[x] t)).heap[w.heap.size]? = some (.cells #[x] t (0, 0)) := heap_new w _
  generalize w.alloc (.cells #[x] t) = W at hh ⊢
  generalize w.heap.size = g at hh ⊢
  cases j with
  | zero => simp only [World.cell?, Addr.add, ↓reduceIte, hh]; simpa using hj
  | succ j => simp at hj
theorem oneS (x : Bs) : ∀ v ∈ [sV x], v.oneCell' = true := by
  intro v hv
  rw [List.mem_singleton] at hv
  subst hv
  rfl
theorem snocS (N : List Bs) (x : Bs) : (N ++ [x]).map sV = N.map sV ++ [sV x] := by simp
theorem size_alloc (w : World) (o : Obj) : (w.alloc o).heap.size = w.heap.size + 1 := Array.size_push o
/-- A slice of strings that is made of a literal. -/
theorem ownS_lit (w : World) (N : List Bs) (h : N.length ≤ 1000) (cs : Array Value) (hc : cs = (N.map sV).toArray) : OwnS (w.alloc (.cells cs 9)) w.heap.size (.slice (some ⟨w.heap.size, 0, none⟩) N.length N.length) N := by
  subst hc
  have := World.ownsRow_lit (base := w.heap.size) (e := 9) (size := 1) w (N.map sV).toArray N.length (Nat.le_refl _) (by unfold maxLen; omega) (by simp)
  simpa using this
theorem ownS_succ {W : World} {base k : Nat} {v : Value} {xs : List Value} (h : W.ownsRow base 9 1 v (k + 1) xs) : ∃ g cap, v = .slice (some ⟨g, 0, none⟩) (k + 1) cap := by
  rcases h.2 with ⟨-, h0⟩ | ⟨g, cap, cur, hv, -⟩
  · omega
  · exact ⟨g, cap, hv⟩
theorem fresh1 (w : World) (o : Obj) : Below w.heap.size w (w.alloc o) := (Below.refl _ _).alloc (Nat.le_refl _) o
set_option maxRecDepth 100000 in
/-- Slices of strings that came in, opened. -/
theorem opens_strs : Opens Tryz.prog 126 (sliceR 1 16 strR) := opens_slice Tryz.underlying126 (m := 1) (bytes := 16) (by kernel_rfl) (by kernel_rfl) (opens_str Tryz.underlying9)
set_option maxRecDepth 100000 in
theorem top_strs {w : World} {r : Reach} {b : Nat} {v : Value} {row : Row ByteArray} (hv : Value.okWide Tryz.prog w r b 126 v) (h : sliceR 1 16 strR w v.cells.toList row) :
    ∃ (A : Option Addr) (c : Nat) (L : List Bs), v = .slice A L.length c ∧ Ls w A L ∧ L.length ≤ 9223372036854775807 := by
  obtain rfl := top_slice Tryz.underlying126 hv h
  refine ⟨row.ptr, row.cap, row.elems.map (·.data.toList), ?_, ?_, ?_⟩
  · rw [row_val h, List.length_map]
  · have k := lies_of (f := fun s => Value.string s) (fun w cs s hs => hs.1) h
    unfold Ls
    rw [List.map_map]
    have e : (row.elems.map (sV ∘ fun x => x.data.toList)) = row.elems.map (fun s => Value.string s) := List.map_congr_left fun s _ => congrArg Value.string (Lib.mk_data s)
    rw [e]
    exact k
  · rw [List.length_map]
    exact row_max h
def lenOf : Value → Nat
  | .string b => b.size
  | _ => 0
theorem lenOf_str (l : Bs) : lenOf (sV l) = l.length := by
  show l.toArray.size = _
  simp
/-- The place of internal/bytealg.MaxLen holds a number. -/
def MaxIs (w : World) : Prop := ∃ m : Int, w.cell? ⟨1, 0, none⟩ = some (.int .i64 m)
theorem MaxIs.below {w w' : World} (h : MaxIs w) (hb : Below w.heap.size w w') : MaxIs w' := by
  obtain ⟨m, hm⟩ := h
  exact ⟨m, (hb.cell (p := ⟨_, 0, none⟩) (World.block_lt_of_cell? w _ hm)).trans hm⟩
end Go.Proofs.YtpblpjopinllcaaGreatDoor.words
