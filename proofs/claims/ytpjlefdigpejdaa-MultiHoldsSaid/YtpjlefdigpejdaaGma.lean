/-
  Times as keys of a map.
  Pairs of times and numbers, and the map that holds them.
  multi.Multi: where it lies; Count and New.
  The contracts of (*multi.Multi).set and multi.New.
  The contract of (*multi.Multi).Add.
-/
import Derived.Test.YtpjlefdigpejdaaCk
import Derived.Maps.Keyed
import Derived.Maps.Own
import Derived.Maps.OwnOps
import Derived.Maps.OwnSet
import Derived.DeepKeys4
import Derived.Test.YtpjlefdigpejdaaNm
import Derived.Test.YtpjlefdigpejdaaRo
import Derived.Test.YtpjlefdigpejdaaOpL
import Derived.WalkKit
import Derived.Test.YtpjlefdigpejdaaChk
import Derived.Test.YtpjlefdigpejdaaWh
namespace Go.Proofs.Ytpjlefdigpejdaa.multi
open Go.ChangeShapes Go.WideShapes Go.ChangeAt Go.RowKit Go.Maps Go.WideMaps
open Go.Proofs.Ytpjlefdigpejdaa.tm Go.Proofs.Ytpjlefdigpejdaa.opened Go.Proofs.Ytpjlefdigpejdaa.block Go.Proofs.Ytpjlefdigpejdaa.stamp Go.Proofs.Ytpjlefdigpejdaa.chain

set_option maxRecDepth 100000
theorem laidOutM : laidOutB Try.prog = true := by kernel_rfl
theorem rowT : 33 < Try.prog.types.size := of_decide_eq_true (by kernel_rfl)
theorem wideT : (match Try.prog.underlying 33 with | some (.array _ _) | some (.struct _) => true | _ => false) = true := by kernel_rfl
theorem lawT : KeyLaw Try.prog 33 := deep_law_laid laidOutM (m := 3) (by omega) rowT (by kernel_rfl) wideT
theorem keyT : Keyed Try.prog 33 := Keyed.of_law lawT
theorem cellsT5 : Try.prog.cellsOf 33 = 5 := by kernel_rfl
theorem cellsU : Try.prog.cellsOf 30 = 1 := by kernel_rfl
theorem cellsI : Try.prog.cellsOf 3 = 1 := by kernel_rfl
theorem cells3 : Try.prog.cellsOf 31 = 3 := by kernel_rfl
theorem deepT : Try.prog.keyTypeAt (Try.prog.types.size + 1) 33 = true := by kernel_rfl
/-- What a time reads as, as a key. -/
def klB (t : Tm) : List Lit := [.int .u32 t.e, .int .i64 t.d, .int .u32 t.a, .int .u32 t.b, .int .u32 t.c]
theorem wf_u32 {n : Int} (h0 : 0 ≤ n) (h1 : n ≤ 4294967295) : (Lit.int .u32 n).wf = true := WalkArith.wf_u32 ⟨h0, h1⟩
theorem wf_i64 {n : Int} (h0 : -9223372036854775808 ≤ n) (h1 : n ≤ 9223372036854775807) : (Lit.int .i64 n).wf = true := WalkArith.wf_i64 ⟨h0, h1⟩
theorem keyLits_time (t : Tm) (i : t.In) (n : Nat) : Try.prog.keyLits (n + 3) 33 [.int .u32 t.e, .int .i64 t.d, .int .u32 t.a, .int .u32 t.b, .int .u32 t.c] = some (klB t) := by
  have w1 := wf_u32 i.e0 i.e1
  have w2 := wf_i64 i.d0 i.d1
  have w3 := wf_u32 i.a0 i.a1
  have w4 := wf_u32 i.b0 i.b1
  have w5 := wf_u32 i.c0 i.c1
  simp [Program.keyLits, Try.underlying33, Try.underlying30, Try.underlying3, Try.underlying31, w1, w2, w3, w4, w5, cellsT5, cellsU, cellsI, cells3, klB, List.range, List.range.loop]
theorem keyOf_time (t : Tm) (i : t.In) : keyOf Try.prog 33 (.agg #[.int .u32 t.e, .int .i64 t.d, .int .u32 t.a, .int .u32 t.b, .int .u32 t.c]) = some (.string (keyBytes (klB t))) := by
  have hn : ∃ n, Try.prog.types.size + 1 = n + 3 := ⟨Try.prog.types.size - 2, by have := rowT; omega⟩
  obtain ⟨n, hn⟩ := hn
  have := keyLits_time t i n
  rw [← hn] at this
  unfold keyOf
  simp only [Try.underlying33]
  rw [show (.agg #[.int .u32 t.e, .int .i64 t.d, .int .u32 t.a, .int .u32 t.b, .int .u32 t.c] : Value).cells.toList = [.int .u32 t.e, .int .i64 t.d, .int .u32 t.a, .int .u32 t.b, .int .u32 t.c] from rfl, this, if_pos]
  · rfl
  · rw [show Try.prog.keyType 33 = true from deepT]
    simp [Value.formed, Try.underlying33, cellsT5]
end Go.Proofs.Ytpjlefdigpejdaa.multi
namespace Go.Proofs.Ytpjlefdigpejdaa.multi
open Go.ChangeShapes Go.WideShapes Go.ChangeAt Go.RowKit Go.Maps Go.WideMaps
open Go.Proofs.Ytpjlefdigpejdaa.tm Go.Proofs.Ytpjlefdigpejdaa.opened Go.Proofs.Ytpjlefdigpejdaa.block Go.Proofs.Ytpjlefdigpejdaa.stamp Go.Proofs.Ytpjlefdigpejdaa.chain

abbrev TN : Type := Tm × Int
def kT (t : Tm) : Lit := .string (keyBytes (klB t))
def dN (n : Int) : DataW Nat := .lit (.int .i64 n)
def pE (p : TN) : Lit × DataW Nat := (kT p.1, dN p.2)
theorem isKey (t : Tm) : WideAt.IsKeyLit (kT t) := by simp [kT, WideAt.IsKeyLit]
theorem kT_inj {s t : Tm} (i : s.In) (j : t.In) (h : kT s = kT t) : s = t := by
  have e := keyT.inj (keyOf_time s i) ((keyOf_time t j).trans (congrArg some h.symm))
  cases s; cases t
  simp only [Value.agg.injEq] at e
  simp at e
  obtain ⟨e1, e2, e3, e4, e5⟩ := e
  subst e1 e2 e3 e4 e5
  rfl

/-- How often a time is there. -/
def countM : List TN → Tm → Int
  | [], _ => 0
  | p :: r, t => if p.1 = t then p.2 else countM r t
/-- The pairs with a time's number put in its place; 0 strikes it. -/
def putM (M : List TN) (t : Tm) (n : Int) : List TN :=
  M.filter (fun p => decide (numT p.1 < numT t)) ++ ((if n = 0 then [] else [(t, n)]) ++ M.filter (fun p => decide (numT t < numT p.1)))

structure GoodM (d : Int) (M : List TN) : Prop where
  key : ∀ p ∈ M, p.1.In ∧ chk p.1 = 0 ∧ p.1.d = d
  num : ∀ p ∈ M, p.2 ≠ 0 ∧ -1099511627776 ≤ p.2 ∧ p.2 ≤ 1099511627776
  srt : M.Pairwise (fun p q => numT p.1 < numT q.1)

theorem GoodM.nil (d : Int) : GoodM d [] := ⟨by simp, by simp, List.Pairwise.nil⟩
theorem GoodM.inn {d : Int} {M : List TN} (h : GoodM d M) : ∀ p ∈ M, p.1.In := fun p hp => (h.key p hp).1

theorem count_not {M : List TN} {t : Tm} (h : ∀ p ∈ M, p.1 ≠ t) : countM M t = 0 := by
  induction M with
  | nil => rfl
  | cons p r ih =>
    unfold countM
    rw [if_neg (h p (by simp))]
    exact ih fun q hq => h q (by simp [hq])
theorem count_mem {M : List TN} {p : TN} (hs : M.Pairwise (fun p q => numT p.1 < numT q.1)) (hp : p ∈ M) : countM M p.1 = p.2 := by
  induction M with
  | nil => simp at hp
  | cons q r ih =>
    obtain ⟨h1, h2⟩ := List.pairwise_cons.1 hs
    unfold countM
    rcases List.mem_cons.1 hp with rfl | hp
    · rw [if_pos rfl]
    · have := h1 p hp
      rw [if_neg (by intro e; rw [e] at this; omega)]
      exact ih h2 hp
theorem count_ne {d : Int} {M : List TN} (h : GoodM d M) (t : Tm) : countM M t ≠ 0 ↔ ∃ n, (t, n) ∈ M := by
  constructor
  · intro hc
    by_cases hm : ∃ n, (t, n) ∈ M
    · exact hm
    · exact absurd (count_not (fun p hp e => hm ⟨p.2, by rw [← e]; exact hp⟩)) hc
  · rintro ⟨n, hn⟩
    rw [count_mem h.srt hn]
    exact (h.num _ hn).1
theorem count_at {d : Int} {M : List TN} (h : GoodM d M) (t : Tm) (hc : countM M t ≠ 0) : (t, countM M t) ∈ M := by
  obtain ⟨n, hn⟩ := (count_ne h t).1 hc
  rw [count_mem h.srt hn]
  exact hn
theorem count_in {d : Int} {M : List TN} (h : GoodM d M) (t : Tm) : -1099511627776 ≤ countM M t ∧ countM M t ≤ 1099511627776 := by
  by_cases hc : countM M t = 0
  · omega
  · have := (h.num _ (count_at h t hc)).2
    exact this

theorem put_good {d : Int} {M : List TN} (h : GoodM d M) {t : Tm} (i : t.In) (hk : chk t = 0) (hd : t.d = d) {n : Int} (h0 : -1099511627776 ≤ n) (h1 : n ≤ 1099511627776) : GoodM d (putM M t n) := by
  have hmem : ∀ p ∈ putM M t n, p ∈ M ∨ (p = (t, n) ∧ n ≠ 0) := by
    intro p hp
    unfold putM at hp
    rcases List.mem_append.1 hp with hp | hp
    · exact .inl (List.mem_filter.1 hp).1
    · rcases List.mem_append.1 hp with hp | hp
      · split at hp
        · simp at hp
        · simp at hp
          exact .inr ⟨hp, by assumption⟩
      · exact .inl (List.mem_filter.1 hp).1
  refine ⟨?_, ?_, ?_⟩
  · intro p hp
    rcases hmem p hp with hp | ⟨rfl, -⟩
    · exact h.key p hp
    · exact ⟨i, hk, hd⟩
  · intro p hp
    rcases hmem p hp with hp | ⟨rfl, hn⟩
    · exact h.num p hp
    · exact ⟨hn, h0, h1⟩
  · unfold putM
    refine List.pairwise_append.2 ⟨h.srt.filter _, List.pairwise_append.2 ⟨?_, h.srt.filter _, ?_⟩, ?_⟩
    · split <;> simp
    · intro p hp q hq
      split at hp
      · simp at hp
      · simp at hp
        subst hp
        simpa using (List.mem_filter.1 hq).2
    · intro p hp q hq
      have e1 : numT p.1 < numT t := by simpa using (List.mem_filter.1 hp).2
      rcases List.mem_append.1 hq with hq | hq
      · split at hq
        · simp at hq
        · simp at hq
          subst hq
          exact e1
      · have e2 : numT t < numT q.1 := by simpa using (List.mem_filter.1 hq).2
        omega

/-- The times other than t, as they are parted by it. -/
theorem split_perm {M : List TN} (hi : ∀ p ∈ M, p.1.In) {t : Tm} (i : t.In) :
    (M.filter (fun p => decide (numT p.1 < numT t)) ++ M.filter (fun p => decide (numT t < numT p.1))).Perm (M.filter fun p => !decide (p.1 = t)) := by
  induction M with
  | nil => simp
  | cons p r ih =>
    have ih := ih fun q hq => hi q (by simp [hq])
    have hp := hi p (by simp)
    by_cases he : p.1 = t
    · have a1 : ¬ numT p.1 < numT t := by rw [he]; omega
      have a2 : ¬ numT t < numT p.1 := by rw [he]; omega
      simp only [List.filter_cons, decide_eq_false a1, decide_eq_false a2, decide_eq_true he]
      simpa using ih
    · by_cases hl : numT p.1 < numT t
      · have a2 : ¬ numT t < numT p.1 := by omega
        simp only [List.filter_cons, decide_eq_true hl, decide_eq_false a2, decide_eq_false he]
        simpa using ih
      · have a2 : numT t < numT p.1 := by
          by_cases h : numT t < numT p.1
          · exact h
          · exact absurd (num_eq hp i (by omega)) he
        simp only [List.filter_cons, decide_eq_false hl, decide_eq_true a2, decide_eq_false he]
        exact List.Perm.trans (by exact List.perm_middle) (List.Perm.cons p ih)

/-- Block b of the world is a map that holds these pairs. -/
def OwnM (w : World) (b : Nat) (M : List TN) : Prop :=
  ∃ es : List (Lit × DataW Nat), es.Perm (M.map pE) ∧ w.ownsMap Try.prog 33 (plainElem Try.prog 2) b M.length (.map es)

theorem ownsMap_tight {w : World} {n b : Nat} {es : List (Lit × DataW Nat)} (h : w.ownsMap Try.prog 33 (plainElem Try.prog 2) b n (.map es)) : w.ownsMap Try.prog 33 (plainElem Try.prog 2) b es.length (.map es) := by
  obtain ⟨xs, clock, hb, F, -, hD⟩ := h
  refine ⟨xs, clock, hb, F, ?_, hD⟩
  have := congrArg Maps.size hD
  simp only [Maps.size, length_read] at this
  omega
theorem own_of {w : World} {n b : Nat} {es : List (Lit × DataW Nat)} {M : List TN} (h : w.ownsMap Try.prog 33 (plainElem Try.prog 2) b n (.map es)) (hp : es.Perm (M.map pE)) : OwnM w b M := by
  refine ⟨es, hp, ?_⟩
  have e := ownsMap_tight h
  have := hp.length_eq
  rw [List.length_map] at this
  rwa [this] at e
theorem OwnM.kept {w w' : World} {row : Option Nat} {b : Nat} {M : List TN} (h : OwnM w b M) (hg : w.grownBy w' row) (hne : some b ≠ row) : OwnM w' b M := by
  obtain ⟨es, hp, ho⟩ := h
  exact ⟨es, hp, ho.kept hg hne⟩
theorem OwnM.lt {w : World} {b : Nat} {M : List TN} (h : OwnM w b M) : b < w.heap.size := by obtain ⟨es, hp, ho⟩ := h; exact ho.lt
theorem OwnM.below {w w' : World} {B b : Nat} {M : List TN} (h : OwnM w b M) (hb : Below B w w') (hlt : b < B) : OwnM w' b M := by
  obtain ⟨es, hp, xs, clock, hx, F, hs, hD⟩ := h
  exact ⟨es, hp, xs, clock, (hb.block b hlt).trans hx, F, hs, hD⟩
theorem own_made (w : World) : OwnM (w.alloc (.map #[] 0)) w.heap.size [] := ⟨[], by simp, World.ownsMap_made w _ _ _⟩

theorem keys_apart {w : World} {n b : Nat} {es : List (Lit × DataW Nat)} (h : w.ownsMap Try.prog 33 (plainElem Try.prog 2) b n (.map es)) : es.Pairwise (fun p q => p.1 ≠ q.1) := by
  obtain ⟨es', e, hp⟩ := h.tidy keyT
  cases e
  exact hp
theorem mem_es {es : List (Lit × DataW Nat)} {d : Int} {M : List TN} (hp : es.Perm (M.map pE)) (h : GoodM d M) {t : Tm} (i : t.In) : (∃ y, (kT t, y) ∈ es) ↔ countM M t ≠ 0 := by
  constructor
  · rintro ⟨y, hy⟩
    obtain ⟨p, hpm, he⟩ := List.mem_map.1 (hp.mem_iff.1 hy)
    have e1 : kT p.1 = kT t := congrArg Prod.fst he
    have := kT_inj (h.inn p hpm) i e1
    exact (count_ne h t).2 ⟨p.2, by rw [← this]; exact hpm⟩
  · intro hc
    exact ⟨dN (countM M t), hp.mem_iff.2 (List.mem_map.2 ⟨_, count_at h t hc, rfl⟩)⟩
theorem has_es {es : List (Lit × DataW Nat)} {d : Int} {M : List TN} (hp : es.Perm (M.map pE)) (h : GoodM d M) {t : Tm} (i : t.In) : Maps.has (.map es) (kT t) = decide (countM M t ≠ 0) := by
  rw [has_eq]
  by_cases hc : countM M t ≠ 0
  · obtain ⟨y, hy⟩ := (mem_es hp h i).2 hc
    rw [decide_eq_true hc]
    exact List.any_eq_true.2 ⟨_, hy, WideAt.sameKey_self (isKey t)⟩
  · rw [decide_eq_false hc]
    refine Bool.eq_false_iff.2 fun hany => hc ?_
    obtain ⟨q, hq, hs⟩ := List.any_eq_true.1 hany
    have e := (WideAt.sameKey_iff (isKey t)).1 hs
    exact (mem_es hp h i).1 ⟨q.2, by rw [← e]; exact hq⟩
theorem at_es {es : List (Lit × DataW Nat)} {d : Int} {M : List TN} (hp : es.Perm (M.map pE)) (ha : es.Pairwise (fun p q => p.1 ≠ q.1)) (h : GoodM d M) {t : Tm} (i : t.In) : (DataW.map es).atKey (kT t) (dN 0) = dN (countM M t) := by
  by_cases hc : countM M t ≠ 0
  · exact WideAt.atKey_mem _ (isKey t) ha (hp.mem_iff.2 (List.mem_map.2 ⟨_, count_at h t hc, rfl⟩))
  · rw [Maps.atKey_of_not_has (by rw [has_es hp h i, decide_eq_false hc])]
    rw [show countM M t = 0 by omega]
theorem strike_es {es : List (Lit × DataW Nat)} {M : List TN} (hp : es.Perm (M.map pE)) (hi : ∀ p ∈ M, p.1.In) {t : Tm} (i : t.In) : (es.filter fun p => !p.1.sameKey (kT t)).Perm ((M.filter fun p => !decide (p.1 = t)).map pE) := by
  refine (hp.filter _).trans ?_
  rw [List.filter_map]
  refine List.Perm.of_eq (congrArg (List.map pE) (List.filter_congr fun p hpm => ?_))
  show (!(kT p.1).sameKey (kT t)) = _
  by_cases he : p.1 = t
  · rw [he, WideAt.sameKey_self (isKey t)]; simp
  · rw [Maps.sameKey_ne (fun e => he (kT_inj (hi p hpm) i e))]; simp [he]
theorem insert_perm (x : Lit × DataW Nat) : ∀ l, (DataW.insert x l).Perm (x :: l)
  | [] => by simp [DataW.insert]
  | y :: r => by
    unfold DataW.insert
    split
    · exact List.Perm.refl _
    · exact (List.Perm.cons y (insert_perm x r)).trans (List.Perm.swap x y r)
theorem putM_zero {M : List TN} (hi : ∀ p ∈ M, p.1.In) {t : Tm} (i : t.In) : (putM M t 0).Perm (M.filter fun p => !decide (p.1 = t)) := by
  unfold putM
  rw [if_pos rfl, List.nil_append]
  exact split_perm hi i
theorem putM_some {M : List TN} (hi : ∀ p ∈ M, p.1.In) {t : Tm} (i : t.In) {n : Int} (hn : n ≠ 0) : (putM M t n).Perm ((t, n) :: M.filter fun p => !decide (p.1 = t)) := by
  unfold putM
  rw [if_neg hn]
  exact List.perm_middle.trans (List.Perm.cons _ (split_perm hi i))
theorem del_es {es : List (Lit × DataW Nat)} {M : List TN} (hp : es.Perm (M.map pE)) (hi : ∀ p ∈ M, p.1.In) {t : Tm} (i : t.In) : (es.filter fun p => !p.1.sameKey (kT t)).Perm ((putM M t 0).map pE) :=
  (strike_es hp hi i).trans ((putM_zero hi i).symm.map _)
theorem put_es {es : List (Lit × DataW Nat)} {M : List TN} (hp : es.Perm (M.map pE)) (hi : ∀ p ∈ M, p.1.In) {t : Tm} (i : t.In) {n : Int} (hn : n ≠ 0) : (DataW.insert (kT t, dN n) (es.filter fun p => !p.1.sameKey (kT t))).Perm ((putM M t n).map pE) :=
  (insert_perm _ _).trans ((List.Perm.cons _ (strike_es hp hi i)).trans ((putM_some hi i hn).symm.map pE))
theorem put_len {d : Int} {M : List TN} (h : GoodM d M) {t : Tm} (i : t.In) {n : Int} (hn : n ≠ 0) : (putM M t n).length = if countM M t = 0 then M.length + 1 else M.length := by
  rw [(putM_some h.inn i hn).length_eq, List.length_cons]
  by_cases hc : countM M t = 0
  · rw [if_pos hc, List.filter_eq_self.2]
    intro p hp
    have : p.1 ≠ t := fun e => (count_ne h t).2 ⟨p.2, by rw [← e]; exact hp⟩ hc
    simp [this]
  · rw [if_neg hc]
    have hm := count_at h t hc
    obtain ⟨A, B, e⟩ := List.append_of_mem hm
    rw [e]
    have hs := h.srt
    rw [e] at hs
    obtain ⟨s1, s2, s3⟩ := List.pairwise_append.1 hs
    have s2' := (List.pairwise_cons.1 s2).1
    have fA : A.filter (fun p => !decide (p.1 = t)) = A := List.filter_eq_self.2 fun p hp => by
      have : numT p.1 < numT t := s3 p hp _ (List.mem_cons_self ..)
      have : p.1 ≠ t := fun e => by rw [e] at this; omega
      simp [this]
    have fB : B.filter (fun p => !decide (p.1 = t)) = B := List.filter_eq_self.2 fun p hp => by
      have : numT t < numT p.1 := s2' p hp
      have : p.1 ≠ t := fun e => by rw [e] at this; omega
      simp [this]
    rw [List.filter_append, List.filter_cons]
    simp [fA, fB]
    omega
end Go.Proofs.Ytpjlefdigpejdaa.multi
namespace Go.Proofs.Ytpjlefdigpejdaa.multi
open Go.ChangeShapes Go.WideShapes Go.ChangeAt Go.RowKit Go.Maps Go.WideMaps
open Go.Proofs.Ytpjlefdigpejdaa.tm Go.Proofs.Ytpjlefdigpejdaa.opened Go.Proofs.Ytpjlefdigpejdaa.block Go.Proofs.Ytpjlefdigpejdaa.stamp Go.Proofs.Ytpjlefdigpejdaa.chain

/-- Where a Multi lies: its block, its map's block, the row of the last frontier. -/
structure MulP (w : World) (g : Nat) (d : Int) (b : Nat) (A : Option Addr) (c : Nat) (L : List Tm) (M : List TN) : Prop where
  cells : Whole w g 85 #[.int .i64 d, .map (some b), .slice A L.length c]
  own : OwnM w b M
  last : Lt w A L
  ne : g ≠ b
  far : L ≠ [] → ∀ ad, A = some ad → ad.block ≠ b ∧ ad.block ≠ g
theorem MulP.below {w w' : World} {g b c : Nat} {d : Int} {A : Option Addr} {L : List Tm} {M : List TN} (h : MulP w g d b A c L M) (hb : Below w.heap.size w w') : MulP w' g d b A c L M :=
  ⟨h.cells.below hb h.cells.inside, h.own.below hb h.own.lt, h.last.below hb, h.ne, h.far⟩
theorem lt_turned {w w' : World} {A : Option Addr} {L : List Tm} {b : Nat} (h : Lt w A L) (hg : w.grownBy w' (some b)) (hf : L ≠ [] → ∀ ad, A = some ad → ad.block ≠ b) : Lt w' A L := by
  by_cases h0 : L = []
  · rw [h0]
    exact .inl rfl
  rcases h with h | ⟨b', o', hA, hlt, hc⟩
  · exact .inl h
  · have hne : b' ≠ b := hf h0 _ hA
    exact .inr ⟨b', o', hA, Nat.lt_of_lt_of_le hlt hg.size, fun k cs hk => ⟨(hc k cs hk).1, fun i hi => (World.cell?_of_block (hg.block b' hlt (by simpa using hne))).trans ((hc k cs hk).2 i hi)⟩⟩
theorem MulP.turned {w w' : World} {g b c : Nat} {d : Int} {A : Option Addr} {L : List Tm} {M N : List TN} (h : MulP w g d b A c L M) (hg : w.grownBy w' (some b)) (ho : OwnM w' b N) : MulP w' g d b A c L N :=
  ⟨h.cells.grown hg (by simpa using h.ne), ho, lt_turned h.last hg (fun h0 ad e => (h.far h0 ad e).1), h.ne, h.far⟩
theorem zeroN (w : World) : (zeroValue 2).run Try.prog w = .ok (.int .i64 0) w := by kernel_rfl

/-- What a lookup gives. -/
theorem look_run {w : World} {b : Nat} {d : Int} {M : List TN} (h : OwnM w b M) (G : GoodM d M) (t : Tm) (i : t.In) :
    (Instr.lookup 83 (.map (some b)) (.agg #[.int .u32 t.e, .int .i64 t.d, .int .u32 t.a, .int .u32 t.b, .int .u32 t.c]) false).run Try.prog w = .ok (.int .i64 (countM M t)) w := by
  obtain ⟨es, hp, ho⟩ := h
  obtain ⟨c, hrun, hat, -⟩ := ho.lookup_int keyT Try.underlying83 Try.underlying2 (zeroN w) (keyOf_time t i)
  have e := at_es hp (keys_apart ho) G i
  rw [show (DataW.lit (Lit.int .i64 0) : DataW Nat) = dN 0 from rfl, show (Lit.string (keyBytes (klB t))) = kT t from rfl, e] at hat
  have : countM M t = c := by simpa [dN] using hat
  rw [this]
  exact hrun
theorem look_ok_run {w : World} {b : Nat} {d : Int} {M : List TN} (h : OwnM w b M) (G : GoodM d M) (t : Tm) (i : t.In) :
    (Instr.lookup 83 (.map (some b)) (.agg #[.int .u32 t.e, .int .i64 t.d, .int .u32 t.a, .int .u32 t.b, .int .u32 t.c]) true).run Try.prog w = .ok (.tuple #[.int .i64 (countM M t), .bool (decide (countM M t ≠ 0))]) w := by
  obtain ⟨es, hp, ho⟩ := h
  obtain ⟨v, ps, hrun, hv⟩ := ho.look_ok keyT Try.underlying83 (zeroN w) (plainElem_int Try.underlying2 (by decide)) (keyOf_time t i)
  obtain ⟨c, rfl, hc, -⟩ := plainElem_int_inv Try.underlying2 hv
  have e := at_es hp (keys_apart ho) G i
  have hh := has_es hp G i
  simp only [Prod.mk.injEq] at hc
  have hat := hc.1
  rw [show (DataW.lit (Lit.int .i64 0) : DataW Nat) = dN 0 from rfl, show (Lit.string (keyBytes (klB t))) = kT t from rfl, e] at hat
  have : countM M t = c := by simpa [dN] using hat
  rw [show (Lit.string (keyBytes (klB t))) = kT t from rfl, hh] at hrun
  rw [this] at hrun ⊢
  exact hrun
theorem len_run {w : World} {b : Nat} {M : List TN} (h : OwnM w b M) (ty : TypeId) : (Builtin.len_ #[83] ty #[.map (some b)]).run Try.prog w = .ok (.int .i64 M.length) w := by
  obtain ⟨es, hp, ho⟩ := h
  rw [ho.len Try.underlying83 ty]
  have := hp.length_eq
  simp only [List.length_map] at this
  rw [Maps.size_eq, this]

theorem count_any {g b c : Nat} {d : Int} {A : Option Addr} {L : List Tm} {M : List TN} (t : Tm) (i : t.In) (G : GoodM d M) (w : World) (h : MulP w g d b A c L M) :
    Calls Try.prog 20 #[.pointer (some ⟨g, 0, none⟩), .agg #[.int .u32 t.e, .int .i64 t.d, .int .u32 t.a, .int .u32 t.b, .int .u32 t.c]] w fun e w' => e = .returned (.int .i64 (countM M t)) ∧ Below w.heap.size w w' := by
  have hb : Below w.heap.size w (w.alloc (.cells (#[.int .u32 t.e, .int .i64 t.d, .int .u32 t.a, .int .u32 t.b, .int .u32 t.c]) 33)).drew := (fresh1 w (.cells (#[.int .u32 t.e, .int .i64 t.d, .int .u32 t.a, .int .u32 t.b, .int .u32 t.c]) 33)).drew
  have hl := look_run (w := (w.alloc (.cells (#[.int .u32 t.e, .int .i64 t.d, .int .u32 t.a, .int .u32 t.b, .int .u32 t.c]) 33)).drew) (h.own.below hb h.own.lt) G t i
  have c1 : (w.alloc (.cells (#[.int .u32 t.e, .int .i64 t.d, .int .u32 t.a, .int .u32 t.b, .int .u32 t.c]) 33)).drew.cell? ⟨g, 1, none⟩ = some (.map (some b)) := (h.cells.below hb h.cells.inside).read 1
  have f1 : (w.alloc (.cells (#[.int .u32 t.e, .int .i64 t.d, .int .u32 t.a, .int .u32 t.b, .int .u32 t.c]) 33)).drew.frozen? ⟨g, 1, none⟩ = false := (h.cells.below hb h.cells.inside).soft 1
  clear h hb
  go_enter Try.func20, Try.ntmps20
  go_upto_region 1 with fail
  go_region
  go_wp2_with fail
  go_ret
  exact ⟨rfl, (fresh1 w _).drew⟩
end Go.Proofs.Ytpjlefdigpejdaa.multi
namespace Go.Proofs.Ytpjlefdigpejdaa.multi
open Go.ChangeShapes Go.WideShapes Go.ChangeAt Go.RowKit Go.Maps Go.WideMaps
open Go.Proofs.Ytpjlefdigpejdaa.tm Go.Proofs.Ytpjlefdigpejdaa.opened Go.Proofs.Ytpjlefdigpejdaa.block Go.Proofs.Ytpjlefdigpejdaa.stamp Go.Proofs.Ytpjlefdigpejdaa.chain

def setE (M : List TN) (t : Tm) (n : Int) : Int := if n ≠ 0 ∧ countM M t = 0 ∧ M.length = 4096 then 2 else 0
def setV (M : List TN) (t : Tm) (n : Int) : List TN := if n ≠ 0 ∧ countM M t = 0 ∧ M.length = 4096 then M else putM M t n
theorem del_run {w : World} {b : Nat} {d : Int} {M : List TN} (h : OwnM w b M) (G : GoodM d M) (t : Tm) (i : t.In) (ty : TypeId) :
    ∃ w', (Builtin.delete_ #[83, 33] ty #[.map (some b), .agg #[.int .u32 t.e, .int .i64 t.d, .int .u32 t.a, .int .u32 t.b, .int .u32 t.c]]).run Try.prog w = .ok (.tuple #[]) w' ∧ OwnM w' b (putM M t 0) ∧ w.grownBy w' (some b) := by
  obtain ⟨es, hp, ho⟩ := h
  obtain ⟨w', hrun, hown, ht⟩ := ho.drop keyT Try.underlying83 (keyOf_time t i) ty
  exact ⟨w', hrun, own_of hown (del_es hp G.inn i), ht.grown⟩
theorem put_run {w : World} {b : Nat} {d : Int} {M : List TN} (h : OwnM w b M) (hl : M.length ≤ 4096) (G : GoodM d M) (t : Tm) (i : t.In) {n : Int} (hn : n ≠ 0) (h0 : -9223372036854775808 ≤ n) (h1 : n ≤ 9223372036854775807) :
    ∃ w', (Instr.mapUpdate 83 (.map (some b)) (.agg #[.int .u32 t.e, .int .i64 t.d, .int .u32 t.a, .int .u32 t.b, .int .u32 t.c]) (.int .i64 n)).run Try.prog w = .ok () w' ∧ OwnM w' b (putM M t n) ∧ w.grownBy w' (some b) := by
  obtain ⟨es, hp, ho⟩ := h
  obtain ⟨w', hrun, hown, ht⟩ := ho.store keyT Try.underlying83 (by unfold maxLen; omega) (keyOf_time t i) (plainElem_int Try.underlying2 (wf_i64 h0 h1))
  exact ⟨w', hrun, own_of hown (put_es hp G.inn i hn), ht.grown⟩
theorem set_zero {g b c : Nat} {d : Int} {A : Option Addr} {L : List Tm} {M : List TN} (t : Tm) (i : t.In) (G : GoodM d M) (w : World) (h : MulP w g d b A c L M) :
    Calls Try.prog 50 #[.pointer (some ⟨g, 0, none⟩), .agg #[.int .u32 t.e, .int .i64 t.d, .int .u32 t.a, .int .u32 t.b, .int .u32 t.c], .int .i64 0] w fun e w' => e = .returned (.int .i64 0) ∧ MulP w' g d b A c L (putM M t 0) ∧ w.grownBy w' (some b) := by
  have hb : Below w.heap.size w (w.alloc (.cells (#[.int .u32 t.e, .int .i64 t.d, .int .u32 t.a, .int .u32 t.b, .int .u32 t.c]) 33)).drew := (fresh1 w (.cells (#[.int .u32 t.e, .int .i64 t.d, .int .u32 t.a, .int .u32 t.b, .int .u32 t.c]) 33)).drew
  have h1 := h.below hb
  obtain ⟨w', hrun, ho, hg⟩ := del_run h1.own G t i 0
  have hp := Lib.hid (h1.turned hg ho)
  have hk := Lib.hid (only_trans (only_of_below hb (some b)) hg)
  have c1 : (w.alloc (.cells (#[.int .u32 t.e, .int .i64 t.d, .int .u32 t.a, .int .u32 t.b, .int .u32 t.c]) 33)).drew.cell? ⟨g, 1, none⟩ = some (.map (some b)) := h1.cells.read 1
  have f1 : (w.alloc (.cells (#[.int .u32 t.e, .int .i64 t.d, .int .u32 t.a, .int .u32 t.b, .int .u32 t.c]) 33)).drew.frozen? ⟨g, 1, none⟩ = false := h1.cells.soft 1
  clear h hb h1 ho hg
  go_enter Try.func50, Try.ntmps50
  go_upto_region 2 with fail
  go_region
  go_wp2_with fail
  go_ret
  exact ⟨rfl, hp.out, hk.out⟩
set_option maxRecDepth 100000 in
theorem set_full {g b c : Nat} {d : Int} {A : Option Addr} {L : List Tm} {M : List TN} (t : Tm) (i : t.In) (n : Int) (hn : n ≠ 0) (hc : countM M t = 0) (hl : M.length = 4096) (G : GoodM d M) (w : World) (h : MulP w g d b A c L M) :
    Calls Try.prog 50 #[.pointer (some ⟨g, 0, none⟩), .agg #[.int .u32 t.e, .int .i64 t.d, .int .u32 t.a, .int .u32 t.b, .int .u32 t.c], .int .i64 n] w fun e w' => e = .returned (.int .i64 2) ∧ MulP w' g d b A c L M ∧ w.grownBy w' (some b) := by
  have hb : Below w.heap.size w (w.alloc (.cells (#[.int .u32 t.e, .int .i64 t.d, .int .u32 t.a, .int .u32 t.b, .int .u32 t.c]) 33)).drew := (fresh1 w (.cells (#[.int .u32 t.e, .int .i64 t.d, .int .u32 t.a, .int .u32 t.b, .int .u32 t.c]) 33)).drew
  have h1 := h.below hb
  have hrun := look_ok_run h1.own G t i
  have hlen := len_run h1.own 3
  rw [hc] at hrun
  rw [hl] at hlen
  simp only [ne_eq, not_true_eq_false, decide_false] at hrun
  have hp := Lib.hid h1
  have hk := Lib.hid (only_of_below hb (some b))
  have c1 : (w.alloc (.cells (#[.int .u32 t.e, .int .i64 t.d, .int .u32 t.a, .int .u32 t.b, .int .u32 t.c]) 33)).drew.cell? ⟨g, 1, none⟩ = some (.map (some b)) := h1.cells.read 1
  have f1 : (w.alloc (.cells (#[.int .u32 t.e, .int .i64 t.d, .int .u32 t.a, .int .u32 t.b, .int .u32 t.c]) 33)).drew.frozen? ⟨g, 1, none⟩ = false := h1.cells.soft 1
  clear h hb h1 hc hl
  go_enter Try.func50, Try.ntmps50
  go_upto_region 4 with fail
  go_region
  go_wp2_with fail
  go_ret
  exact ⟨rfl, hp.out, hk.out⟩
set_option maxRecDepth 100000 in
theorem set_puts {g b c : Nat} {d : Int} {A : Option Addr} {L : List Tm} {M : List TN} (t : Tm) (i : t.In) (n : Int) (hn : n ≠ 0) (h0 : -9223372036854775808 ≤ n) (h9 : n ≤ 9223372036854775807) (hm : M.length ≤ 4096) (hc : countM M t ≠ 0 ∨ M.length ≠ 4096) (G : GoodM d M) (w : World) (h : MulP w g d b A c L M) :
    Calls Try.prog 50 #[.pointer (some ⟨g, 0, none⟩), .agg #[.int .u32 t.e, .int .i64 t.d, .int .u32 t.a, .int .u32 t.b, .int .u32 t.c], .int .i64 n] w fun e w' => e = .returned (.int .i64 0) ∧ MulP w' g d b A c L (putM M t n) ∧ w.grownBy w' (some b) := by
  have hb : Below w.heap.size w (w.alloc (.cells (#[.int .u32 t.e, .int .i64 t.d, .int .u32 t.a, .int .u32 t.b, .int .u32 t.c]) 33)).drew := (fresh1 w (.cells (#[.int .u32 t.e, .int .i64 t.d, .int .u32 t.a, .int .u32 t.b, .int .u32 t.c]) 33)).drew
  have h1 := h.below hb
  have hb2 : Below w.heap.size w (w.alloc (.cells (#[.int .u32 t.e, .int .i64 t.d, .int .u32 t.a, .int .u32 t.b, .int .u32 t.c]) 33)).drew.drew := hb.drew
  have h2 := h.below hb2
  have hrun := look_ok_run h1.own G t i
  have hlen := len_run h1.own 3
  obtain ⟨w', hput, ho, hg⟩ := put_run h2.own hm G t i hn h0 h9
  have hp := Lib.hid (h2.turned hg ho)
  have hk := Lib.hid (only_trans (only_of_below hb2 (some b)) hg)
  have c1 : (w.alloc (.cells (#[.int .u32 t.e, .int .i64 t.d, .int .u32 t.a, .int .u32 t.b, .int .u32 t.c]) 33)).drew.cell? ⟨g, 1, none⟩ = some (.map (some b)) := h1.cells.read 1
  have f1 : (w.alloc (.cells (#[.int .u32 t.e, .int .i64 t.d, .int .u32 t.a, .int .u32 t.b, .int .u32 t.c]) 33)).drew.frozen? ⟨g, 1, none⟩ = false := h1.cells.soft 1
  have c2 : (w.alloc (.cells (#[.int .u32 t.e, .int .i64 t.d, .int .u32 t.a, .int .u32 t.b, .int .u32 t.c]) 33)).drew.drew.cell? ⟨g, 1, none⟩ = some (.map (some b)) := h1.cells.read 1
  have f2 : (w.alloc (.cells (#[.int .u32 t.e, .int .i64 t.d, .int .u32 t.a, .int .u32 t.b, .int .u32 t.c]) 33)).drew.drew.frozen? ⟨g, 1, none⟩ = false := h1.cells.soft 1
  clear h hb h1 hb2 h2 ho hg
  by_cases hz : countM M t = 0
  · have hl : ¬ ((M.length : Int) = 4096) := by omega
    rw [hz] at hrun
    simp only [ne_eq, not_true_eq_false, decide_false] at hrun
    clear hc hz
    go_enter Try.func50, Try.ntmps50
    go_upto_region 4 with fail
    go_region
    go_upto_region 7 with fail
    go_region
    go_wp2_with fail
    go_ret
    exact ⟨rfl, hp.out, hk.out⟩
  · rw [decide_eq_true hz] at hrun
    clear hc hz
    go_enter Try.func50, Try.ntmps50
    go_upto_region 4 with fail
    go_region
    go_upto_region 7 with fail
    go_region
    go_wp2_with fail
    go_ret
    exact ⟨rfl, hp.out, hk.out⟩
set_option maxRecDepth 100000 in
theorem set_any {g b c : Nat} {d : Int} {A : Option Addr} {L : List Tm} {M : List TN} (t : Tm) (i : t.In) (n : Int) (h0 : -9223372036854775808 ≤ n) (h9 : n ≤ 9223372036854775807) (hm : M.length ≤ 4096) (G : GoodM d M) (w : World) (h : MulP w g d b A c L M) :
    Calls Try.prog 50 #[.pointer (some ⟨g, 0, none⟩), .agg #[.int .u32 t.e, .int .i64 t.d, .int .u32 t.a, .int .u32 t.b, .int .u32 t.c], .int .i64 n] w fun e w' => e = .returned (.int .i64 (setE M t n)) ∧ MulP w' g d b A c L (setV M t n) ∧ w.grownBy w' (some b) := by
  by_cases hf : n ≠ 0 ∧ countM M t = 0 ∧ M.length = 4096
  · unfold setE setV
    rw [if_pos hf, if_pos hf]
    exact set_full t i n hf.1 hf.2.1 hf.2.2 G w h
  · unfold setE setV
    rw [if_neg hf, if_neg hf]
    by_cases hn : n = 0
    · subst hn
      exact set_zero t i G w h
    · exact set_puts t i n hn h0 h9 hm (by omega) G w h
end Go.Proofs.Ytpjlefdigpejdaa.multi
namespace Go.Proofs.Ytpjlefdigpejdaa.multi
open Go.ChangeShapes Go.WideShapes Go.ChangeAt Go.RowKit Go.Maps Go.WideMaps
open Go.Proofs.Ytpjlefdigpejdaa.tm Go.Proofs.Ytpjlefdigpejdaa.opened Go.Proofs.Ytpjlefdigpejdaa.block Go.Proofs.Ytpjlefdigpejdaa.stamp Go.Proofs.Ytpjlefdigpejdaa.chain

def addE (d : Int) (M : List TN) (t : Tm) (n : Int) : Int :=
  if chk t ≠ 0 then chk t else if t.d ≠ d then 10 else if n < -1099511627776 - countM M t ∨ 1099511627776 - countM M t < n then 9 else setE M t (countM M t + n)
def addV (d : Int) (M : List TN) (t : Tm) (n : Int) : List TN :=
  if chk t ≠ 0 then M else if t.d ≠ d then M else if n < -1099511627776 - countM M t ∨ 1099511627776 - countM M t < n then M else setV M t (countM M t + n)
set_option maxRecDepth 100000
theorem add_bad {g b c : Nat} {d : Int} {A : Option Addr} {L : List Tm} {M : List TN} (t : Tm) (i : t.In) (n : Int) (hk : chk t ≠ 0) (w : World) (h : MulP w g d b A c L M) :
    Calls Try.prog 13 #[.pointer (some ⟨g, 0, none⟩), .agg #[.int .u32 t.e, .int .i64 t.d, .int .u32 t.a, .int .u32 t.b, .int .u32 t.c], .int .i64 n] w fun e w' => e = .returned (.int .i64 (chk t)) ∧ MulP w' g d b A c L M ∧ w.grownBy w' (some b) := by
  have H := Lib.hid h
  clear h
  have hC := Lib.hid (check_any t i)
  generalize chk t = k at hk hC
  go_enter Try.func13, Try.ntmps13
  go_wp2_with ((go_at_call 49; refine (hC.out _).mono ?_; rintro e w1 ⟨rfl, b1⟩; have hb1 := Lib.hid b1; clear b1))
  go_ret
  have B := Below.trans (fresh1 w (.cells (#[.int .u32 t.e, .int .i64 t.d, .int .u32 t.a, .int .u32 t.b, .int .u32 t.c]) 33)) (hb1.out.mono (fresh1 w _).size) 
  exact ⟨rfl, H.out.below B, only_of_below B (some b)⟩
theorem add_depth {g b c : Nat} {d : Int} {A : Option Addr} {L : List Tm} {M : List TN} (t : Tm) (i : t.In) (n : Int) (hk : chk t = 0) (hd : t.d ≠ d) (w : World) (h : MulP w g d b A c L M) :
    Calls Try.prog 13 #[.pointer (some ⟨g, 0, none⟩), .agg #[.int .u32 t.e, .int .i64 t.d, .int .u32 t.a, .int .u32 t.b, .int .u32 t.c], .int .i64 n] w fun e w' => e = .returned (.int .i64 10) ∧ MulP w' g d b A c L M ∧ w.grownBy w' (some b) := by
  have H := Lib.hid h
  clear h
  have hC := Lib.hid (check_any t i)
  rw [hk] at hC
  have hT := Lib.hid (Whole.fresh w 33 (#[.int .u32 t.e, .int .i64 t.d, .int .u32 t.a, .int .u32 t.b, .int .u32 t.c]))
  go_enter Try.func13, Try.ntmps13
  go_upto_region 4 with ((go_at_call 49; refine (hC.out _).mono ?_; rintro e w1 ⟨rfl, b1⟩; have hb1 := Lib.hid b1; have hB := Lib.hid (Below.trans (fresh1 w (.cells (#[.int .u32 t.e, .int .i64 t.d, .int .u32 t.a, .int .u32 t.b, .int .u32 t.c]) 33)) (b1.mono (fresh1 w _).size)); have hT1 := Lib.hid (hT.out.below b1 hT.out.inside); clear b1))
  have hH := Lib.hid (H.out.below hB.out)
  have t1 : w1.drew.cell? ⟨w.heap.size, 1, none⟩ = some (.int .i64 t.d) := hT1.out.read 1
  have u1 : w1.drew.frozen? ⟨w.heap.size, 1, none⟩ = false := hT1.out.soft 1
  have c0 : w1.drew.cell? ⟨g, 0, none⟩ = some (.int .i64 d) := hH.out.cells.read 0
  have f0 : w1.drew.frozen? ⟨g, 0, none⟩ = false := hH.out.cells.soft 0
  go_region
  go_wp2_with fail
  go_ret
  exact ⟨rfl, hH.out.below (Below.refl _ _).drew, only_of_below hB.out.drew (some b)⟩
theorem add_over {g b c : Nat} {d : Int} {A : Option Addr} {L : List Tm} {M : List TN} (t : Tm) (i : t.In) (n : Int) (hk : chk t = 0) (hd : t.d = d) (G : GoodM d M) (hx : n < -1099511627776 - countM M t ∨ 1099511627776 - countM M t < n) (w : World) (h : MulP w g d b A c L M) :
    Calls Try.prog 13 #[.pointer (some ⟨g, 0, none⟩), .agg #[.int .u32 t.e, .int .i64 t.d, .int .u32 t.a, .int .u32 t.b, .int .u32 t.c], .int .i64 n] w fun e w' => e = .returned (.int .i64 9) ∧ MulP w' g d b A c L M ∧ w.grownBy w' (some b) := by
  subst hd
  replace hx := Lib.hid hx
  have hxx := hx
  clear hx
  have H := Lib.hid h
  clear h
  have hC := Lib.hid (check_any t i)
  rw [hk] at hC
  have hT := Lib.hid (Whole.fresh w 33 (#[.int .u32 t.e, .int .i64 t.d, .int .u32 t.a, .int .u32 t.b, .int .u32 t.c]))
  have hq := Lib.hid (count_in G t)
  go_enter Try.func13, Try.ntmps13
  go_upto_region 4 with ((go_at_call 49; refine (hC.out _).mono ?_; rintro e w1 ⟨rfl, b1⟩; have hb1 := Lib.hid b1; have hB := Lib.hid (Below.trans (fresh1 w (.cells (#[.int .u32 t.e, .int .i64 t.d, .int .u32 t.a, .int .u32 t.b, .int .u32 t.c]) 33)) (b1.mono (fresh1 w _).size)); have hT1 := Lib.hid (hT.out.below b1 hT.out.inside); clear b1))
  have hH := Lib.hid (H.out.below hB.out)
  have t1 : w1.drew.cell? ⟨w.heap.size, 1, none⟩ = some (.int .i64 t.d) := hT1.out.read 1
  have u1 : w1.drew.frozen? ⟨w.heap.size, 1, none⟩ = false := hT1.out.soft 1
  have c0 : w1.drew.cell? ⟨g, 0, none⟩ = some (.int .i64 t.d) := hH.out.cells.read 0
  have f0 : w1.drew.frozen? ⟨g, 0, none⟩ = false := hH.out.cells.soft 0
  go_region
  clear t1 u1 c0 f0
  have hW := Lib.hid (hT1.out.drewN 2)
  have c1 : w1.drew.drew.cell? ⟨g, 1, none⟩ = some (.map (some b)) := hH.out.cells.read 1
  have f1 : w1.drew.drew.frozen? ⟨g, 1, none⟩ = false := hH.out.cells.soft 1
  have hl := look_run (w := w1.drew.drew) (H.out.below hB.out.drew.drew).own G t i
  have t2 : ∀ j, w1.drew.drew.cell? ⟨w.heap.size, j, none⟩ = (#[.int .u32 t.e, .int .i64 t.d, .int .u32 t.a, .int .u32 t.b, .int .u32 t.c] : Array Value)[j]? := fun j => hT1.out.read j
  have t20 : w1.drew.drew.cell? ⟨w.heap.size, 0, none⟩ = some (.int .u32 t.e) := t2 0
  have t21 : w1.drew.drew.cell? ⟨w.heap.size, 0 + 1, none⟩ = some (.int .i64 t.d) := t2 1
  have t22 : w1.drew.drew.cell? ⟨w.heap.size, 1, none⟩ = some (.int .i64 t.d) := t2 1
  have t23 : w1.drew.drew.cell? ⟨w.heap.size, 2, none⟩ = some (.int .u32 t.a) := t2 2
  have t24 : w1.drew.drew.cell? ⟨w.heap.size, 3, none⟩ = some (.int .u32 t.b) := t2 3
  have t25 : w1.drew.drew.cell? ⟨w.heap.size, 4, none⟩ = some (.int .u32 t.c) := t2 4
  clear t2
  go_upto_region 6 with fail
  go_region
  clear c1 f1 hl t20 t21 t22 t23 t24 t25
  have hx := hxx.out
  have hq := hq.out
  clear hxx
  generalize countM M t = old at hx hq ⊢
  have e1 : IntKind.i64.wrap (-1099511627776 - old) = -1099511627776 - old := by rw [IntKind.wrap_i64]; omega
  have e2 : IntKind.i64.wrap (1099511627776 - old) = 1099511627776 - old := by rw [IntKind.wrap_i64]; omega
  by_cases hy : n < -1099511627776 - old
  · clear hx
    go_wp2_with fail
    go_ret
    exact ⟨rfl, hH.out.below (Below.refl _ _).drew.drew, only_of_below hB.out.drew.drew (some b)⟩
  · have hz : 1099511627776 - old < n := by omega
    clear hx
    go_wp2_with fail
    go_ret
    exact ⟨rfl, hH.out.below (Below.refl _ _).drew.drew, only_of_below hB.out.drew.drew (some b)⟩
theorem add_sets {g b c : Nat} {d : Int} {A : Option Addr} {L : List Tm} {M : List TN} (t : Tm) (i : t.In) (n : Int) (hk : chk t = 0) (hd : t.d = d) (G : GoodM d M) (hm : M.length ≤ 4096) (hx : -1099511627776 - countM M t ≤ n ∧ n ≤ 1099511627776 - countM M t) (w : World) (h : MulP w g d b A c L M) :
    Calls Try.prog 13 #[.pointer (some ⟨g, 0, none⟩), .agg #[.int .u32 t.e, .int .i64 t.d, .int .u32 t.a, .int .u32 t.b, .int .u32 t.c], .int .i64 n] w fun e w' => e = .returned (.int .i64 (setE M t (countM M t + n))) ∧ MulP w' g d b A c L (setV M t (countM M t + n)) ∧ w.grownBy w' (some b) := by
  subst hd
  have hqq := count_in G t
  have hS := Lib.hid (fun w2 hw2 => set_any (g := g) (b := b) (c := c) (A := A) (L := L) t i (countM M t + n) (by omega) (by omega) hm G w2 hw2)
  generalize setE M t (countM M t + n) = E1 at hS ⊢
  generalize setV M t (countM M t + n) = V1 at hS ⊢
  clear hqq
  replace hx := Lib.hid hx
  have hxx := hx
  clear hx
  have H := Lib.hid h
  clear h
  have hC := Lib.hid (check_any t i)
  rw [hk] at hC
  have hT := Lib.hid (Whole.fresh w 33 (#[.int .u32 t.e, .int .i64 t.d, .int .u32 t.a, .int .u32 t.b, .int .u32 t.c]))
  have hq := Lib.hid (count_in G t)
  go_enter Try.func13, Try.ntmps13
  go_upto_region 4 with ((go_at_call 49; refine (hC.out _).mono ?_; rintro e w1 ⟨rfl, b1⟩; have hb1 := Lib.hid b1; have hB := Lib.hid (Below.trans (fresh1 w (.cells (#[.int .u32 t.e, .int .i64 t.d, .int .u32 t.a, .int .u32 t.b, .int .u32 t.c]) 33)) (b1.mono (fresh1 w _).size)); have hT1 := Lib.hid (hT.out.below b1 hT.out.inside); clear b1))
  have hH := Lib.hid (H.out.below hB.out)
  have t1 : w1.drew.cell? ⟨w.heap.size, 1, none⟩ = some (.int .i64 t.d) := hT1.out.read 1
  have u1 : w1.drew.frozen? ⟨w.heap.size, 1, none⟩ = false := hT1.out.soft 1
  have c0 : w1.drew.cell? ⟨g, 0, none⟩ = some (.int .i64 t.d) := hH.out.cells.read 0
  have f0 : w1.drew.frozen? ⟨g, 0, none⟩ = false := hH.out.cells.soft 0
  go_region
  clear t1 u1 c0 f0
  have hW := Lib.hid (hT1.out.drewN 2)
  have c1 : w1.drew.drew.cell? ⟨g, 1, none⟩ = some (.map (some b)) := hH.out.cells.read 1
  have f1 : w1.drew.drew.frozen? ⟨g, 1, none⟩ = false := hH.out.cells.soft 1
  have hl := look_run (w := w1.drew.drew) (H.out.below hB.out.drew.drew).own G t i
  have t2 : ∀ j, w1.drew.drew.cell? ⟨w.heap.size, j, none⟩ = (#[.int .u32 t.e, .int .i64 t.d, .int .u32 t.a, .int .u32 t.b, .int .u32 t.c] : Array Value)[j]? := fun j => hT1.out.read j
  have t20 : w1.drew.drew.cell? ⟨w.heap.size, 0, none⟩ = some (.int .u32 t.e) := t2 0
  have t21 : w1.drew.drew.cell? ⟨w.heap.size, 0 + 1, none⟩ = some (.int .i64 t.d) := t2 1
  have t22 : w1.drew.drew.cell? ⟨w.heap.size, 1, none⟩ = some (.int .i64 t.d) := t2 1
  have t23 : w1.drew.drew.cell? ⟨w.heap.size, 2, none⟩ = some (.int .u32 t.a) := t2 2
  have t24 : w1.drew.drew.cell? ⟨w.heap.size, 3, none⟩ = some (.int .u32 t.b) := t2 3
  have t25 : w1.drew.drew.cell? ⟨w.heap.size, 4, none⟩ = some (.int .u32 t.c) := t2 4
  clear t2
  go_upto_region 6 with fail
  go_region
  clear c1 f1 hl
  have hx := hxx.out
  have hq := hq.out
  clear hxx
  generalize countM M t = old at hx hq hS
  have e1 : IntKind.i64.wrap (-1099511627776 - old) = -1099511627776 - old := by rw [IntKind.wrap_i64]; omega
  have e2 : IntKind.i64.wrap (1099511627776 - old) = 1099511627776 - old := by rw [IntKind.wrap_i64]; omega
  have e3 : IntKind.i64.wrap (old + n) = old + n := by rw [IntKind.wrap_i64]; omega
  have hy : ¬ n < -1099511627776 - old := by omega
  have hz : ¬ 1099511627776 - old < n := by omega
  clear hx hq
  have hM2 := Lib.hid (hH.out.below (Below.refl _ _).drew.drew)
  have hB2 := Lib.hid hB.out.drew.drew
  go_wp2_with ((go_at_call 50; refine (hS.out _ hM2.out).mono ?_; rintro e w3 ⟨rfl, p3, g3⟩; have hp3 := Lib.hid p3; have hg3 := Lib.hid g3; clear p3 g3))
  go_ret
  exact ⟨rfl, hp3.out, only_trans (only_of_below hB2.out (some b)) hg3.out⟩
theorem add_any {g b c : Nat} {d : Int} {A : Option Addr} {L : List Tm} {M : List TN} (t : Tm) (i : t.In) (n : Int) (G : GoodM d M) (hm : M.length ≤ 4096) (w : World) (h : MulP w g d b A c L M) :
    Calls Try.prog 13 #[.pointer (some ⟨g, 0, none⟩), .agg #[.int .u32 t.e, .int .i64 t.d, .int .u32 t.a, .int .u32 t.b, .int .u32 t.c], .int .i64 n] w fun e w' => e = .returned (.int .i64 (addE d M t n)) ∧ MulP w' g d b A c L (addV d M t n) ∧ w.grownBy w' (some b) := by
  unfold addE addV
  by_cases hk : chk t ≠ 0
  · rw [if_pos hk, if_pos hk]
    exact add_bad t i n hk w h
  · have hk : chk t = 0 := by omega
    have hk' : ¬ chk t ≠ 0 := by omega
    rw [if_neg hk', if_neg hk']
    by_cases hd : t.d = d
    · have hd' : ¬ t.d ≠ d := by omega
      rw [if_neg hd', if_neg hd']
      by_cases hx : n < -1099511627776 - countM M t ∨ 1099511627776 - countM M t < n
      · rw [if_pos hx, if_pos hx]
        exact add_over t i n hk hd G hx w h
      · rw [if_neg hx, if_neg hx]
        exact add_sets t i n hk hd G hm (by omega) w h
    · rw [if_pos hd, if_pos hd]
      exact add_depth t i n hk hd w h
theorem put_len0 {M : List TN} (hi : ∀ p ∈ M, p.1.In) {t : Tm} (i : t.In) : (putM M t 0).length ≤ M.length := by
  rw [(putM_zero hi i).length_eq]
  exact List.length_filter_le _ _
theorem set_good {d : Int} {M : List TN} (G : GoodM d M) (hm : M.length ≤ 4096) {t : Tm} (i : t.In) (hk : chk t = 0) (hd : t.d = d) {n : Int} (h0 : -1099511627776 ≤ n) (h1 : n ≤ 1099511627776) : GoodM d (setV M t n) ∧ (setV M t n).length ≤ 4096 := by
  unfold setV
  by_cases hf : n ≠ 0 ∧ countM M t = 0 ∧ M.length = 4096
  · rw [if_pos hf]
    exact ⟨G, hm⟩
  · rw [if_neg hf]
    refine ⟨put_good G i hk hd h0 h1, ?_⟩
    by_cases hn : n = 0
    · subst hn
      exact Nat.le_trans (put_len0 G.inn i) hm
    · rw [put_len G i hn]
      split <;> omega
theorem add_good {d : Int} {M : List TN} (G : GoodM d M) (hm : M.length ≤ 4096) {t : Tm} (i : t.In) (n : Int) : GoodM d (addV d M t n) ∧ (addV d M t n).length ≤ 4096 := by
  unfold addV
  by_cases hk : chk t ≠ 0
  · rw [if_pos hk]
    exact ⟨G, hm⟩
  · rw [if_neg hk]
    by_cases hd : t.d ≠ d
    · rw [if_pos hd]
      exact ⟨G, hm⟩
    · rw [if_neg hd]
      by_cases hx : n < -1099511627776 - countM M t ∨ 1099511627776 - countM M t < n
      · rw [if_pos hx]
        exact ⟨G, hm⟩
      · rw [if_neg hx]
        exact set_good G hm i (by omega) (by omega) (by omega) (by omega)
/-- What is counted behind an addition that is not refused. -/
theorem count_put {d : Int} {M : List TN} (G : GoodM d M) {t : Tm} (i : t.In) (n : Int) (u : Tm) (G' : GoodM d (putM M t n)) : countM (putM M t n) u = if u = t then n else countM M u := by
  have hmem : ∀ (v : Tm) (m : Int), (v, m) ∈ putM M t n ↔ (if v = t then m = n ∧ n ≠ 0 else (v, m) ∈ M) := by
    intro v m
    by_cases hn : n = 0
    · subst hn
      rw [(putM_zero G.inn i).mem_iff, List.mem_filter]
      by_cases hv : v = t <;> simp [hv]
    · rw [(putM_some G.inn i hn).mem_iff, List.mem_cons, List.mem_filter]
      by_cases hv : v = t <;> simp [hv, hn]
  by_cases hc : countM (putM M t n) u ≠ 0
  · have h1 := (hmem u _).1 (count_at G' u hc)
    by_cases hu : u = t
    · rw [if_pos hu] at h1 ⊢
      exact h1.1
    · rw [if_neg hu] at h1 ⊢
      exact (count_mem G.srt h1).symm
  · have hz : countM (putM M t n) u = 0 := by omega
    rw [hz]
    by_cases hu : u = t
    · rw [if_pos hu]
      by_cases hn : n = 0
      · exact hn.symm
      · exact absurd ((count_ne G' u).2 ⟨n, (hmem u n).2 (by rw [if_pos hu]; exact ⟨rfl, hn⟩)⟩) hc
    · rw [if_neg hu]
      by_cases hm : countM M u = 0
      · exact hm.symm
      · exact absurd ((count_ne G' u).2 ⟨_, (hmem u _).2 (by rw [if_neg hu]; exact count_at G u hm)⟩) hc
end Go.Proofs.Ytpjlefdigpejdaa.multi
