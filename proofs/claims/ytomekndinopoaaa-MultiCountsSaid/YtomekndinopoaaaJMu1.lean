/-
  Pairs of times and numbers, and the map that holds them.
  A slice of times that came in; calls over slices in a region that draws its order.
  multi.Multi: where it lies; Count and New.
-/
import Derived.Test.YtomekndinopoaaaJLeC
import Derived.Test.YtomekndinopoaaaJNm
import Derived.Test.YtomekndinopoaaaJHoR
import Derived.Test.YtomekndinopoaaaJLe
import Derived.WalkKit
namespace Go.Proofs.Ytomekndinopoaaa.multi
open Go.ChangeShapes Go.WideShapes Go.ChangeAt Go.RowKit Go.Maps Go.WideMaps
open Go.Proofs.Ytomekndinopoaaa.tm Go.Proofs.Ytomekndinopoaaa.opened Go.Proofs.Ytomekndinopoaaa.block Go.Proofs.Ytomekndinopoaaa.stamp Go.Proofs.Ytomekndinopoaaa.chain

abbrev TN : Type := Tm × Int
def kT (t : Tm) : Lit := .string (keyBytes (klB t))
def dN (n : Int) : DataW Nat := .lit (.int .i64 n)
def pE (p : TN) : Lit × DataW Nat := (kT p.1, dN p.2)
theorem isKey (t : Tm) : WideAt.IsKeyLit (kT t) := by simp [kT, WideAt.IsKeyLit]
theorem kT_inj {s t : Tm} (i : s.In) (j : t.In) (h : kT s = kT t) : s = t := by
  have e := keyT.inj (keyOf_time s i) ((keyOf_time t j).trans (congrArg some h.symm))
  cases s; cases t
  simp only [Value.agg.injEq] at e
  simp at e
  obtain ⟨e1, e2, e3, e4, e5⟩ := e
  subst e1 e2 e3 e4 e5
  rfl

/-- How often a time is there. -/
def countM : List TN → Tm → Int
  | [], _ => 0
  | p :: r, t => if p.1 = t then p.2 else countM r t
/-- The pairs with a time's number put in its place; 0 strikes it. -/
def putM (M : List TN) (t : Tm) (n : Int) : List TN :=
  M.filter (fun p => decide (numT p.1 < numT t)) ++ ((if n = 0 then [] else [(t, n)]) ++ M.filter (fun p => decide (numT t < numT p.1)))

structure GoodM (d : Int) (M : List TN) : Prop where
  key : ∀ p ∈ M, p.1.In ∧ chk p.1 = 0 ∧ p.1.d = d
  num : ∀ p ∈ M, p.2 ≠ 0 ∧ -1099511627776 ≤ p.2 ∧ p.2 ≤ 1099511627776
  srt : M.Pairwise (fun p q => numT p.1 < numT q.1)

theorem GoodM.nil (d : Int) : GoodM d [] := ⟨by simp, by simp, List.Pairwise.nil⟩
theorem GoodM.inn {d : Int} {M : List TN} (h : GoodM d M) : ∀ p ∈ M, p.1.In := fun p hp => (h.key p hp).1

theorem count_not {M : List TN} {t : Tm} (h : ∀ p ∈ M, p.1 ≠ t) : countM M t = 0 := by
  induction M with
  | nil => rfl
  | cons p r ih =>
    unfold countM
    rw [if_neg (h p (by simp))]
    exact ih fun q hq => h q (by simp [hq])
theorem count_mem {M : List TN} {p : TN} (hs : M.Pairwise (fun p q => numT p.1 < numT q.1)) (hp : p ∈ M) : countM M p.1 = p.2 := by
  induction M with
  | nil => simp at hp
  | cons q r ih =>
    obtain ⟨h1, h2⟩ := List.pairwise_cons.1 hs
    unfold countM
    rcases List.mem_cons.1 hp with rfl | hp
    · rw [if_pos rfl]
    · have := h1 p hp
      rw [if_neg (by intro e; rw [e] at this; omega)]
      exact ih h2 hp
theorem count_ne {d : Int} {M : List TN} (h : GoodM d M) (t : Tm) : countM M t ≠ 0 ↔ ∃ n, (t, n) ∈ M := by
  constructor
  · intro hc
    by_cases hm : ∃ n, (t, n) ∈ M
    · exact hm
    · exact absurd (count_not (fun p hp e => hm ⟨p.2, by rw [← e]; exact hp⟩)) hc
  · rintro ⟨n, hn⟩
    rw [count_mem h.srt hn]
    exact (h.num _ hn).1
theorem count_at {d : Int} {M : List TN} (h : GoodM d M) (t : Tm) (hc : countM M t ≠ 0) : (t, countM M t) ∈ M := by
  obtain ⟨n, hn⟩ := (count_ne h t).1 hc
  rw [count_mem h.srt hn]
  exact hn
theorem count_in {d : Int} {M : List TN} (h : GoodM d M) (t : Tm) : -1099511627776 ≤ countM M t ∧ countM M t ≤ 1099511627776 := by
  by_cases hc : countM M t = 0
  · omega
  · have := (h.num _ (count_at h t hc)).2
    exact this

theorem put_good {d : Int} {M : List TN} (h : GoodM d M) {t : Tm} (i : t.In) (hk : chk t = 0) (hd : t.d = d) {n : Int} (h0 : -1099511627776 ≤ n) (h1 : n ≤ 1099511627776) : GoodM d (putM M t n) := by
  have hmem : ∀ p ∈ putM M t n, p ∈ M ∨ (p = (t, n) ∧ n ≠ 0) := by
    intro p hp
    unfold putM at hp
    rcases List.mem_append.1 hp with hp | hp
    · exact .inl (List.mem_filter.1 hp).1
    · rcases List.mem_append.1 hp with hp | hp
      · split at hp
        · simp at hp
        · simp at hp
          exact .inr ⟨hp, by assumption⟩
      · exact .inl (List.mem_filter.1 hp).1
  refine ⟨?_, ?_, ?_⟩
  · intro p hp
    rcases hmem p hp with hp | ⟨rfl, -⟩
    · exact h.key p hp
    · exact ⟨i, hk, hd⟩
  · intro p hp
    rcases hmem p hp with hp | ⟨rfl, hn⟩
    · exact h.num p hp
    · exact ⟨hn, h0, h1⟩
  · unfold putM
    refine List.pairwise_append.2 ⟨h.srt.filter _, List.pairwise_append.2 ⟨?_, h.srt.filter _, ?_⟩, ?_⟩
    · split <;> simp
    · intro p hp q hq
      split at hp
      · simp at hp
      · simp at hp
        subst hp
        simpa using (List.mem_filter.1 hq).2
    · intro p hp q hq
      have e1 : numT p.1 < numT t := by simpa using (List.mem_filter.1 hp).2
      rcases List.mem_append.1 hq with hq | hq
      · split at hq
        · simp at hq
        · simp at hq
          subst hq
          exact e1
      · have e2 : numT t < numT q.1 := by simpa using (List.mem_filter.1 hq).2
        omega

/-- The times other than t, as they are parted by it. -/
theorem split_perm {M : List TN} (hi : ∀ p ∈ M, p.1.In) {t : Tm} (i : t.In) :
    (M.filter (fun p => decide (numT p.1 < numT t)) ++ M.filter (fun p => decide (numT t < numT p.1))).Perm (M.filter fun p => !decide (p.1 = t)) := by
  induction M with
  | nil => simp
  | cons p r ih =>
    have ih := ih fun q hq => hi q (by simp [hq])
    have hp := hi p (by simp)
    by_cases he : p.1 = t
    · have a1 : ¬ numT p.1 < numT t := by rw [he]; omega
      have a2 : ¬ numT t < numT p.1 := by rw [he]; omega
      simp only [List.filter_cons, decide_eq_false a1, decide_eq_false a2, decide_eq_true he]
      simpa using ih
    · by_cases hl : numT p.1 < numT t
      · have a2 : ¬ numT t < numT p.1 := by omega
        simp only [List.filter_cons, decide_eq_true hl, decide_eq_false a2, decide_eq_false he]
        simpa using ih
      · have a2 : numT t < numT p.1 := by
          by_cases h : numT t < numT p.1
          · exact h
          · exact absurd (num_eq hp i (by omega)) he
        simp only [List.filter_cons, decide_eq_false hl, decide_eq_true a2, decide_eq_false he]
        exact List.Perm.trans (by exact List.perm_middle) (List.Perm.cons p ih)

/-- Block b of the world is a map that holds these pairs. -/
def OwnM (w : World) (b : Nat) (M : List TN) : Prop :=
  ∃ es : List (Lit × DataW Nat), es.Perm (M.map pE) ∧ w.ownsMap Try.prog 33 (plainElem Try.prog 2) b M.length (.map es)

theorem ownsMap_tight {w : World} {n b : Nat} {es : List (Lit × DataW Nat)} (h : w.ownsMap Try.prog 33 (plainElem Try.prog 2) b n (.map es)) : w.ownsMap Try.prog 33 (plainElem Try.prog 2) b es.length (.map es) := by
  obtain ⟨xs, clock, hb, F, -, hD⟩ := h
  refine ⟨xs, clock, hb, F, ?_, hD⟩
  have := congrArg Maps.size hD
  simp only [Maps.size, length_read] at this
  omega
theorem own_of {w : World} {n b : Nat} {es : List (Lit × DataW Nat)} {M : List TN} (h : w.ownsMap Try.prog 33 (plainElem Try.prog 2) b n (.map es)) (hp : es.Perm (M.map pE)) : OwnM w b M := by
  refine ⟨es, hp, ?_⟩
  have e := ownsMap_tight h
  have := hp.length_eq
  rw [List.length_map] at this
  rwa [this] at e
theorem OwnM.kept {w w' : World} {row : Option Nat} {b : Nat} {M : List TN} (h : OwnM w b M) (hg : w.grownBy w' row) (hne : some b ≠ row) : OwnM w' b M := by
  obtain ⟨es, hp, ho⟩ := h
  exact ⟨es, hp, ho.kept hg hne⟩
theorem OwnM.lt {w : World} {b : Nat} {M : List TN} (h : OwnM w b M) : b < w.heap.size := by obtain ⟨es, hp, ho⟩ := h; exact ho.lt
theorem OwnM.below {w w' : World} {B b : Nat} {M : List TN} (h : OwnM w b M) (hb : Below B w w') (hlt : b < B) : OwnM w' b M := by
  obtain ⟨es, hp, xs, clock, hx, F, hs, hD⟩ := h
  exact ⟨es, hp, xs, clock, (hb.block b hlt).trans hx, F, hs, hD⟩
theorem own_made (w : World) : OwnM (w.alloc (.map #[] 0)) w.heap.size [] := ⟨[], by simp, World.ownsMap_made w _ _ _⟩

theorem keys_apart {w : World} {n b : Nat} {es : List (Lit × DataW Nat)} (h : w.ownsMap Try.prog 33 (plainElem Try.prog 2) b n (.map es)) : es.Pairwise (fun p q => p.1 ≠ q.1) := by
  obtain ⟨es', e, hp⟩ := h.tidy keyT
  cases e
  exact hp
theorem mem_es {es : List (Lit × DataW Nat)} {d : Int} {M : List TN} (hp : es.Perm (M.map pE)) (h : GoodM d M) {t : Tm} (i : t.In) : (∃ y, (kT t, y) ∈ es) ↔ countM M t ≠ 0 := by
  constructor
  · rintro ⟨y, hy⟩
    obtain ⟨p, hpm, he⟩ := List.mem_map.1 (hp.mem_iff.1 hy)
    have e1 : kT p.1 = kT t := congrArg Prod.fst he
    have := kT_inj (h.inn p hpm) i e1
    exact (count_ne h t).2 ⟨p.2, by rw [← this]; exact hpm⟩
  · intro hc
    exact ⟨dN (countM M t), hp.mem_iff.2 (List.mem_map.2 ⟨_, count_at h t hc, rfl⟩)⟩
theorem has_es {es : List (Lit × DataW Nat)} {d : Int} {M : List TN} (hp : es.Perm (M.map pE)) (h : GoodM d M) {t : Tm} (i : t.In) : Maps.has (.map es) (kT t) = decide (countM M t ≠ 0) := by
  rw [has_eq]
  by_cases hc : countM M t ≠ 0
  · obtain ⟨y, hy⟩ := (mem_es hp h i).2 hc
    rw [decide_eq_true hc]
    exact List.any_eq_true.2 ⟨_, hy, WideAt.sameKey_self (isKey t)⟩
  · rw [decide_eq_false hc]
    refine Bool.eq_false_iff.2 fun hany => hc ?_
    obtain ⟨q, hq, hs⟩ := List.any_eq_true.1 hany
    have e := (WideAt.sameKey_iff (isKey t)).1 hs
    exact (mem_es hp h i).1 ⟨q.2, by rw [← e]; exact hq⟩
theorem at_es {es : List (Lit × DataW Nat)} {d : Int} {M : List TN} (hp : es.Perm (M.map pE)) (ha : es.Pairwise (fun p q => p.1 ≠ q.1)) (h : GoodM d M) {t : Tm} (i : t.In) : (DataW.map es).atKey (kT t) (dN 0) = dN (countM M t) := by
  by_cases hc : countM M t ≠ 0
  · exact WideAt.atKey_mem _ (isKey t) ha (hp.mem_iff.2 (List.mem_map.2 ⟨_, count_at h t hc, rfl⟩))
  · rw [Maps.atKey_of_not_has (by rw [has_es hp h i, decide_eq_false hc])]
    rw [show countM M t = 0 by omega]
theorem strike_es {es : List (Lit × DataW Nat)} {M : List TN} (hp : es.Perm (M.map pE)) (hi : ∀ p ∈ M, p.1.In) {t : Tm} (i : t.In) : (es.filter fun p => !p.1.sameKey (kT t)).Perm ((M.filter fun p => !decide (p.1 = t)).map pE) := by
  refine (hp.filter _).trans ?_
  rw [List.filter_map]
  refine List.Perm.of_eq (congrArg (List.map pE) (List.filter_congr fun p hpm => ?_))
  show (!(kT p.1).sameKey (kT t)) = _
  by_cases he : p.1 = t
  · rw [he, WideAt.sameKey_self (isKey t)]; simp
  · rw [Maps.sameKey_ne (fun e => he (kT_inj (hi p hpm) i e))]; simp [he]
theorem insert_perm (x : Lit × DataW Nat) : ∀ l, (DataW.insert x l).Perm (x :: l)
  | [] => by simp [DataW.insert]
  | y :: r => by
    unfold DataW.insert
    split
    · exact List.Perm.refl _
    · exact (List.Perm.cons y (insert_perm x r)).trans (List.Perm.swap x y r)
theorem putM_zero {M : List TN} (hi : ∀ p ∈ M, p.1.In) {t : Tm} (i : t.In) : (putM M t 0).Perm (M.filter fun p => !decide (p.1 = t)) := by
  unfold putM
  rw [if_pos rfl, List.nil_append]
  exact split_perm hi i
theorem putM_some {M : List TN} (hi : ∀ p ∈ M, p.1.In) {t : Tm} (i : t.In) {n : Int} (hn : n ≠ 0) : (putM M t n).Perm ((t, n) :: M.filter fun p => !decide (p.1 = t)) := by
  unfold putM
  rw [if_neg hn]
  exact List.perm_middle.trans (List.Perm.cons _ (split_perm hi i))
theorem del_es {es : List (Lit × DataW Nat)} {M : List TN} (hp : es.Perm (M.map pE)) (hi : ∀ p ∈ M, p.1.In) {t : Tm} (i : t.In) : (es.filter fun p => !p.1.sameKey (kT t)).Perm ((putM M t 0).map pE) :=
  (strike_es hp hi i).trans ((putM_zero hi i).symm.map _)
theorem put_es {es : List (Lit × DataW Nat)} {M : List TN} (hp : es.Perm (M.map pE)) (hi : ∀ p ∈ M, p.1.In) {t : Tm} (i : t.In) {n : Int} (hn : n ≠ 0) : (DataW.insert (kT t, dN n) (es.filter fun p => !p.1.sameKey (kT t))).Perm ((putM M t n).map pE) :=
  (insert_perm _ _).trans ((List.Perm.cons _ (strike_es hp hi i)).trans ((putM_some hi i hn).symm.map pE))
theorem put_len {d : Int} {M : List TN} (h : GoodM d M) {t : Tm} (i : t.In) {n : Int} (hn : n ≠ 0) : (putM M t n).length = if countM M t = 0 then M.length + 1 else M.length := by
  rw [(putM_some h.inn i hn).length_eq, List.length_cons]
  by_cases hc : countM M t = 0
  · rw [if_pos hc, List.filter_eq_self.2]
    intro p hp
    have : p.1 ≠ t := fun e => (count_ne h t).2 ⟨p.2, by rw [← e]; exact hp⟩ hc
    simp [this]
  · rw [if_neg hc]
    have hm := count_at h t hc
    obtain ⟨A, B, e⟩ := List.append_of_mem hm
    rw [e]
    have hs := h.srt
    rw [e] at hs
    obtain ⟨s1, s2, s3⟩ := List.pairwise_append.1 hs
    have s2' := (List.pairwise_cons.1 s2).1
    have fA : A.filter (fun p => !decide (p.1 = t)) = A := List.filter_eq_self.2 fun p hp => by
      have : numT p.1 < numT t := s3 p hp _ (List.mem_cons_self ..)
      have : p.1 ≠ t := fun e => by rw [e] at this; omega
      simp [this]
    have fB : B.filter (fun p => !decide (p.1 = t)) = B := List.filter_eq_self.2 fun p hp => by
      have : numT t < numT p.1 := s2' p hp
      have : p.1 ≠ t := fun e => by rw [e] at this; omega
      simp [this]
    rw [List.filter_append, List.filter_cons]
    simp [fA, fB]
    omega
end Go.Proofs.Ytomekndinopoaaa.multi
namespace Go.Proofs.Ytomekndinopoaaa.chain
open Go.ChangeShapes Go.WideShapes Go.ChangeAt Go.RowKit
open Go.Proofs.Ytomekndinopoaaa.tm Go.Proofs.Ytomekndinopoaaa.opened Go.Proofs.Ytomekndinopoaaa.block Go.Proofs.Ytomekndinopoaaa.stamp

theorem opens_times : Opens Try.prog 37 (sliceR 5 32 timeR) := opens_slice Try.underlying37 (m := 5) (bytes := 32) (by kernel_rfl) (by kernel_rfl) opens_time
def tmOf (p : Int × Int × List Int × Unit) : Tm := ⟨p.1, p.2.1, p.2.2.1.getD 0 0, p.2.2.1.getD 1 0, p.2.2.1.getD 2 0⟩
theorem time_of {w : World} {cs : List Value} {p : Int × Int × List Int × Unit} (h : timeR w cs p) : (tmOf p).In ∧ cs = cT (tmOf p) := by
  obtain ⟨⟨h1, w1⟩, ⟨h2, w2⟩, ⟨l1, l2, h3⟩, h4⟩ := h
  obtain ⟨e, d, l, u⟩ := p
  dsimp only at *
  match l, l2 with
  | [x, y, z], _ =>
    obtain ⟨k0, v0⟩ := h3 0 x rfl
    obtain ⟨k1, v1⟩ := h3 1 y rfl
    obtain ⟨k2, v2⟩ := h3 2 z rfl
    obtain ⟨a0, a1⟩ := bounds_u32 w1
    obtain ⟨a2, a3⟩ := bounds_i64 w2
    obtain ⟨a4, a5⟩ := bounds_u32 v0
    obtain ⟨a6, a7⟩ := bounds_u32 v1
    obtain ⟨a8, a9⟩ := bounds_u32 v2
    refine ⟨⟨a0, by show e ≤ _; omega, a2, a3, a4, by show x ≤ _; omega, a6, by show y ≤ _; omega, a8, by show z ≤ _; omega⟩, ?_⟩
    unfold nilR at h4
    match cs, h1 with
    | c0 :: cs, h1 =>
      simp at h1
      subst h1
      match cs, h2 with
      | c1 :: cs, h2 =>
        simp at h2
        subst h2
        match cs, k0, k1, k2, h4, l1 with
        | [c2, c3, c4], k0, k1, k2, _, _ => simp at k0 k1 k2; subst k0; subst k1; subst k2; rfl
set_option maxRecDepth 100000 in
/-- A slice of times that came in. -/
theorem top_times {w : World} {r : Reach} {b : Nat} {v : Value} {q : Row (Int × Int × List Int × Unit)} (hv : Value.okWide Try.prog w r b 37 v) (h : sliceR 5 32 timeR w v.cells.toList q) :
    ∃ (A : Option Addr) (c : Nat) (L : List Tm), v = .slice A L.length c ∧ InL L ∧ Lt w A L ∧ L.length ≤ c ∧ L.length ≤ 4611686018427387903 := by
  have hl := h.2.1
  have hc := h.2.2.1
  have hb := h.2.2.2.2.1
  refine ⟨q.ptr, q.cap, q.elems.map tmOf, ?_, ?_, ?_, ?_, ?_⟩
  · rw [top_slice Try.underlying37 hv h, row_val h, List.length_map]
  · intro t ht
    obtain ⟨a, ha, rfl⟩ := List.mem_map.1 ht
    obtain ⟨cs', hcs⟩ := elem_of h a ha
    exact (time_of hcs).1
  · have := liesN_of (f := fun a => cT (tmOf a)) (fun w cs a ha => (time_of ha).2) (by omega) h
    unfold Lt
    rw [List.map_map]
    exact this
  · rw [List.length_map, hl]; exact hc
  · rw [List.length_map, hl]; omega
theorem since_callS {P : Program} {f : FuncId} {args : Array Value} {v : Value} {w0 : World} (h : ∀ x : Since w0, Calls P f args x.1 fun e w' => e = .returned v ∧ Below x.1.heap.size x.1 w') (x : Since w0) :
    Calls P f args x.1 fun e w' => e = .returned v ∧ ∃ y : Since w0, w' = y.1 :=
  (h x).mono fun _ w' ⟨he, hb⟩ => ⟨he, ⟨w', then_below x.2 hb⟩, rfl⟩
theorem same_self (A B : Option Addr) (c d : Nat) (L : List Tm) (mL : L.length ≤ 4611686018427387903) (w : World) (hL : Lt w A L) (hM : Lt w B L) :
    Calls Try.prog 14 #[.slice A L.length c, .slice B L.length d] w fun e w' => e = .returned (.bool true) ∧ Below w.heap.size w w' := by
  have := same_any A B c d L L mL mL w hL hM
  rwa [decide_eq_true (p := L = L) rfl] at this
end Go.Proofs.Ytomekndinopoaaa.chain
namespace Go.Proofs.Ytomekndinopoaaa.multi
open Go.ChangeShapes Go.WideShapes Go.ChangeAt Go.RowKit Go.Maps Go.WideMaps
open Go.Proofs.Ytomekndinopoaaa.tm Go.Proofs.Ytomekndinopoaaa.opened Go.Proofs.Ytomekndinopoaaa.block Go.Proofs.Ytomekndinopoaaa.stamp Go.Proofs.Ytomekndinopoaaa.chain

/-- Where a Multi lies: its block, its map's block, the row of the last frontier. -/
structure MulP (w : World) (g : Nat) (d : Int) (b : Nat) (A : Option Addr) (c : Nat) (L : List Tm) (M : List TN) : Prop where
  cells : Whole w g 74 #[.int .i64 d, .map (some b), .slice A L.length c]
  own : OwnM w b M
  last : Lt w A L
  ne : g ≠ b
  far : L ≠ [] → ∀ ad, A = some ad → ad.block ≠ b ∧ ad.block ≠ g
theorem MulP.below {w w' : World} {g b c : Nat} {d : Int} {A : Option Addr} {L : List Tm} {M : List TN} (h : MulP w g d b A c L M) (hb : Below w.heap.size w w') : MulP w' g d b A c L M :=
  ⟨h.cells.below hb h.cells.inside, h.own.below hb h.own.lt, h.last.below hb, h.ne, h.far⟩
theorem lt_turned {w w' : World} {A : Option Addr} {L : List Tm} {b : Nat} (h : Lt w A L) (hg : w.grownBy w' (some b)) (hf : L ≠ [] → ∀ ad, A = some ad → ad.block ≠ b) : Lt w' A L := by
  by_cases h0 : L = []
  · rw [h0]
    exact .inl rfl
  rcases h with h | ⟨b', o', hA, hlt, hc⟩
  · exact .inl h
  · have hne : b' ≠ b := hf h0 _ hA
    exact .inr ⟨b', o', hA, Nat.lt_of_lt_of_le hlt hg.size, fun k cs hk => ⟨(hc k cs hk).1, fun i hi => (World.cell?_of_block (hg.block b' hlt (by simpa using hne))).trans ((hc k cs hk).2 i hi)⟩⟩
theorem MulP.turned {w w' : World} {g b c : Nat} {d : Int} {A : Option Addr} {L : List Tm} {M N : List TN} (h : MulP w g d b A c L M) (hg : w.grownBy w' (some b)) (ho : OwnM w' b N) : MulP w' g d b A c L N :=
  ⟨h.cells.grown hg (by simpa using h.ne), ho, lt_turned h.last hg (fun h0 ad e => (h.far h0 ad e).1), h.ne, h.far⟩
theorem zeroN (w : World) : (zeroValue 2).run Try.prog w = .ok (.int .i64 0) w := by kernel_rfl

/-- What a lookup gives. -/
theorem look_run {w : World} {b : Nat} {d : Int} {M : List TN} (h : OwnM w b M) (G : GoodM d M) (t : Tm) (i : t.In) :
    (Instr.lookup 72 (.map (some b)) (.agg #[.int .u32 t.e, .int .i64 t.d, .int .u32 t.a, .int .u32 t.b, .int .u32 t.c]) false).run Try.prog w = .ok (.int .i64 (countM M t)) w := by
  obtain ⟨es, hp, ho⟩ := h
  obtain ⟨c, hrun, hat, -⟩ := ho.lookup_int keyT Try.underlying72 Try.underlying2 (zeroN w) (keyOf_time t i)
  have e := at_es hp (keys_apart ho) G i
  rw [show (DataW.lit (Lit.int .i64 0) : DataW Nat) = dN 0 from rfl, show (Lit.string (keyBytes (klB t))) = kT t from rfl, e] at hat
  have : countM M t = c := by simpa [dN] using hat
  rw [this]
  exact hrun
theorem look_ok_run {w : World} {b : Nat} {d : Int} {M : List TN} (h : OwnM w b M) (G : GoodM d M) (t : Tm) (i : t.In) :
    (Instr.lookup 72 (.map (some b)) (.agg #[.int .u32 t.e, .int .i64 t.d, .int .u32 t.a, .int .u32 t.b, .int .u32 t.c]) true).run Try.prog w = .ok (.tuple #[.int .i64 (countM M t), .bool (decide (countM M t ≠ 0))]) w := by
  obtain ⟨es, hp, ho⟩ := h
  obtain ⟨v, ps, hrun, hv⟩ := ho.look_ok keyT Try.underlying72 (zeroN w) (plainElem_int Try.underlying2 (by decide)) (keyOf_time t i)
  obtain ⟨c, rfl, hc, -⟩ := plainElem_int_inv Try.underlying2 hv
  have e := at_es hp (keys_apart ho) G i
  have hh := has_es hp G i
  simp only [Prod.mk.injEq] at hc
  have hat := hc.1
  rw [show (DataW.lit (Lit.int .i64 0) : DataW Nat) = dN 0 from rfl, show (Lit.string (keyBytes (klB t))) = kT t from rfl, e] at hat
  have : countM M t = c := by simpa [dN] using hat
  rw [show (Lit.string (keyBytes (klB t))) = kT t from rfl, hh] at hrun
  rw [this] at hrun ⊢
  exact hrun
theorem len_run {w : World} {b : Nat} {M : List TN} (h : OwnM w b M) (ty : TypeId) : (Builtin.len_ #[72] ty #[.map (some b)]).run Try.prog w = .ok (.int .i64 M.length) w := by
  obtain ⟨es, hp, ho⟩ := h
  rw [ho.len Try.underlying72 ty]
  have := hp.length_eq
  simp only [List.length_map] at this
  rw [Maps.size_eq, this]

theorem count_any {g b c : Nat} {d : Int} {A : Option Addr} {L : List Tm} {M : List TN} (t : Tm) (i : t.In) (G : GoodM d M) (w : World) (h : MulP w g d b A c L M) :
    Calls Try.prog 17 #[.pointer (some ⟨g, 0, none⟩), .agg #[.int .u32 t.e, .int .i64 t.d, .int .u32 t.a, .int .u32 t.b, .int .u32 t.c]] w fun e w' => e = .returned (.int .i64 (countM M t)) ∧ Below w.heap.size w w' := by
  have hb : Below w.heap.size w (w.alloc (.cells (#[.int .u32 t.e, .int .i64 t.d, .int .u32 t.a, .int .u32 t.b, .int .u32 t.c]) 33)).drew := (fresh1 w (.cells (#[.int .u32 t.e, .int .i64 t.d, .int .u32 t.a, .int .u32 t.b, .int .u32 t.c]) 33)).drew
  have hl := look_run (w := (w.alloc (.cells (#[.int .u32 t.e, .int .i64 t.d, .int .u32 t.a, .int .u32 t.b, .int .u32 t.c]) 33)).drew) (h.own.below hb h.own.lt) G t i
  have c1 : (w.alloc (.cells (#[.int .u32 t.e, .int .i64 t.d, .int .u32 t.a, .int .u32 t.b, .int .u32 t.c]) 33)).drew.cell? ⟨g, 1, none⟩ = some (.map (some b)) := (h.cells.below hb h.cells.inside).read 1
  have f1 : (w.alloc (.cells (#[.int .u32 t.e, .int .i64 t.d, .int .u32 t.a, .int .u32 t.b, .int .u32 t.c]) 33)).drew.frozen? ⟨g, 1, none⟩ = false := (h.cells.below hb h.cells.inside).soft 1
  clear h hb
  go_enter Try.func17, Try.ntmps17
  go_upto_region 1 with fail
  go_region
  go_wp2_with fail
  go_ret
  exact ⟨rfl, (fresh1 w _).drew⟩
end Go.Proofs.Ytomekndinopoaaa.multi
