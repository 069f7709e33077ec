/-
  Mathematics of frontiers: what the document's insertion makes.
  Mathematics of frontiers: the minimal ones of a sorted list are what the document's insertion makes.
  Mathematics of frontiers: what they hold, how they stand.
-/
import Derived.Test.YtpjlefdigpejdaaNm
import Derived.Test.YtpjlefdigpejdaaTi
import Derived.Test.YtpjlefdigpejdaaCk
namespace Go.Proofs.Ytpjlefdigpejdaa.chain
open Go.Proofs.Ytpjlefdigpejdaa.tm Go.Proofs.Ytpjlefdigpejdaa.stamp

theorem bool_ext {a b : Bool} (h : a = true ↔ b = true) : a = b := by
  cases a <;> cases b <;> simp_all
/-- A time that is one. -/
def Ok (t : Tm) : Prop := t.In ∧ chk t = 0
theorem ok_refl {x : Tm} (h : Ok x) : leB x x = true := by
  have := chk_zero h.2
  exact leB_yes ⟨rfl, this.1, this.2.1, by omega, fun _ => by omega, fun _ => by omega, fun _ => by omega⟩
theorem le_trans3 {x y z : Tm} (h : leB x y = true) (k : leB y z = true) : leB x z = true := by
  rw [leB_iff] at *
  obtain ⟨h1, h2, h3, h4, h5, h6, h7⟩ := h
  obtain ⟨k1, k2, k3, k4, k5, k6, k7⟩ := k
  refine ⟨by omega, h2, h3, by omega, fun u => ?_, fun u => ?_, fun u => ?_⟩
  · have := h5 u; have := k5 (by omega); omega
  · have := h6 u; have := k6 (by omega); omega
  · have := h7 u; have := k7 (by omega); omega
theorem le_num {x y : Tm} (hx : Ok x) (hy : Ok y) (h : leB x y = true) : numT x ≤ numT y := by
  obtain ⟨i, cx⟩ := hx
  obtain ⟨j, cy⟩ := hy
  obtain ⟨-, -, -, -, -, -, p1, p2, p3⟩ := chk_zero cx
  obtain ⟨-, -, -, -, -, -, q1, q2, q3⟩ := chk_zero cy
  obtain ⟨i0, i1, -, -, i2, i3, i4, i5, i6, i7⟩ := i
  obtain ⟨j0, j1, -, -, j2, j3, j4, j5, j6, j7⟩ := j
  obtain ⟨h1, h2, h3, h4, h5, h6, h7⟩ := leB_iff.1 h
  have a : x.a ≤ y.a := by
    by_cases u : 1 ≤ x.d
    · exact h5 u
    · have := p1 (by omega); omega
  have b : x.b ≤ y.b := by
    by_cases u : 2 ≤ x.d
    · exact h6 u
    · have := p2 (by omega); omega
  have c : x.c ≤ y.c := by
    by_cases u : 3 ≤ x.d
    · exact h7 u
    · have := p3 (by omega); omega
  unfold numT
  omega
theorem le_lt {x y : Tm} (hx : Ok x) (hy : Ok y) (h : leB x y = true) (n : x ≠ y) : numT x < numT y := by
  have := le_num hx hy h
  rcases Int.lt_or_eq_of_le this with u | u
  · exact u
  · exact absurd (num_eq hx.1 hy.1 u) n
theorem gt_num {s t : Tm} (i : s.In) (j : t.In) : 0 < cmpT s t ↔ numT t < numT s := by
  have h1 := cmpT_num i j
  have h2 : cmpT s t = 0 → numT s = numT t := by
    intro h
    unfold cmpT at h
    have o : ∀ x y : Int, orI x y = 0 → x = 0 ∧ y = 0 := by
      intro x y e
      unfold orI at e
      split at e
      · exact ⟨by assumption, e⟩
      · exact absurd e (by assumption)
    have z : ∀ x y : Int, cmpI x y = 0 → x = y := by
      intro x y e
      by_cases n : x = y
      · exact n
      · exact absurd e (cmpI_ne n)
    obtain ⟨e1, h⟩ := o _ _ h
    obtain ⟨e2, h⟩ := o _ _ h
    obtain ⟨e3, h⟩ := o _ _ h
    obtain ⟨e4, e5⟩ := o _ _ h
    unfold numT
    rw [z _ _ e1, z _ _ e2, z _ _ e3, z _ _ e4, z _ _ e5]
  constructor
  · intro h
    rcases Int.lt_trichotomy (numT s) (numT t) with u | u | u
    · have := h1.2 u; omega
    · have := num_eq i j u
      subst this
      rw [cmpT_self] at h
      omega
    · exact u
  · intro h
    rcases Int.lt_trichotomy (cmpT s t) 0 with u | u | u
    · have := h1.1 u; omega
    · have := h2 u; omega
    · exact u
/-- The order of times, as one of numbers. -/
def Lo (x y : Tm) : Prop := numT x < numT y
theorem ext_sorted : ∀ {A B : List Tm}, A.Pairwise Lo → B.Pairwise Lo → (∀ x, x ∈ A ↔ x ∈ B) → A = B
  | [], B, _, _, h => by
    cases B with
    | nil => rfl
    | cons b s => exact absurd ((h b).2 (by simp)) (by simp)
  | a :: r, [], _, _, h => absurd ((h a).1 (by simp)) (by simp)
  | a :: r, b :: s, hA, hB, h => by
    obtain ⟨a1, a2⟩ := List.pairwise_cons.1 hA
    obtain ⟨b1, b2⟩ := List.pairwise_cons.1 hB
    have e : a = b := by
      rcases List.mem_cons.1 ((h a).1 (by simp)) with u | u
      · exact u
      · rcases List.mem_cons.1 ((h b).2 (by simp)) with v | v
        · exact v.symm
        · have p : numT b < numT a := b1 a u
          have q : numT a < numT b := a1 b v
          omega
    subst e
    congr 1
    refine ext_sorted a2 b2 fun x => ?_
    constructor
    · intro hx
      rcases List.mem_cons.1 ((h x).1 (List.mem_cons_of_mem _ hx)) with u | u
      · have p : numT a < numT x := a1 x hx
        rw [u] at p; omega
      · exact u
    · intro hx
      rcases List.mem_cons.1 ((h x).2 (List.mem_cons_of_mem _ hx)) with u | u
      · have p : numT a < numT x := b1 x hx
        rw [u] at p; omega
      · exact u
/-- Does a time at a place leave another one among the least? -/
def good (i : Nat) (x : Tm) (j : Nat) (y : Tm) : Bool := if y = x then decide (i ≤ j) else !leB y x
def Good (L : List Tm) (i : Nat) (x : Tm) (k : Nat) : Prop := ∀ j y, j < k → L[j]? = some y → good i x j y = true
/-- Where a time comes in: behind the last one that is not greater. -/
def posn (N : List Tm) (x : Tm) : Nat → Nat
  | 0 => 0
  | a + 1 => if 0 < cmpT (N[a]?.getD T0) x then posn N x a else a + 1
theorem posn_le (N : List Tm) (x : Tm) : ∀ a, posn N x a ≤ a
  | 0 => Nat.le_refl _
  | a + 1 => by
    unfold posn
    split
    · have := posn_le N x a; omega
    · exact Nat.le_refl _
theorem posn_more {N : List Tm} {x y : Tm} {a p : Nat} (hy : N[a]? = some y) (h : 0 < cmpT y x) (e : posn N x (a + 1) = p) : posn N x a = p := by
  rw [← e, posn, hy]; simp [h]
theorem posn_stop {N : List Tm} {x y : Tm} {a p : Nat} (hy : N[a]? = some y) (h : ¬ 0 < cmpT y x) (e : posn N x (a + 1) = p) : a + 1 = p := by
  rw [← e, posn, hy]; simp [h]
theorem posn_above {N : List Tm} {x : Tm} : ∀ a, a ≤ N.length → ∀ j y, posn N x a ≤ j → j < a → N[j]? = some y → 0 < cmpT y x
  | 0, _, j, y, _, h, _ => by omega
  | a + 1, ha, j, y, h1, h2, h3 => by
    unfold posn at h1
    split at h1
    · rename_i hc
      by_cases e : j = a
      · subst e; rw [h3] at hc; exact hc
      · exact posn_above a (by omega) j y h1 (by omega) h3
    · omega
theorem posn_below {N : List Tm} {x : Tm} : ∀ a, a ≤ N.length → posn N x a = 0 ∨ ∃ z, N[posn N x a - 1]? = some z ∧ ¬ 0 < cmpT z x
  | 0, _ => .inl rfl
  | a + 1, ha => by
    unfold posn
    split
    · exact posn_below a (by omega)
    · rename_i hc
      refine .inr ⟨N[a], by rw [Nat.add_sub_cancel]; exact List.getElem?_eq_getElem (by omega), ?_⟩
      rwa [List.getElem?_eq_getElem (by omega)] at hc
/-- A time laid in. -/
def insT (N : List Tm) (x : Tm) : List Tm := N.take (posn N x N.length) ++ [x] ++ N.drop (posn N x N.length)
theorem mem_ins (N : List Tm) (x y : Tm) : y ∈ insT N x ↔ y = x ∨ y ∈ N := by
  unfold insT
  conv => rhs; rw [← List.take_append_drop (posn N x N.length) N]
  simp only [List.mem_append, List.mem_singleton]
  constructor
  · rintro ((h | h) | h)
    · exact .inr (.inl h)
    · exact .inl h
    · exact .inr (.inr h)
  · rintro (h | h | h)
    · exact .inl (.inr h)
    · exact .inl (.inl h)
    · exact .inr h
theorem ins_len (N : List Tm) (x : Tm) : (insT N x).length = N.length + 1 := by
  have := posn_le N x N.length
  unfold insT
  simp
  omega
theorem ins_sorted {N : List Tm} {x : Tm} (iN : ∀ y ∈ N, y.In) (ix : x.In) (h : N.Pairwise Lo) (n : x ∉ N) : (insT N x).Pairwise Lo := by
  have hp := posn_le N x N.length
  have up : ∀ y ∈ N.drop (posn N x N.length), Lo x y := by
    intro y hy
    obtain ⟨j, hj⟩ := List.mem_iff_getElem?.1 hy
    rw [List.getElem?_drop] at hj
    exact (gt_num (iN y (List.mem_of_getElem? hj)) ix).1 (posn_above N.length (Nat.le_refl _) _ y (by omega) (List.getElem?_eq_some_iff.1 hj).1 hj)
  have dn : ∀ y ∈ N.take (posn N x N.length), Lo y x := by
    intro y hy
    obtain ⟨j, hj⟩ := List.mem_iff_getElem?.1 hy
    rw [List.getElem?_take] at hj
    split at hj
    · rename_i hjp
      rcases posn_below (N := N) (x := x) N.length (Nat.le_refl _) with e | ⟨z, hz, hc⟩
      · omega
      · have iy := iN y (List.mem_of_getElem? hj)
        have iz := iN z (List.mem_of_getElem? hz)
        have q : ¬ numT x < numT z := fun u => hc ((gt_num iz ix).2 u)
        have r : numT y ≤ numT z := by
          by_cases e : j = posn N x N.length - 1
          · subst e; rw [hj] at hz; rw [Option.some.inj hz]; exact Int.le_refl _
          · obtain ⟨hj1, hj2⟩ := List.getElem?_eq_some_iff.1 hj
            obtain ⟨hz1, hz2⟩ := List.getElem?_eq_some_iff.1 hz
            have : Lo N[j] (N[posn N x N.length - 1]) := List.pairwise_iff_getElem.1 h j _ hj1 hz1 (by omega)
            rw [hj2, hz2] at this
            exact Int.le_of_lt this
        have ne : numT y ≠ numT x := fun e => n (by rw [← num_eq iy ix e]; exact List.mem_of_getElem? hj)
        show numT y < numT x
        omega
    · cases hj
  unfold insT
  rw [List.pairwise_append, List.pairwise_append]
  refine ⟨⟨h.sublist (List.take_sublist _ _), List.pairwise_singleton _ _, fun y hy z hz => ?_⟩, h.sublist (List.drop_sublist _ _), fun y hy z hz => ?_⟩
  · rw [List.mem_singleton.1 hz]; exact dn y hy
  · rcases List.mem_append.1 hy with u | u
    · have := dn y u
      have := up z hz
      unfold Lo at *
      omega
    · rw [List.mem_singleton.1 u]; exact up z hz
/-- Is the one at a place among the least? -/
def gall (L : List Tm) (i : Nat) (x : Tm) : Bool := (List.range L.length).all (fun j => good i x j (L[j]?.getD T0))
theorem gall_iff (L : List Tm) (i : Nat) (x : Tm) : gall L i x = true ↔ Good L i x L.length := by
  unfold gall Good
  rw [List.all_eq_true]
  constructor
  · intro h j y hj hy
    have := h j (by simpa using hj)
    rwa [hy] at this
  · intro h j hj
    have hj : j < L.length := by simpa using hj
    rw [List.getElem?_eq_getElem hj]
    exact h j _ hj (List.getElem?_eq_getElem hj)
/-- What the document's loop has made of the first times. -/
def refF (L : List Tm) : Nat → List Tm
  | 0 => []
  | i + 1 => match L[i]? with
    | none => refF L i
    | some x => if gall L i x then insT (refF L i) x else refF L i
theorem refF_skip {L : List Tm} {i : Nat} {x : Tm} (h : L[i]? = some x) (g : gall L i x = false) : refF L (i + 1) = refF L i := by
  simp only [refF, h, g]
  simp
theorem refF_add {L : List Tm} {i : Nat} {x : Tm} (h : L[i]? = some x) (g : gall L i x = true) : refF L (i + 1) = insT (refF L i) x := by
  simp only [refF, h, g]
  simp
theorem refF_len (L : List Tm) : ∀ i, (refF L i).length ≤ i
  | 0 => Nat.le_refl _
  | i + 1 => by
    have ih := refF_len L i
    unfold refF
    split
    · omega
    · split
      · rw [ins_len]; omega
      · omega
theorem refF_mem (L : List Tm) : ∀ i x, x ∈ refF L i ↔ ∃ j, j < i ∧ L[j]? = some x ∧ Good L j x L.length
  | 0, x => by simp [refF]
  | i + 1, x => by
    have ih := refF_mem L i
    cases hy : L[i]? with
    | none =>
      have e : refF L (i + 1) = refF L i := by simp only [refF, hy]
      rw [e, ih]
      constructor
      · rintro ⟨j, hj, u⟩; exact ⟨j, by omega, u⟩
      · rintro ⟨j, hj, u, v⟩
        by_cases e : j = i
        · subst e; rw [hy] at u; cases u
        · exact ⟨j, by omega, u, v⟩
    | some y =>
      cases g : gall L i y with
      | false =>
        rw [refF_skip hy g, ih]
        constructor
        · rintro ⟨j, hj, u⟩; exact ⟨j, by omega, u⟩
        · rintro ⟨j, hj, u, v⟩
          by_cases e : j = i
          · subst e
            rw [hy] at u
            rw [← Option.some.inj u] at v
            rw [(gall_iff L j y).2 v] at g
            cases g
          · exact ⟨j, by omega, u, v⟩
      | true =>
        rw [refF_add hy g, mem_ins, ih]
        constructor
        · rintro (rfl | ⟨j, hj, u⟩)
          · exact ⟨i, by omega, hy, (gall_iff L i x).1 g⟩
          · exact ⟨j, by omega, u⟩
        · rintro ⟨j, hj, u, v⟩
          by_cases e : j = i
          · subst e
            rw [hy] at u
            exact .inl (Option.some.inj u).symm
          · exact .inr ⟨j, by omega, u, v⟩
theorem refF_in {L : List Tm} (h : InL L) (i : Nat) : InL (refF L i) := by
  intro x hx
  obtain ⟨j, -, u, -⟩ := (refF_mem L i x).1 hx
  exact h x (List.mem_of_getElem? u)
theorem refF_sorted {L : List Tm} (h : InL L) : ∀ i, (refF L i).Pairwise Lo
  | 0 => List.Pairwise.nil
  | i + 1 => by
    have ih := refF_sorted h i
    cases hy : L[i]? with
    | none =>
      have e : refF L (i + 1) = refF L i := by simp only [refF, hy]
      rw [e]; exact ih
    | some y =>
      cases g : gall L i y with
      | false => rw [refF_skip hy g]; exact ih
      | true =>
        rw [refF_add hy g]
        refine ins_sorted (refF_in h i) (h y (List.mem_of_getElem? hy)) ih ?_
        intro hm
        obtain ⟨j, hj, u, -⟩ := (refF_mem L i y).1 hm
        have := (gall_iff L i y).1 g j y (List.getElem?_eq_some_iff.1 u).1 u
        unfold good at this
        rw [if_pos rfl] at this
        have := of_decide_eq_true this
        omega
theorem first_at : ∀ {L : List Tm} {x : Tm}, x ∈ L → ∃ i : Nat, L[i]? = some x ∧ ∀ j : Nat, L[j]? = some x → i ≤ j
  | y :: r, x, h => by
    by_cases e : y = x
    · exact ⟨0, by simp [e], fun j _ => Nat.zero_le _⟩
    · rcases List.mem_cons.1 h with u | u
      · exact absurd u.symm e
      · obtain ⟨i, h1, h2⟩ := first_at u
        refine ⟨i + 1, by simpa using h1, fun j hj => ?_⟩
        cases j with
        | zero => simp at hj; exact absurd hj e
        | succ j => have := h2 j (by simpa using hj); omega
theorem refF_set (L : List Tm) (x : Tm) : x ∈ refF L L.length ↔ x ∈ L ∧ ∀ y ∈ L, y ≠ x → leB y x = false := by
  rw [refF_mem]
  constructor
  · rintro ⟨j, hj, u, v⟩
    refine ⟨List.mem_of_getElem? u, fun y hy n => ?_⟩
    obtain ⟨k, hk⟩ := List.mem_iff_getElem?.1 hy
    have := v k y (List.getElem?_eq_some_iff.1 hk).1 hk
    unfold good at this
    rw [if_neg n] at this
    simpa using this
  · rintro ⟨hx, hn⟩
    obtain ⟨i, h1, h2⟩ := first_at hx
    refine ⟨i, (List.getElem?_eq_some_iff.1 h1).1, h1, fun j y hj hy => ?_⟩
    unfold good
    by_cases e : y = x
    · rw [if_pos e]
      subst e
      simpa using h2 j hy
    · rw [if_neg e]
      simp [hn y (List.mem_of_getElem? hy) e]
/-- What the document's Make says is wrong. -/
def refE (L : List Tm) : Int := if 4096 < L.length then 7 else if timesE L ≠ 0 then timesE L else if 64 < (refF L L.length).length then 7 else 0
/-- What the document's Make answers. -/
def refV (L : List Tm) : List Tm := if refE L = 0 then refF L L.length else []
end Go.Proofs.Ytpjlefdigpejdaa.chain
namespace Go.Proofs.Ytpjlefdigpejdaa.chain
open Go.Lib Go.Sort
open Go.Proofs.Ytpjlefdigpejdaa.tm Go.Proofs.Ytpjlefdigpejdaa.stamp

/-- The minimal ones, all of them. -/
def minA (S K : List Tm) : List Tm := S.foldl keep K
theorem keep_grow (K : List Tm) (t : Tm) : K.length ≤ (keep K t).length := by
  unfold keep
  split
  · omega
  · simp
theorem minA_grow : ∀ S K : List Tm, K.length ≤ (minA S K).length
  | [], _ => Nat.le_refl _
  | t :: r, K => Nat.le_trans (keep_grow K t) (minA_grow r (keep K t))
theorem minF_minA : ∀ S K : List Tm, K.length ≤ 64 → if 64 < (minA S K).length then 64 < (minF S K).length else minF S K = minA S K
  | [], K, h => by
    rw [if_neg (show ¬ 64 < (minA [] K).length by show ¬ 64 < K.length; omega)]
    rfl
  | t :: r, K, h => by
    show if 64 < (minA r (keep K t)).length then _ else _ = minA r (keep K t)
    unfold minF
    by_cases e : 64 < (keep K t).length
    · rw [if_pos (Nat.lt_of_lt_of_le e (minA_grow _ _)), if_pos e]
      exact e
    · rw [if_neg e]
      exact minF_minA r (keep K t) (by omega)
theorem minA_set : ∀ (S K : List Tm), (∀ x ∈ S, Ok x) → (∀ x ∈ K, Ok x) → S.Pairwise (fun x y => numT x ≤ numT y) → K.Pairwise Lo → (∀ k ∈ K, ∀ s ∈ S, numT k ≤ numT s) →
    (minA S K).Pairwise Lo ∧ ∀ x, x ∈ minA S K ↔ x ∈ K ∨ (x ∈ S ∧ (∀ k ∈ K, leB k x = false) ∧ ∀ y ∈ S, y ≠ x → leB y x = false)
  | [], _, _, _, _, hK, _ => ⟨hK, fun x => by simp [minA]⟩
  | t :: r, K, oS, oK, hS, hK, hh => by
    obtain ⟨s1, s2⟩ := List.pairwise_cons.1 hS
    have ot := oS t (by simp)
    have oR : ∀ x ∈ r, Ok x := fun x hx => oS x (List.mem_cons_of_mem _ hx)
    show (minA r (keep K t)).Pairwise Lo ∧ ∀ x, x ∈ minA r (keep K t) ↔ _
    by_cases h : K.any (fun k => leB k t) = true
    · have e : keep K t = K := by unfold keep; rw [if_pos h]
      rw [e]
      obtain ⟨g1, g2⟩ := minA_set r K oR oK s2 hK (fun k hk s hs => hh k hk s (List.mem_cons_of_mem _ hs))
      refine ⟨g1, fun x => ?_⟩
      rw [g2]
      obtain ⟨k0, hk0, hl⟩ := List.any_eq_true.1 h
      constructor
      · rintro (u | ⟨u, v, z⟩)
        · exact .inl u
        · refine .inr ⟨List.mem_cons_of_mem _ u, v, fun y hy n => ?_⟩
          rcases List.mem_cons.1 hy with rfl | hy
          · cases hb : leB y x with
            | false => rfl
            | true => have := v k0 hk0; rw [le_trans3 hl hb] at this; cases this
          · exact z y hy n
      · rintro (u | ⟨u, v, z⟩)
        · exact .inl u
        · rcases List.mem_cons.1 u with rfl | u
          · have := v k0 hk0; rw [hl] at this; cases this
          · exact .inr ⟨u, v, fun y hy n => z y (List.mem_cons_of_mem _ hy) n⟩
    · have e : keep K t = K ++ [t] := by unfold keep; rw [if_neg h]
      have hn : ∀ k ∈ K, leB k t = false := by
        intro k hk
        cases hb : leB k t with
        | false => rfl
        | true => exact absurd (List.any_eq_true.2 ⟨k, hk, hb⟩) h
      rw [e]
      have lo : ∀ k ∈ K, numT k < numT t := by
        intro k hk
        rcases Int.lt_or_eq_of_le (hh k hk t (by simp)) with u | u
        · exact u
        · have := num_eq (oK k hk).1 ot.1 u
          have g := hn k hk
          rw [this, ok_refl ot] at g
          cases g
      obtain ⟨g1, g2⟩ := minA_set r (K ++ [t]) oR (by
          intro x hx
          rcases List.mem_append.1 hx with u | u
          · exact oK x u
          · simp at u; rw [u]; exact ot) s2 (by
          rw [List.pairwise_append]
          exact ⟨hK, List.pairwise_singleton _ _, fun k hk y hy => by simp at hy; rw [hy]; exact lo k hk⟩) (by
          intro k hk s hs
          rcases List.mem_append.1 hk with u | u
          · exact hh k u s (List.mem_cons_of_mem _ hs)
          · simp at u; rw [u]; exact s1 s hs)
      refine ⟨g1, fun x => ?_⟩
      rw [g2]
      constructor
      · rintro (u | ⟨u, v, z⟩)
        · rcases List.mem_append.1 u with u | u
          · exact .inl u
          · simp at u
            subst u
            refine .inr ⟨by simp, hn, fun y hy n => ?_⟩
            rcases List.mem_cons.1 hy with rfl | hy
            · exact absurd rfl n
            · cases hb : leB y x with
              | false => rfl
              | true =>
                have p := le_lt (oR y hy) ot hb n
                have q := s1 y hy
                omega
        · refine .inr ⟨List.mem_cons_of_mem _ u, fun k hk => v k (List.mem_append_left _ hk), fun y hy n => ?_⟩
          rcases List.mem_cons.1 hy with rfl | hy
          · exact v y (by simp)
          · exact z y hy n
      · rintro (u | ⟨u, v, z⟩)
        · exact .inl (List.mem_append_left _ u)
        · by_cases n : x = t
          · exact .inl (by simp [n])
          · rcases List.mem_cons.1 u with u | u
            · exact absurd u n
            · refine .inr ⟨u, fun k hk => ?_, fun y hy m => z y (List.mem_cons_of_mem _ hy) m⟩
              rcases List.mem_append.1 hk with w | w
              · exact v k w
              · simp at w; rw [w]; exact z t (by simp) (fun e => n e.symm)
theorem srt_mem (L : List Tm) (h : InL L) (x : Tm) : x ∈ srtL L h ↔ x ∈ L := by
  unfold srtL srt
  rw [List.mem_map]
  constructor
  · rintro ⟨y, hy, rfl⟩
    rw [(List.mergeSort_perm _ _).mem_iff] at hy
    have : y.1 ∈ (tis L h).map (·.1) := List.mem_map_of_mem hy
    rwa [tis_val] at this
  · intro hx
    have : x ∈ (tis L h).map (·.1) := by rwa [tis_val]
    obtain ⟨y, hy, e⟩ := List.mem_map.1 this
    exact ⟨y, by rwa [(List.mergeSort_perm _ _).mem_iff], e⟩
theorem srt_sorted (L : List Tm) (h : InL L) : (srtL L h).Pairwise (fun x y => numT x ≤ numT y) := by
  unfold srtL srt
  rw [List.pairwise_map]
  have := List.pairwise_mergeSort (le := fun x y : TI => !ltOf cfT y x) (by
    intro a b c h1 h2
    simp only [lt_num] at *
    simp at *
    omega) (by
    intro a b
    simp only [lt_num]
    simp
    omega) (tis L h)
  refine this.imp ?_
  intro a b hab
  rw [lt_num] at hab
  simp at hab
  exact hab
/-- The sorted minimal ones are what the document's loop makes. -/
theorem min_ref (L : List Tm) (h : InL L) (hc : ∀ y ∈ L, chk y = 0) : minA (srtL L h) [] = refF L L.length := by
  have o : ∀ x ∈ srtL L h, Ok x := fun x hx => by
    have := (srt_mem L h x).1 hx
    exact ⟨h x this, hc x this⟩
  obtain ⟨g1, g2⟩ := minA_set (srtL L h) [] o (by simp) (srt_sorted L h) List.Pairwise.nil (by simp)
  refine ext_sorted g1 (refF_sorted h _) fun x => ?_
  rw [g2, refF_set, srt_mem]
  simp only [List.not_mem_nil, false_or]
  constructor
  · rintro ⟨u, -, v⟩; exact ⟨u, fun y hy n => v y ((srt_mem L h y).2 hy) n⟩
  · rintro ⟨u, v⟩; exact ⟨u, by simp, fun y hy n => v y ((srt_mem L h y).1 hy) n⟩
theorem ref_make (L : List Tm) (h : InL L) : refE L = makeE L h ∧ refV L = makeV L h := by
  have key : timesE L = 0 → (if 64 < (refF L L.length).length then 64 < (makeS L h).length else makeS L h = refF L L.length) := by
    intro ht
    have := minF_minA (srtL L h) [] (by simp)
    rwa [min_ref L h (times_zero ht).1] at this
  have e : refE L = makeE L h := by
    unfold refE makeE
    by_cases hl : 4096 < L.length
    · rw [if_pos hl, if_pos hl]
    · rw [if_neg hl, if_neg hl]
      by_cases ht : timesE L = 0
      · have hn : ¬ timesE L ≠ 0 := fun q => q ht
        rw [if_neg hn, if_neg hn]
        have k := key ht
        by_cases hs : 64 < (refF L L.length).length
        · rw [if_pos hs] at k
          rw [if_pos hs, if_pos k]
        · rw [if_neg hs] at k
          rw [k]
      · rw [if_pos ht, if_pos ht]
  refine ⟨e, ?_⟩
  unfold refV makeV
  rw [e]
  by_cases z : makeE L h = 0
  · rw [if_pos z, if_pos z]
    have : ¬ 4096 < L.length ∧ timesE L = 0 ∧ ¬ 64 < (makeS L h).length := by
      unfold makeE at z
      split at z
      · omega
      · split at z
        · rename_i q; exact absurd z q
        · rename_i q
          split at z
          · omega
          · exact ⟨by assumption, by simpa using q, by assumption⟩
    have k := key this.2.1
    by_cases hs : 64 < (refF L L.length).length
    · rw [if_pos hs] at k; exact absurd k this.2.2
    · rw [if_neg hs] at k; exact k.symm
  · rw [if_neg z, if_neg z]
end Go.Proofs.Ytpjlefdigpejdaa.chain
namespace Go.Proofs.Ytpjlefdigpejdaa.chain
open Go.Lib Go.Sort
open Go.Proofs.Ytpjlefdigpejdaa.tm Go.Proofs.Ytpjlefdigpejdaa.stamp

/-- A frontier: times of one depth, in order, none ahead of another one. -/
structure Front (L : List Tm) : Prop where
  ok : ∀ x ∈ L, Ok x
  deep : ∀ x ∈ L, x.d = (L.headD T0).d
  inc : L.Pairwise Lo
  anti : ∀ x ∈ L, ∀ y ∈ L, y ≠ x → leB y x = false
  few : L.length ≤ 64
theorem holds_iff {L : List Tm} {t : Tm} : holdsB L t = true ↔ ∃ x ∈ L, leB x t = true := by
  unfold holdsB
  rw [List.any_eq_true]
theorem leL_iff {L M : List Tm} : leL L M = true ↔ ∀ y ∈ M, holdsB L y = true := by
  unfold leL
  rw [List.all_eq_true]
theorem deep_iff {L : List Tm} : (∀ x ∈ L, x.d = (L.headD T0).d) ↔ ∀ x ∈ L, ∀ y ∈ L, x.d = y.d := by
  constructor
  · intro h x hx y hy
    rw [h x hx, h y hy]
  · intro h x hx
    cases L with
    | nil => simp at hx
    | cons a r => exact h x hx a (by simp)
/-- What Make answers, where nothing is wrong. -/
theorem make_zero {L : List Tm} {h : InL L} (e : makeE L h = 0) : makeV L h = refF L L.length ∧ Front (makeV L h) ∧ (∀ x ∈ L, chk x = 0) ∧ (∀ x ∈ L, ∀ y ∈ L, x.d = y.d) ∧ L.length ≤ 4096 := by
  obtain ⟨r1, r2⟩ := ref_make L h
  have e2 : refE L = 0 := by rw [r1, e]
  have hv : makeV L h = refF L L.length := by rw [← r2]; unfold refV; rw [if_pos e2]
  unfold refE at e2
  split at e2
  · omega
  · rename_i hl
    split at e2
    · rename_i q; exact absurd e2 q
    · rename_i q
      have ht : timesE L = 0 := by simpa using q
      split at e2
      · omega
      · rename_i hs
        obtain ⟨hc, hd⟩ := times_zero ht
        have hd := deep_iff.1 hd
        have hm : ∀ x ∈ refF L L.length, x ∈ L := fun x hx => ((refF_set L x).1 hx).1
        refine ⟨hv, ?_, hc, hd, by omega⟩
        rw [hv]
        exact ⟨fun x hx => ⟨h x (hm x hx), hc x (hm x hx)⟩, deep_iff.2 (fun x hx y hy => hd x (hm x hx) y (hm y hy)), refF_sorted h _, fun x hx y hy n => ((refF_set L x).1 hx).2 y (hm y hy) n, by omega⟩
theorem least_at : ∀ (L : List Tm) (x : Tm), (∃ y ∈ L, leB y x = true) → ∃ m ∈ L, leB m x = true ∧ ∀ y ∈ L, leB y x = true → numT m ≤ numT y
  | [], x, ⟨y, hy, _⟩ => by simp at hy
  | a :: r, x, h => by
    by_cases hr : ∃ y ∈ r, leB y x = true
    · obtain ⟨m, hm, h1, h2⟩ := least_at r x hr
      by_cases ha : leB a x = true ∧ numT a ≤ numT m
      · refine ⟨a, by simp, ha.1, fun y hy hl => ?_⟩
        rcases List.mem_cons.1 hy with rfl | u
        · exact Int.le_refl _
        · have := h2 y u hl; omega
      · refine ⟨m, List.mem_cons_of_mem _ hm, h1, fun y hy hl => ?_⟩
        rcases List.mem_cons.1 hy with rfl | u
        · by_cases q : numT y ≤ numT m
          · exact absurd ⟨hl, q⟩ ha
          · omega
        · exact h2 y u hl
    · obtain ⟨y, hy, hl⟩ := h
      rcases List.mem_cons.1 hy with rfl | u
      · refine ⟨y, by simp, hl, fun z hz hz2 => ?_⟩
        rcases List.mem_cons.1 hz with rfl | u
        · exact Int.le_refl _
        · exact absurd ⟨z, u, hz2⟩ hr
      · exact absurd ⟨y, u, hl⟩ hr
/-- The minimal ones hold what all of them hold. -/
theorem ref_holds (L : List Tm) (o : ∀ x ∈ L, Ok x) (t : Tm) : holdsB (refF L L.length) t = holdsB L t := by
  apply bool_ext
  rw [holds_iff, holds_iff]
  constructor
  · rintro ⟨x, hx, hl⟩; exact ⟨x, ((refF_set L x).1 hx).1, hl⟩
  · intro h
    obtain ⟨m, hm, h1, h2⟩ := least_at L t h
    refine ⟨m, (refF_set L m).2 ⟨hm, fun y hy n => ?_⟩, h1⟩
    cases hb : leB y m with
    | false => rfl
    | true =>
      have := h2 y hy (le_trans3 hb h1)
      have := le_lt (o y hy) (o m hm) hb n
      omega
theorem make_holds {L : List Tm} {h : InL L} (e : makeE L h = 0) (t : Tm) : holdsB (makeV L h) t = holdsB L t := by
  obtain ⟨hv, -, hc, -⟩ := make_zero e
  rw [hv]
  exact ref_holds L (fun x hx => ⟨h x hx, hc x hx⟩) t
theorem front_in {L : List Tm} (f : Front L) : InL L := fun x hx => (f.ok x hx).1
theorem front_ref {L : List Tm} (f : Front L) : refF L L.length = L := by
  refine ext_sorted (refF_sorted (front_in f) _) f.inc fun x => ?_
  rw [refF_set]
  constructor
  · exact fun u => u.1
  · intro hx
    exact ⟨hx, fun y hy n => f.anti x hx y hy n⟩
/-- Made again a frontier is as it was. -/
theorem make_front {L : List Tm} (f : Front L) (h : InL L) : makeE L h = 0 ∧ makeV L h = L := by
  obtain ⟨r1, r2⟩ := ref_make L h
  have ht : timesE L = 0 := times_ok (fun y hy => (f.ok y hy).2) f.deep
  have hf := f.few
  have e : refE L = 0 := by
    unfold refE
    rw [if_neg (by omega), if_neg (by simp [ht]), front_ref f, if_neg (by omega)]
  refine ⟨by rw [← r1, e], ?_⟩
  rw [← r2]
  unfold refV
  rw [if_pos e, front_ref f]
theorem check_front {L : List Tm} (f : Front L) (h : InL L) : checkE L h = 0 := by
  have hf := f.few
  obtain ⟨e, v⟩ := make_front f h
  unfold checkE
  rw [if_neg (by omega), if_neg (by simp [e]), if_pos v]
theorem front_check {L : List Tm} {h : InL L} (e : checkE L h = 0) : Front L := by
  unfold checkE at e
  split at e
  · omega
  · split at e
    · rename_i q; exact absurd e q
    · rename_i q
      split at e
      · rename_i v
        have hz : makeE L h = 0 := by simpa using q
        have := (make_zero hz).2.1
        rwa [v] at this
      · omega
theorem front_nil : Front [] := ⟨by simp, by simp, List.Pairwise.nil, by simp, by simp⟩
/-- No two of a frontier stand one ahead of the other. -/
theorem front_anti {L : List Tm} (f : Front L) {i k : Nat} {x y : Tm} (n : i ≠ k) (hi : L[i]? = some x) (hk : L[k]? = some y) : leB x y = false := by
  obtain ⟨i1, i2⟩ := List.getElem?_eq_some_iff.1 hi
  obtain ⟨k1, k2⟩ := List.getElem?_eq_some_iff.1 hk
  refine f.anti y (List.mem_of_getElem? hk) x (List.mem_of_getElem? hi) fun e => ?_
  rcases Nat.lt_or_gt_of_ne n with u | u
  · have : Lo L[i] L[k] := List.pairwise_iff_getElem.1 f.inc i k i1 k1 u
    rw [i2, k2, e] at this
    exact absurd this (Int.lt_irrefl _)
  · have : Lo L[k] L[i] := List.pairwise_iff_getElem.1 f.inc k i k1 i1 u
    rw [i2, k2, e] at this
    exact absurd this (Int.lt_irrefl _)
theorem leL_refl {L : List Tm} (f : Front L) : leL L L = true := leL_iff.2 fun y hy => holds_iff.2 ⟨y, hy, ok_refl (f.ok y hy)⟩
theorem leL_holds {L M : List Tm} {t : Tm} (h : leL L M = true) (k : holdsB M t = true) : holdsB L t = true := by
  obtain ⟨y, hy, hl⟩ := holds_iff.1 k
  obtain ⟨x, hx, hk⟩ := holds_iff.1 (leL_iff.1 h y hy)
  exact holds_iff.2 ⟨x, hx, le_trans3 hk hl⟩
theorem leL_trans {L M N : List Tm} (h : leL L M = true) (k : leL M N = true) : leL L N = true := leL_iff.2 fun z hz => leL_holds h (leL_iff.1 k z hz)
theorem leL_sub {L M : List Tm} (fL : Front L) (fM : Front M) (h : leL L M = true) (k : leL M L = true) : ∀ y ∈ M, y ∈ L := by
  intro y hy
  obtain ⟨x, hx, h1⟩ := holds_iff.1 (leL_iff.1 h y hy)
  obtain ⟨z, hz, h2⟩ := holds_iff.1 (leL_iff.1 k x hx)
  have h3 := le_trans3 h2 h1
  have e : z = y := Decidable.byContradiction fun n => by
    have := fM.anti y hy z hz n
    rw [h3] at this
    cases this
  subst e
  have p := le_num (fL.ok x hx) (fM.ok z hy) h1
  have q := le_num (fM.ok z hy) (fL.ok x hx) h2
  have : x = z := num_eq (fL.ok x hx).1 (fM.ok z hy).1 (by omega)
  rw [← this]; exact hx
theorem leL_anti {L M : List Tm} (fL : Front L) (fM : Front M) (h : leL L M = true) (k : leL M L = true) : L = M :=
  ext_sorted fL.inc fM.inc fun x => ⟨fun hx => leL_sub fM fL k h x hx, fun hx => leL_sub fL fM h k x hx⟩
/-- What is wrong with two frontiers. -/
def bothE (A B : List Tm) (iA : InL A) (iB : InL B) : Int := if checkE A iA ≠ 0 then checkE A iA else if checkE B iB ≠ 0 then checkE B iB else if A ≠ [] ∧ B ≠ [] ∧ (A.headD T0).d ≠ (B.headD T0).d then 10 else 0
theorem in_app {A B : List Tm} (iA : InL A) (iB : InL B) : InL (A ++ B) := fun x hx => (List.mem_append.1 hx).elim (iA x) (iB x)
def joins (A B : List Tm) : List Tm := A.flatMap fun a => B.map fun b => joinV a b
theorem max_in {x y p q : Int} (h1 : p ≤ x) (h2 : x ≤ q) (k1 : p ≤ y) (k2 : y ≤ q) : p ≤ maxI x y ∧ maxI x y ≤ q := by
  unfold maxI; split <;> omega
theorem join_In {a b : Tm} (ia : a.In) (ib : b.In) : (joinV a b).In := by
  unfold joinV
  split
  · obtain ⟨i0, i1, i8, i9, i2, i3, i4, i5, i6, i7⟩ := ia
    obtain ⟨j0, j1, -, -, j2, j3, j4, j5, j6, j7⟩ := ib
    exact ⟨(max_in i0 i1 j0 j1).1, (max_in i0 i1 j0 j1).2, i8, i9, (max_in i2 i3 j2 j3).1, (max_in i2 i3 j2 j3).2, (max_in i4 i5 j4 j5).1, (max_in i4 i5 j4 j5).2, (max_in i6 i7 j6 j7).1, (max_in i6 i7 j6 j7).2⟩
  · constructor <;> decide
theorem in_joins {A B : List Tm} (iA : InL A) (iB : InL B) : InL (joins A B) := by
  intro x hx
  obtain ⟨a, ha, hx⟩ := List.mem_flatMap.1 hx
  obtain ⟨b, hb, rfl⟩ := List.mem_map.1 hx
  exact join_In (iA a ha) (iB b hb)
def meetLE (A B : List Tm) (iA : InL A) (iB : InL B) : Int := if bothE A B iA iB ≠ 0 then bothE A B iA iB else makeE (A ++ B) (in_app iA iB)
def meetLV (A B : List Tm) (iA : InL A) (iB : InL B) : List Tm := if bothE A B iA iB ≠ 0 then [] else makeV (A ++ B) (in_app iA iB)
def joinLE (A B : List Tm) (iA : InL A) (iB : InL B) : Int := if bothE A B iA iB ≠ 0 then bothE A B iA iB else makeE (joins A B) (in_joins iA iB)
def joinLV (A B : List Tm) (iA : InL A) (iB : InL B) : List Tm := if bothE A B iA iB ≠ 0 then [] else makeV (joins A B) (in_joins iA iB)
theorem both_ok {A B : List Tm} {iA : InL A} {iB : InL B} (h : bothE A B iA iB = 0) : Front A ∧ Front B ∧ ∀ a ∈ A, ∀ b ∈ B, both a b = 0 := by
  unfold bothE at h
  split at h
  · rename_i q; exact absurd h q
  · rename_i q1
    split at h
    · rename_i q; exact absurd h q
    · rename_i q2
      split at h
      · omega
      · rename_i q3
        have fA : Front A := front_check (h := iA) (by simpa using q1)
        have fB : Front B := front_check (h := iB) (by simpa using q2)
        refine ⟨fA, fB, fun a ha b hb => ?_⟩
        have d1 := fA.deep a ha
        have d2 := fB.deep b hb
        have dd : a.d = b.d := by
          rw [d1, d2]
          refine Decidable.byContradiction fun n => q3 ⟨?_, ?_, n⟩
          · rintro rfl; simp at ha
          · rintro rfl; simp at hb
        unfold both
        rw [if_pos (fA.ok a ha).2, if_pos (fB.ok b hb).2, if_pos dd]
theorem meet_le {A B : List Tm} {iA : InL A} {iB : InL B} (h : meetLE A B iA iB = 0) : bothE A B iA iB = 0 ∧ makeE (A ++ B) (in_app iA iB) = 0 ∧ meetLV A B iA iB = makeV (A ++ B) (in_app iA iB) := by
  unfold meetLE at h
  split at h
  · rename_i q; exact absurd h q
  · rename_i q
    have q0 : bothE A B iA iB = 0 := by simpa using q
    exact ⟨q0, h, by unfold meetLV; rw [if_neg q]⟩
theorem join_le {A B : List Tm} {iA : InL A} {iB : InL B} (h : joinLE A B iA iB = 0) : bothE A B iA iB = 0 ∧ makeE (joins A B) (in_joins iA iB) = 0 ∧ joinLV A B iA iB = makeV (joins A B) (in_joins iA iB) := by
  unfold joinLE at h
  split at h
  · rename_i q; exact absurd h q
  · rename_i q
    have q0 : bothE A B iA iB = 0 := by simpa using q
    exact ⟨q0, h, by unfold joinLV; rw [if_neg q]⟩
theorem meet_holds {A B : List Tm} {iA : InL A} {iB : InL B} (h : meetLE A B iA iB = 0) (t : Tm) : holdsB (meetLV A B iA iB) t = (holdsB A t || holdsB B t) := by
  obtain ⟨-, e, v⟩ := meet_le h
  rw [v, make_holds e]
  unfold holdsB
  rw [List.any_append]
theorem meet_low {A B : List Tm} {iA : InL A} {iB : InL B} (h : meetLE A B iA iB = 0) : leL (meetLV A B iA iB) A = true ∧ leL (meetLV A B iA iB) B = true := by
  obtain ⟨fA, fB, -⟩ := both_ok (meet_le h).1
  refine ⟨leL_iff.2 fun y hy => ?_, leL_iff.2 fun y hy => ?_⟩
  · rw [meet_holds h, holds_iff.2 ⟨y, hy, ok_refl (fA.ok y hy)⟩]; rfl
  · rw [meet_holds h, holds_iff.2 ⟨y, hy, ok_refl (fB.ok y hy)⟩]; simp
theorem joinV_le {a b t : Tm} (h : both a b = 0) : leB (joinV a b) t = (leB a t && leB b t) := by
  apply bool_ext
  rw [Bool.and_eq_true, leB_iff, leB_iff, leB_iff]
  obtain ⟨ca, cb, dd⟩ := both_zero h
  unfold joinV
  rw [if_pos h]
  obtain ⟨a1, a2, -⟩ := chk_zero ca
  obtain ⟨b1, b2, -⟩ := chk_zero cb
  have m : ∀ x y z : Int, maxI x y ≤ z ↔ x ≤ z ∧ y ≤ z := by
    intro x y z
    unfold maxI
    split <;> constructor <;> intro <;> omega
  simp only [m]
  constructor
  · rintro ⟨h1, h2, h3, h4, h5, h6, h7⟩
    exact ⟨⟨h1, h2, h3, h4.1, fun u => (h5 u).1, fun u => (h6 u).1, fun u => (h7 u).1⟩, by omega, by omega, by omega, h4.2, fun u => (h5 (by omega)).2, fun u => (h6 (by omega)).2, fun u => (h7 (by omega)).2⟩
  · rintro ⟨⟨h1, h2, h3, h4, h5, h6, h7⟩, k1, k2, k3, k4, k5, k6, k7⟩
    exact ⟨h1, h2, h3, ⟨h4, k4⟩, fun u => ⟨h5 u, k5 (by omega)⟩, fun u => ⟨h6 u, k6 (by omega)⟩, fun u => ⟨h7 u, k7 (by omega)⟩⟩
theorem join_holds {A B : List Tm} {iA : InL A} {iB : InL B} (h : joinLE A B iA iB = 0) (t : Tm) : holdsB (joinLV A B iA iB) t = (holdsB A t && holdsB B t) := by
  obtain ⟨q, e, v⟩ := join_le h
  obtain ⟨fA, fB, hb⟩ := both_ok q
  rw [v, make_holds e]
  apply bool_ext
  rw [Bool.and_eq_true, holds_iff, holds_iff, holds_iff]
  constructor
  · rintro ⟨x, hx, hl⟩
    obtain ⟨a, ha, hx⟩ := List.mem_flatMap.1 hx
    obtain ⟨b, hb2, rfl⟩ := List.mem_map.1 hx
    rw [joinV_le (hb a ha b hb2), Bool.and_eq_true] at hl
    exact ⟨⟨a, ha, hl.1⟩, b, hb2, hl.2⟩
  · rintro ⟨⟨a, ha, h1⟩, b, hb2, h2⟩
    exact ⟨joinV a b, List.mem_flatMap.2 ⟨a, ha, List.mem_map.2 ⟨b, hb2, rfl⟩⟩, by rw [joinV_le (hb a ha b hb2), h1, h2]; rfl⟩
theorem join_high {A B : List Tm} {iA : InL A} {iB : InL B} (h : joinLE A B iA iB = 0) : leL A (joinLV A B iA iB) = true ∧ leL B (joinLV A B iA iB) = true := by
  obtain ⟨q, e, v⟩ := join_le h
  obtain ⟨-, f, -⟩ := make_zero e
  rw [← v] at f
  have k : ∀ y ∈ joinLV A B iA iB, holdsB A y = true ∧ holdsB B y = true := by
    intro y hy
    have := join_holds h y
    rw [holds_iff.2 ⟨y, hy, ok_refl (f.ok y hy)⟩] at this
    exact Bool.and_eq_true_iff.1 this.symm
  exact ⟨leL_iff.2 fun y hy => (k y hy).1, leL_iff.2 fun y hy => (k y hy).2⟩
end Go.Proofs.Ytpjlefdigpejdaa.chain
