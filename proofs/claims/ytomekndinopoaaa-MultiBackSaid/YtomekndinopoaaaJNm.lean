/-
  A time as one number.
  Mathematics of frontiers: what the document's insertion makes.
-/
import Derived.Test.YtomekndinopoaaaJTm
import Derived.Test.YtomekndinopoaaaJHoR
namespace Go.Proofs.Ytomekndinopoaaa.chain
open Go.Proofs.Ytomekndinopoaaa.tm

/-- A time as one number: the order of times is that of the numbers. -/
def numT (t : Tm) : Int := t.d * 340282366920938463463374607431768211456 + t.e * 79228162514264337593543950336 + t.a * 18446744073709551616 + t.b * 4294967296 + t.c
theorem orI_at {x y p : Int} (h : p ≠ 0) (hx : x = p) : orI x y = p := by subst hx; unfold orI; rw [if_neg h]
theorem orI_skip {x y : Int} (hx : x = 0) : orI x y = y := by unfold orI; rw [if_pos hx]
theorem cmpI_eq {x y : Int} (h : x = y) : cmpI x y = 0 := by subst h; exact cmpI_self x
theorem orI_cmp (x y r : Int) : orI (cmpI x y) r = if x < y then -1 else if y < x then 1 else r := by
  by_cases h : x < y
  · rw [if_pos h, cmpI_lt h]; rfl
  · rw [if_neg h]
    by_cases k : y < x
    · rw [if_pos k, cmpI_gt k]; rfl
    · rw [if_neg k, cmpI_eq (by omega)]; rfl
theorem cmpT_num {s t : Tm} (i : s.In) (j : t.In) : cmpT s t < 0 ↔ numT s < numT t := by
  obtain ⟨i0, i1, -, -, i2, i3, i4, i5, i6, i7⟩ := i
  obtain ⟨j0, j1, -, -, j2, j3, j4, j5, j6, j7⟩ := j
  unfold cmpT numT
  simp only [orI_cmp]
  unfold cmpI
  split
  · constructor <;> intro <;> omega
  · split
    · constructor <;> intro <;> omega
    · split
      · constructor <;> intro <;> omega
      · split
        · constructor <;> intro <;> omega
        · split
          · constructor <;> intro <;> omega
          · split
            · constructor <;> intro <;> omega
            · split
              · constructor <;> intro <;> omega
              · split
                · constructor <;> intro <;> omega
                · split
                  · constructor <;> intro <;> omega
                  · split
                    · constructor <;> intro <;> omega
                    · constructor <;> intro <;> omega
theorem num_eq {s t : Tm} (i : s.In) (j : t.In) (h : numT s = numT t) : s = t := by
  obtain ⟨i0, i1, -, -, i2, i3, i4, i5, i6, i7⟩ := i
  obtain ⟨j0, j1, -, -, j2, j3, j4, j5, j6, j7⟩ := j
  cases s; cases t
  simp only [numT] at *
  congr 1 <;> omega
end Go.Proofs.Ytomekndinopoaaa.chain
namespace Go.Proofs.Ytomekndinopoaaa.chain
open Go.Proofs.Ytomekndinopoaaa.tm Go.Proofs.Ytomekndinopoaaa.stamp

theorem bool_ext {a b : Bool} (h : a = true ↔ b = true) : a = b := by
  cases a <;> cases b <;> simp_all
/-- A time that is one. -/
def Ok (t : Tm) : Prop := t.In ∧ chk t = 0
theorem ok_refl {x : Tm} (h : Ok x) : leB x x = true := by
  have := chk_zero h.2
  exact leB_yes ⟨rfl, this.1, this.2.1, by omega, fun _ => by omega, fun _ => by omega, fun _ => by omega⟩
theorem le_trans3 {x y z : Tm} (h : leB x y = true) (k : leB y z = true) : leB x z = true := by
  rw [leB_iff] at *
  obtain ⟨h1, h2, h3, h4, h5, h6, h7⟩ := h
  obtain ⟨k1, k2, k3, k4, k5, k6, k7⟩ := k
  refine ⟨by omega, h2, h3, by omega, fun u => ?_, fun u => ?_, fun u => ?_⟩
  · have := h5 u; have := k5 (by omega); omega
  · have := h6 u; have := k6 (by omega); omega
  · have := h7 u; have := k7 (by omega); omega
theorem le_num {x y : Tm} (hx : Ok x) (hy : Ok y) (h : leB x y = true) : numT x ≤ numT y := by
  obtain ⟨i, cx⟩ := hx
  obtain ⟨j, cy⟩ := hy
  obtain ⟨-, -, -, -, -, -, p1, p2, p3⟩ := chk_zero cx
  obtain ⟨-, -, -, -, -, -, q1, q2, q3⟩ := chk_zero cy
  obtain ⟨i0, i1, -, -, i2, i3, i4, i5, i6, i7⟩ := i
  obtain ⟨j0, j1, -, -, j2, j3, j4, j5, j6, j7⟩ := j
  obtain ⟨h1, h2, h3, h4, h5, h6, h7⟩ := leB_iff.1 h
  have a : x.a ≤ y.a := by
    by_cases u : 1 ≤ x.d
    · exact h5 u
    · have := p1 (by omega); omega
  have b : x.b ≤ y.b := by
    by_cases u : 2 ≤ x.d
    · exact h6 u
    · have := p2 (by omega); omega
  have c : x.c ≤ y.c := by
    by_cases u : 3 ≤ x.d
    · exact h7 u
    · have := p3 (by omega); omega
  unfold numT
  omega
theorem le_lt {x y : Tm} (hx : Ok x) (hy : Ok y) (h : leB x y = true) (n : x ≠ y) : numT x < numT y := by
  have := le_num hx hy h
  rcases Int.lt_or_eq_of_le this with u | u
  · exact u
  · exact absurd (num_eq hx.1 hy.1 u) n
theorem gt_num {s t : Tm} (i : s.In) (j : t.In) : 0 < cmpT s t ↔ numT t < numT s := by
  have h1 := cmpT_num i j
  have h2 : cmpT s t = 0 → numT s = numT t := by
    intro h
    unfold cmpT at h
    have o : ∀ x y : Int, orI x y = 0 → x = 0 ∧ y = 0 := by
      intro x y e
      unfold orI at e
      split at e
      · exact ⟨by assumption, e⟩
      · exact absurd e (by assumption)
    have z : ∀ x y : Int, cmpI x y = 0 → x = y := by
      intro x y e
      by_cases n : x = y
      · exact n
      · exact absurd e (cmpI_ne n)
    obtain ⟨e1, h⟩ := o _ _ h
    obtain ⟨e2, h⟩ := o _ _ h
    obtain ⟨e3, h⟩ := o _ _ h
    obtain ⟨e4, e5⟩ := o _ _ h
    unfold numT
    rw [z _ _ e1, z _ _ e2, z _ _ e3, z _ _ e4, z _ _ e5]
  constructor
  · intro h
    rcases Int.lt_trichotomy (numT s) (numT t) with u | u | u
    · have := h1.2 u; omega
    · have := num_eq i j u
      subst this
      rw [cmpT_self] at h
      omega
    · exact u
  · intro h
    rcases Int.lt_trichotomy (cmpT s t) 0 with u | u | u
    · have := h1.1 u; omega
    · have := h2 u; omega
    · exact u
/-- The order of times, as one of numbers. -/
def Lo (x y : Tm) : Prop := numT x < numT y
theorem ext_sorted : ∀ {A B : List Tm}, A.Pairwise Lo → B.Pairwise Lo → (∀ x, x ∈ A ↔ x ∈ B) → A = B
  | [], B, _, _, h => by
    cases B with
    | nil => rfl
    | cons b s => exact absurd ((h b).2 (by simp)) (by simp)
  | a :: r, [], _, _, h => absurd ((h a).1 (by simp)) (by simp)
  | a :: r, b :: s, hA, hB, h => by
    obtain ⟨a1, a2⟩ := List.pairwise_cons.1 hA
    obtain ⟨b1, b2⟩ := List.pairwise_cons.1 hB
    have e : a = b := by
      rcases List.mem_cons.1 ((h a).1 (by simp)) with u | u
      · exact u
      · rcases List.mem_cons.1 ((h b).2 (by simp)) with v | v
        · exact v.symm
        · have p : numT b < numT a := b1 a u
          have q : numT a < numT b := a1 b v
          omega
    subst e
    congr 1
    refine ext_sorted a2 b2 fun x => ?_
    constructor
    · intro hx
      rcases List.mem_cons.1 ((h x).1 (List.mem_cons_of_mem _ hx)) with u | u
      · have p : numT a < numT x := a1 x hx
        rw [u] at p; omega
      · exact u
    · intro hx
      rcases List.mem_cons.1 ((h x).2 (List.mem_cons_of_mem _ hx)) with u | u
      · have p : numT a < numT x := b1 x hx
        rw [u] at p; omega
      · exact u
/-- Does a time at a place leave another one among the least? -/
def good (i : Nat) (x : Tm) (j : Nat) (y : Tm) : Bool := if y = x then decide (i ≤ j) else !leB y x
def Good (L : List Tm) (i : Nat) (x : Tm) (k : Nat) : Prop := ∀ j y, j < k → L[j]? = some y → good i x j y = true
/-- Where a time comes in: behind the last one that is not greater. -/
def posn (N : List Tm) (x : Tm) : Nat → Nat
  | 0 => 0
  | a + 1 => if 0 < cmpT (N[a]?.getD T0) x then posn N x a else a + 1
theorem posn_le (N : List Tm) (x : Tm) : ∀ a, posn N x a ≤ a
  | 0 => Nat.le_refl _
  | a + 1 => by
    unfold posn
    split
    · have := posn_le N x a; omega
    · exact Nat.le_refl _
theorem posn_more {N : List Tm} {x y : Tm} {a p : Nat} (hy : N[a]? = some y) (h : 0 < cmpT y x) (e : posn N x (a + 1) = p) : posn N x a = p := by
  rw [← e, posn, hy]; simp [h]
theorem posn_stop {N : List Tm} {x y : Tm} {a p : Nat} (hy : N[a]? = some y) (h : ¬ 0 < cmpT y x) (e : posn N x (a + 1) = p) : a + 1 = p := by
  rw [← e, posn, hy]; simp [h]
theorem posn_above {N : List Tm} {x : Tm} : ∀ a, a ≤ N.length → ∀ j y, posn N x a ≤ j → j < a → N[j]? = some y → 0 < cmpT y x
  | 0, _, j, y, _, h, _ => by omega
  | a + 1, ha, j, y, h1, h2, h3 => by
    unfold posn at h1
    split at h1
    · rename_i hc
      by_cases e : j = a
      · subst e; rw [h3] at hc; exact hc
      · exact posn_above a (by omega) j y h1 (by omega) h3
    · omega
theorem posn_below {N : List Tm} {x : Tm} : ∀ a, a ≤ N.length → posn N x a = 0 ∨ ∃ z, N[posn N x a - 1]? = some z ∧ ¬ 0 < cmpT z x
  | 0, _ => .inl rfl
  | a + 1, ha => by
    unfold posn
    split
    · exact posn_below a (by omega)
    · rename_i hc
      refine .inr ⟨N[a], by rw [Nat.add_sub_cancel]; exact List.getElem?_eq_getElem (by omega), ?_⟩
      rwa [List.getElem?_eq_getElem (by omega)] at hc
/-- A time laid in. -/
def insT (N : List Tm) (x : Tm) : List Tm := N.take (posn N x N.length) ++ [x] ++ N.drop (posn N x N.length)
theorem mem_ins (N : List Tm) (x y : Tm) : y ∈ insT N x ↔ y = x ∨ y ∈ N := by
  unfold insT
  conv => rhs; rw [← List.take_append_drop (posn N x N.length) N]
  simp only [List.mem_append, List.mem_singleton]
  constructor
  · rintro ((h | h) | h)
    · exact .inr (.inl h)
    · exact .inl h
    · exact .inr (.inr h)
  · rintro (h | h | h)
    · exact .inl (.inr h)
    · exact .inl (.inl h)
    · exact .inr h
theorem ins_len (N : List Tm) (x : Tm) : (insT N x).length = N.length + 1 := by
  have := posn_le N x N.length
  unfold insT
  simp
  omega
theorem ins_sorted {N : List Tm} {x : Tm} (iN : ∀ y ∈ N, y.In) (ix : x.In) (h : N.Pairwise Lo) (n : x ∉ N) : (insT N x).Pairwise Lo := by
  have hp := posn_le N x N.length
  have up : ∀ y ∈ N.drop (posn N x N.length), Lo x y := by
    intro y hy
    obtain ⟨j, hj⟩ := List.mem_iff_getElem?.1 hy
    rw [List.getElem?_drop] at hj
    exact (gt_num (iN y (List.mem_of_getElem? hj)) ix).1 (posn_above N.length (Nat.le_refl _) _ y (by omega) (List.getElem?_eq_some_iff.1 hj).1 hj)
  have dn : ∀ y ∈ N.take (posn N x N.length), Lo y x := by
    intro y hy
    obtain ⟨j, hj⟩ := List.mem_iff_getElem?.1 hy
    rw [List.getElem?_take] at hj
    split at hj
    · rename_i hjp
      rcases posn_below (N := N) (x := x) N.length (Nat.le_refl _) with e | ⟨z, hz, hc⟩
      · omega
      · have iy := iN y (List.mem_of_getElem? hj)
        have iz := iN z (List.mem_of_getElem? hz)
        have q : ¬ numT x < numT z := fun u => hc ((gt_num iz ix).2 u)
        have r : numT y ≤ numT z := by
          by_cases e : j = posn N x N.length - 1
          · subst e; rw [hj] at hz; rw [Option.some.inj hz]; exact Int.le_refl _
          · obtain ⟨hj1, hj2⟩ := List.getElem?_eq_some_iff.1 hj
            obtain ⟨hz1, hz2⟩ := List.getElem?_eq_some_iff.1 hz
            have : Lo N[j] (N[posn N x N.length - 1]) := List.pairwise_iff_getElem.1 h j _ hj1 hz1 (by omega)
            rw [hj2, hz2] at this
            exact Int.le_of_lt this
        have ne : numT y ≠ numT x := fun e => n (by rw [← num_eq iy ix e]; exact List.mem_of_getElem? hj)
        show numT y < numT x
        omega
    · cases hj
  unfold insT
  rw [List.pairwise_append, List.pairwise_append]
  refine ⟨⟨h.sublist (List.take_sublist _ _), List.pairwise_singleton _ _, fun y hy z hz => ?_⟩, h.sublist (List.drop_sublist _ _), fun y hy z hz => ?_⟩
  · rw [List.mem_singleton.1 hz]; exact dn y hy
  · rcases List.mem_append.1 hy with u | u
    · have := dn y u
      have := up z hz
      unfold Lo at *
      omega
    · rw [List.mem_singleton.1 u]; exact up z hz
/-- Is the one at a place among the least? -/
def gall (L : List Tm) (i : Nat) (x : Tm) : Bool := (List.range L.length).all (fun j => good i x j (L[j]?.getD T0))
theorem gall_iff (L : List Tm) (i : Nat) (x : Tm) : gall L i x = true ↔ Good L i x L.length := by
  unfold gall Good
  rw [List.all_eq_true]
  constructor
  · intro h j y hj hy
    have := h j (by simpa using hj)
    rwa [hy] at this
  · intro h j hj
    have hj : j < L.length := by simpa using hj
    rw [List.getElem?_eq_getElem hj]
    exact h j _ hj (List.getElem?_eq_getElem hj)
/-- What the document's loop has made of the first times. -/
def refF (L : List Tm) : Nat → List Tm
  | 0 => []
  | i + 1 => match L[i]? with
    | none => refF L i
    | some x => if gall L i x then insT (refF L i) x else refF L i
theorem refF_skip {L : List Tm} {i : Nat} {x : Tm} (h : L[i]? = some x) (g : gall L i x = false) : refF L (i + 1) = refF L i := by
  simp only [refF, h, g]
  simp
theorem refF_add {L : List Tm} {i : Nat} {x : Tm} (h : L[i]? = some x) (g : gall L i x = true) : refF L (i + 1) = insT (refF L i) x := by
  simp only [refF, h, g]
  simp
theorem refF_len (L : List Tm) : ∀ i, (refF L i).length ≤ i
  | 0 => Nat.le_refl _
  | i + 1 => by
    have ih := refF_len L i
    unfold refF
    split
    · omega
    · split
      · rw [ins_len]; omega
      · omega
theorem refF_mem (L : List Tm) : ∀ i x, x ∈ refF L i ↔ ∃ j, j < i ∧ L[j]? = some x ∧ Good L j x L.length
  | 0, x => by simp [refF]
  | i + 1, x => by
    have ih := refF_mem L i
    cases hy : L[i]? with
    | none =>
      have e : refF L (i + 1) = refF L i := by simp only [refF, hy]
      rw [e, ih]
      constructor
      · rintro ⟨j, hj, u⟩; exact ⟨j, by omega, u⟩
      · rintro ⟨j, hj, u, v⟩
        by_cases e : j = i
        · subst e; rw [hy] at u; cases u
        · exact ⟨j, by omega, u, v⟩
    | some y =>
      cases g : gall L i y with
      | false =>
        rw [refF_skip hy g, ih]
        constructor
        · rintro ⟨j, hj, u⟩; exact ⟨j, by omega, u⟩
        · rintro ⟨j, hj, u, v⟩
          by_cases e : j = i
          · subst e
            rw [hy] at u
            rw [← Option.some.inj u] at v
            rw [(gall_iff L j y).2 v] at g
            cases g
          · exact ⟨j, by omega, u, v⟩
      | true =>
        rw [refF_add hy g, mem_ins, ih]
        constructor
        · rintro (rfl | ⟨j, hj, u⟩)
          · exact ⟨i, by omega, hy, (gall_iff L i x).1 g⟩
          · exact ⟨j, by omega, u⟩
        · rintro ⟨j, hj, u, v⟩
          by_cases e : j = i
          · subst e
            rw [hy] at u
            exact .inl (Option.some.inj u).symm
          · exact .inr ⟨j, by omega, u, v⟩
theorem refF_in {L : List Tm} (h : InL L) (i : Nat) : InL (refF L i) := by
  intro x hx
  obtain ⟨j, -, u, -⟩ := (refF_mem L i x).1 hx
  exact h x (List.mem_of_getElem? u)
theorem refF_sorted {L : List Tm} (h : InL L) : ∀ i, (refF L i).Pairwise Lo
  | 0 => List.Pairwise.nil
  | i + 1 => by
    have ih := refF_sorted h i
    cases hy : L[i]? with
    | none =>
      have e : refF L (i + 1) = refF L i := by simp only [refF, hy]
      rw [e]; exact ih
    | some y =>
      cases g : gall L i y with
      | false => rw [refF_skip hy g]; exact ih
      | true =>
        rw [refF_add hy g]
        refine ins_sorted (refF_in h i) (h y (List.mem_of_getElem? hy)) ih ?_
        intro hm
        obtain ⟨j, hj, u, -⟩ := (refF_mem L i y).1 hm
        have := (gall_iff L i y).1 g j y (List.getElem?_eq_some_iff.1 u).1 u
        unfold good at this
        rw [if_pos rfl] at this
        have := of_decide_eq_true this
        omega
theorem first_at : ∀ {L : List Tm} {x : Tm}, x ∈ L → ∃ i : Nat, L[i]? = some x ∧ ∀ j : Nat, L[j]? = some x → i ≤ j
  | y :: r, x, h => by
    by_cases e : y = x
    · exact ⟨0, by simp [e], fun j _ => Nat.zero_le _⟩
    · rcases List.mem_cons.1 h with u | u
      · exact absurd u.symm e
      · obtain ⟨i, h1, h2⟩ := first_at u
        refine ⟨i + 1, by simpa using h1, fun j hj => ?_⟩
        cases j with
        | zero => simp at hj; exact absurd hj e
        | succ j => have := h2 j (by simpa using hj); omega
theorem refF_set (L : List Tm) (x : Tm) : x ∈ refF L L.length ↔ x ∈ L ∧ ∀ y ∈ L, y ≠ x → leB y x = false := by
  rw [refF_mem]
  constructor
  · rintro ⟨j, hj, u, v⟩
    refine ⟨List.mem_of_getElem? u, fun y hy n => ?_⟩
    obtain ⟨k, hk⟩ := List.mem_iff_getElem?.1 hy
    have := v k y (List.getElem?_eq_some_iff.1 hk).1 hk
    unfold good at this
    rw [if_neg n] at this
    simpa using this
  · rintro ⟨hx, hn⟩
    obtain ⟨i, h1, h2⟩ := first_at hx
    refine ⟨i, (List.getElem?_eq_some_iff.1 h1).1, h1, fun j y hj hy => ?_⟩
    unfold good
    by_cases e : y = x
    · rw [if_pos e]
      subst e
      simpa using h2 j hy
    · rw [if_neg e]
      simp [hn y (List.mem_of_getElem? hy) e]
/-- What the document's Make says is wrong. -/
def refE (L : List Tm) : Int := if 4096 < L.length then 7 else if timesE L ≠ 0 then timesE L else if 64 < (refF L L.length).length then 7 else 0
/-- What the document's Make answers. -/
def refV (L : List Tm) : List Tm := if refE L = 0 then refF L L.length else []
end Go.Proofs.Ytomekndinopoaaa.chain
