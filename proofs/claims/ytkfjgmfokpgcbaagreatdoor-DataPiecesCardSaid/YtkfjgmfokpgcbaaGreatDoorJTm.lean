/-
  Plain: times, what is wrong with one, and how they stand.
  Records and lists of them, as mathematics: their order, their parts, pieces of a list.
-/
namespace Go.Proofs.YtkfjgmfokpgcbaaGreatDoor.tm

/-- A time: the epoch, the depth, the rounds. -/
structure Tm where
  e : Int
  d : Int
  a : Int
  b : Int
  c : Int
deriving DecidableEq
/-- Each number is one that its kind can hold. -/
structure Tm.In (t : Tm) : Prop where
  e0 : 0 ≤ t.e
  e1 : t.e ≤ 4294967295
  d0 : -9223372036854775808 ≤ t.d
  d1 : t.d ≤ 9223372036854775807
  a0 : 0 ≤ t.a
  a1 : t.a ≤ 4294967295
  b0 : 0 ≤ t.b
  b1 : t.b ≤ 4294967295
  c0 : 0 ≤ t.c
  c1 : t.c ≤ 4294967295
def zeroT (d : Int) : Tm := ⟨0, d, 0, 0, 0⟩
/-- What Check tells. -/
def chk (t : Tm) : Int :=
  if t.d < 0 ∨ 3 < t.d then 10
  else if 1048576 < t.e ∨ 1048576 < t.a ∨ 1048576 < t.b ∨ 1048576 < t.c then 1
  else if (t.d ≤ 0 ∧ t.a ≠ 0) ∨ (t.d ≤ 1 ∧ t.b ≠ 0) ∨ (t.d ≤ 2 ∧ t.c ≠ 0) then 6
  else 0
theorem chk_depth {t : Tm} (h : t.d < 0 ∨ 3 < t.d) : chk t = 10 := by unfold chk; rw [if_pos h]
theorem chk_range {t : Tm} (h : ¬ (t.d < 0 ∨ 3 < t.d)) (k : 1048576 < t.e ∨ 1048576 < t.a ∨ 1048576 < t.b ∨ 1048576 < t.c) : chk t = 1 := by unfold chk; rw [if_neg h, if_pos k]
theorem chk_field {t : Tm} (h : ¬ (t.d < 0 ∨ 3 < t.d)) (k : ¬ (1048576 < t.e ∨ 1048576 < t.a ∨ 1048576 < t.b ∨ 1048576 < t.c))
    (z : (t.d ≤ 0 ∧ t.a ≠ 0) ∨ (t.d ≤ 1 ∧ t.b ≠ 0) ∨ (t.d ≤ 2 ∧ t.c ≠ 0)) : chk t = 6 := by unfold chk; rw [if_neg h, if_neg k, if_pos z]
theorem chk_ok {t : Tm} (h : ¬ (t.d < 0 ∨ 3 < t.d)) (k : ¬ (1048576 < t.e ∨ 1048576 < t.a ∨ 1048576 < t.b ∨ 1048576 < t.c))
    (z : ¬ ((t.d ≤ 0 ∧ t.a ≠ 0) ∨ (t.d ≤ 1 ∧ t.b ≠ 0) ∨ (t.d ≤ 2 ∧ t.c ≠ 0))) : chk t = 0 := by unfold chk; rw [if_neg h, if_neg k, if_neg z]
theorem chk_cases (t : Tm) : chk t = 0 ∨ chk t = 1 ∨ chk t = 6 ∨ chk t = 10 := by
  unfold chk
  split
  · simp
  · split
    · simp
    · split <;> simp
/-- Is a time not behind another one? -/
def leB (s t : Tm) : Bool := decide (s.d = t.d ∧ 0 ≤ s.d ∧ s.d ≤ 3 ∧ s.e ≤ t.e ∧ (1 ≤ s.d → s.a ≤ t.a) ∧ (2 ≤ s.d → s.b ≤ t.b) ∧ (3 ≤ s.d → s.c ≤ t.c))
theorem leB_yes {s t : Tm} (h : s.d = t.d ∧ 0 ≤ s.d ∧ s.d ≤ 3 ∧ s.e ≤ t.e ∧ (1 ≤ s.d → s.a ≤ t.a) ∧ (2 ≤ s.d → s.b ≤ t.b) ∧ (3 ≤ s.d → s.c ≤ t.c)) : leB s t = true := by unfold leB; exact decide_eq_true h
theorem leB_no {s t : Tm} (h : ¬ (s.d = t.d ∧ 0 ≤ s.d ∧ s.d ≤ 3 ∧ s.e ≤ t.e ∧ (1 ≤ s.d → s.a ≤ t.a) ∧ (2 ≤ s.d → s.b ≤ t.b) ∧ (3 ≤ s.d → s.c ≤ t.c))) : leB s t = false := by unfold leB; exact decide_eq_false h
theorem leB_iff {s t : Tm} : leB s t = true ↔ (s.d = t.d ∧ 0 ≤ s.d ∧ s.d ≤ 3 ∧ s.e ≤ t.e ∧ (1 ≤ s.d → s.a ≤ t.a) ∧ (2 ≤ s.d → s.b ≤ t.b) ∧ (3 ≤ s.d → s.c ≤ t.c)) := by unfold leB; exact decide_eq_true_iff
/-- What Compare answers of two numbers. -/
def cmpI (x y : Int) : Int := if x < y then -1 else if y < x then 1 else 0
/-- The first of two answers, if it is not nought, and else the second. -/
def orI (x y : Int) : Int := if x = 0 then y else x
/-- The total order of times. -/
def cmpT (s t : Tm) : Int := orI (cmpI s.d t.d) (orI (cmpI s.e t.e) (orI (cmpI s.a t.a) (orI (cmpI s.b t.b) (cmpI s.c t.c))))
theorem cmpI_self (x : Int) : cmpI x x = 0 := by simp [cmpI]
theorem cmpI_ne {x y : Int} (h : x ≠ y) : cmpI x y ≠ 0 := by
  unfold cmpI
  split
  · omega
  · split
    · omega
    · omega
theorem cmpI_lt {x y : Int} (h : x < y) : cmpI x y = -1 := by simp [cmpI, h]
theorem cmpI_gt {x y : Int} (h : y < x) : cmpI x y = 1 := by
  have : ¬ x < y := by omega
  simp [cmpI, h, this]
theorem cmpT_self (t : Tm) : cmpT t t = 0 := by simp [cmpT, cmpI_self, orI]
/-- Are two times one? -/
def eqT (s t : Tm) : Bool := decide (s = t)
theorem eqT_self (t : Tm) : eqT t t = true := by simp [eqT]
theorem eqT_iff {s t : Tm} : eqT s t = true ↔ s = t := by simp [eqT]
theorem eqT_no {s t : Tm} (h : s ≠ t) : eqT s t = false := by simp [eqT, h]
def T0 : Tm := ⟨0, 0, 0, 0, 0⟩
/-- What is asked of one that is within a loop. -/
def inn (t : Tm) : Int := if chk t = 0 then (if t.d = 0 then 10 else 0) else chk t
/-- What is asked of two. -/
def both (s t : Tm) : Int := if chk s = 0 then (if chk t = 0 then (if s.d = t.d then 0 else 10) else chk t) else chk s
def zeroV (d : Int) : Tm := if d < 0 ∨ 3 < d then T0 else ⟨0, d, 0, 0, 0⟩
def zeroE (d : Int) : Int := if d < 0 ∨ 3 < d then 10 else 0
def enterV (t : Tm) : Tm := if chk t = 0 then (if t.d = 3 then T0 else ⟨t.e, t.d + 1, t.a, t.b, t.c⟩) else T0
def enterE (t : Tm) : Int := if chk t = 0 then (if t.d = 3 then 10 else 0) else chk t
def dropT (t : Tm) : Tm := ⟨t.e, t.d - 1, if t.d = 1 then 0 else t.a, if t.d = 2 then 0 else t.b, if t.d = 3 then 0 else t.c⟩
def leaveV (t : Tm) : Tm := if inn t = 0 then dropT t else T0
def lastT (t : Tm) : Int := if t.d = 1 then t.a else if t.d = 2 then t.b else t.c
def bumpT (t : Tm) : Tm := ⟨t.e, t.d, if t.d = 1 then t.a + 1 else t.a, if t.d = 2 then t.b + 1 else t.b, if t.d = 3 then t.c + 1 else t.c⟩
def nextV (t : Tm) : Tm := if inn t = 0 then (if lastT t = 1048576 then T0 else bumpT t) else T0
def nextE (t : Tm) : Int := if inn t = 0 then (if lastT t = 1048576 then 9 else 0) else inn t
def laterV (t : Tm) (n : Int) : Tm := if chk t = 0 then (if 1048576 < n then T0 else if 1048576 < t.e + n then T0 else ⟨t.e + n, t.d, t.a, t.b, t.c⟩) else T0
def laterE (t : Tm) (n : Int) : Int := if chk t = 0 then (if 1048576 < n then 1 else if 1048576 < t.e + n then 9 else 0) else chk t
def maxI (x y : Int) : Int := if y > x then y else x
def minI (x y : Int) : Int := if y < x then y else x
def joinV (s t : Tm) : Tm := if both s t = 0 then ⟨maxI s.e t.e, s.d, maxI s.a t.a, maxI s.b t.b, maxI s.c t.c⟩ else T0
def meetV (s t : Tm) : Tm := if both s t = 0 then ⟨minI s.e t.e, s.d, minI s.a t.a, minI s.b t.b, minI s.c t.c⟩ else T0

/-- A time is one, if nothing is wrong with it. -/
theorem chk_zero {t : Tm} (h : chk t = 0) : 0 ≤ t.d ∧ t.d ≤ 3 ∧ t.e ≤ 1048576 ∧ t.a ≤ 1048576 ∧ t.b ≤ 1048576 ∧ t.c ≤ 1048576 ∧ (t.d ≤ 0 → t.a = 0) ∧ (t.d ≤ 1 → t.b = 0) ∧ (t.d ≤ 2 → t.c = 0) := by
  unfold chk at h
  split at h
  · omega
  · split at h
    · omega
    · split at h
      · omega
      · omega
theorem inn_zero {t : Tm} (h : inn t = 0) : chk t = 0 ∧ t.d ≠ 0 := by
  unfold inn at h
  split at h
  · split at h
    · omega
    · exact ⟨by assumption, by assumption⟩
  · omega
theorem both_zero {s t : Tm} (h : both s t = 0) : chk s = 0 ∧ chk t = 0 ∧ s.d = t.d := by
  unfold both at h
  split at h
  · split at h
    · split at h
      · exact ⟨by assumption, by assumption, by assumption⟩
      · omega
    · omega
  · omega
end Go.Proofs.YtkfjgmfokpgcbaaGreatDoor.tm
namespace Go.Proofs.YtkfjgmfokpgcbaaGreatDoor.data
open Go.Proofs.YtkfjgmfokpgcbaaGreatDoor.tm

abbrev I64 (n : Int) : Prop := -9223372036854775808 ≤ n ∧ n ≤ 9223372036854775807
structure Rc where
  k : Int
  v : Int
deriving DecidableEq
abbrev Rc.In (r : Rc) : Prop := I64 r.k ∧ I64 r.v
abbrev InR (L : List Rc) : Prop := ∀ r ∈ L, r.In
theorem inR_take {L : List Rc} (h : InR L) (n : Nat) : InR (L.take n) := fun r hr => h r (List.mem_of_mem_take hr)
theorem inR_get {L : List Rc} (h : InR L) {n : Nat} {r : Rc} (hr : L[n]? = some r) : r.In := h r (List.mem_of_getElem? hr)
/-! ### Their order -/
def ltR (a b : Rc) : Bool := decide (a.k < b.k ∨ a.k = b.k ∧ a.v < b.v)
def leR (a b : Rc) : Bool := !ltR b a
def cmpR (a b : Rc) : Int := orI (cmpI a.k b.k) (cmpI a.v b.v)
theorem leR_iff {a b : Rc} : leR a b = true ↔ a.k < b.k ∨ a.k = b.k ∧ a.v ≤ b.v := by
  unfold leR ltR
  simp
  omega
theorem ltR_iff {a b : Rc} : ltR a b = true ↔ a.k < b.k ∨ a.k = b.k ∧ a.v < b.v := by simp [ltR]
theorem ltR_not {a b : Rc} : ltR a b = false ↔ leR b a = true := by simp [leR]
theorem leR_trans {a b c : Rc} (h : leR a b = true) (k : leR b c = true) : leR a c = true := by
  rw [leR_iff] at *
  omega
theorem leR_total (a b : Rc) : (leR a b || leR b a) = true := by
  rw [Bool.or_eq_true, leR_iff, leR_iff]
  omega
theorem leR_anti {a b : Rc} (h : leR a b = true) (k : leR b a = true) : a = b := by
  rw [leR_iff] at *
  obtain ⟨x, y⟩ := a
  obtain ⟨z, u⟩ := b
  simp at h k ⊢
  omega
theorem cmpR_lt {a b : Rc} : cmpR a b < 0 ↔ ltR a b = true := by
  rw [ltR_iff]
  unfold cmpR orI cmpI
  repeat' split
  all_goals omega
/-- A list in order. -/
def srtR (L : List Rc) : List Rc := L.mergeSort leR
abbrev Srt (L : List Rc) : Prop := L.Pairwise fun a b => leR a b = true
theorem srt_perm (L : List Rc) : (srtR L).Perm L := List.mergeSort_perm _ _
theorem srt_len (L : List Rc) : (srtR L).length = L.length := (srt_perm L).length_eq
theorem srt_srt (L : List Rc) : Srt (srtR L) := List.pairwise_mergeSort (le := leR) (fun _ _ _ h k => leR_trans h k) leR_total L
theorem srt_uniq {N L : List Rc} (hp : N.Perm L) (hs : Srt N) : N = srtR L :=
  List.Perm.eq_of_pairwise (fun _ _ _ _ h k => leR_anti h k) hs (srt_srt L) (hp.trans (srt_perm L).symm)
theorem srt_congr {N L : List Rc} (hp : N.Perm L) : srtR N = srtR L := srt_uniq ((srt_perm N).trans hp) (srt_srt N)
theorem srt_idem (L : List Rc) : srtR (srtR L) = srtR L := srt_congr (srt_perm L)
theorem srt_in {L : List Rc} (h : InR L) : InR (srtR L) := fun r hr => h r ((srt_perm L).mem_iff.1 hr)
theorem srt_nil : srtR [] = [] := by simp [srtR]
/-- One more, put in its place. -/
theorem put_srt {N : List Rc} {x : Rc} {n : Nat} (hs : Srt N) (hn : n ≤ N.length) (h1 : ∀ j y, n ≤ j → N[j]? = some y → ltR x y = true) (h2 : ∀ y, n ≠ 0 → N[n - 1]? = some y → ltR x y = false) :
    Srt (N.take n ++ x :: N.drop n) ∧ (N.take n ++ x :: N.drop n).Perm (N ++ [x]) := by
  have hlast : ∀ y ∈ N.take n, leR y x = true := by
    intro y hy
    obtain ⟨j, hj⟩ := List.getElem?_of_mem hy
    rw [List.getElem?_take] at hj
    split at hj
    · rename_i hjn
      have hz : N[n - 1]? = some (N[n - 1]'(by omega)) := List.getElem?_eq_getElem (by omega)
      have hx := ltR_not.1 (h2 _ (by omega) hz)
      by_cases e : j = n - 1
      · rw [e, hz] at hj
        rw [← Option.some.inj hj]
        exact hx
      · obtain ⟨hj1, hj2⟩ := List.getElem?_eq_some_iff.1 hj
        have := List.pairwise_iff_getElem.1 hs j (n - 1) hj1 (by omega) (by omega)
        rw [hj2] at this
        exact leR_trans this hx
    · cases hj
  have hfst : ∀ y ∈ N.drop n, leR x y = true := by
    intro y hy
    obtain ⟨j, hj⟩ := List.getElem?_of_mem hy
    rw [List.getElem?_drop] at hj
    have := h1 (n + j) y (by omega) hj
    rw [ltR_iff] at this
    rw [leR_iff]
    omega
  constructor
  · rw [Srt, List.pairwise_append]
    refine ⟨hs.sublist (List.take_sublist _ _), List.pairwise_cons.2 ⟨hfst, hs.sublist (List.drop_sublist _ _)⟩, fun a ha b hb => ?_⟩
    rcases List.mem_cons.1 hb with rfl | hb
    · exact hlast a ha
    · exact leR_trans (hlast a ha) (hfst b hb)
  · have h3 : (N.take n ++ x :: N.drop n).Perm (x :: (N.take n ++ N.drop n)) := List.perm_middle
    rw [List.take_append_drop] at h3
    exact h3.trans (List.perm_append_comm (l₁ := [x]) (l₂ := N))
theorem take_next {α : Type} {L : List α} {i : Nat} {x : α} (h : L[i]? = some x) : L.take (i + 1) = L.take i ++ [x] := by
  rw [List.take_add_one, h]
  rfl
theorem drop_next {α : Type} {L : List α} {i : Nat} {x : α} (h : L[i]? = some x) : L.drop i = x :: L.drop (i + 1) := by
  obtain ⟨hi, rfl⟩ := List.getElem?_eq_some_iff.1 h
  exact List.drop_eq_getElem_cons hi
theorem get_ltR {α : Type} {L : List α} {i : Nat} (h : i < L.length) : ∃ x, L[i]? = some x ∧ x ∈ L := ⟨L[i], List.getElem?_eq_getElem h, List.getElem_mem h⟩
/-! ### Parts -/
/-- The list by parts: so many, each with what goes to it. -/
def spr (p : Rc → Nat) (n : Nat) (L : List Rc) : List (List Rc) := (List.range n).map fun i => L.filter fun r => p r == i
theorem spr_len (p : Rc → Nat) (n : Nat) (L : List Rc) : (spr p n L).length = n := by simp [spr]
theorem spr_get {p : Rc → Nat} {n : Nat} {L : List Rc} {i : Nat} (h : i < n) : (spr p n L)[i]? = some (L.filter fun r => p r == i) := by
  simp [spr, h]
theorem spr_nil (p : Rc → Nat) (n : Nat) : spr p n [] = List.replicate n [] := by
  apply List.ext_getElem?
  intro i
  by_cases h : i < n
  · rw [spr_get h]; simp [h]
  · rw [List.getElem?_eq_none (by rw [spr_len]; omega), List.getElem?_eq_none (by simp; omega)]
theorem spr_next {p : Rc → Nat} {n : Nat} {L : List Rc} {x : Rc} {N : List Rc} (hN : (spr p n L)[p x]? = some N) : spr p n (L ++ [x]) = (spr p n L).set (p x) (N ++ [x]) := by
  have hp : p x < n := by
    have := (List.getElem?_eq_some_iff.1 hN).1
    rwa [spr_len] at this
  rw [spr_get hp] at hN
  apply List.ext_getElem?
  intro i
  by_cases h : i < n
  · rw [spr_get h, List.getElem?_set, List.filter_append]
    by_cases e : p x = i
    · subst e
      rw [if_pos rfl, spr_len, if_pos hp, ← Option.some.inj hN]
      simp
    · rw [if_neg e, spr_get h]
      simp [e]
  · rw [List.getElem?_eq_none (by rw [spr_len]; omega), List.getElem?_eq_none (by rw [List.length_set, spr_len]; omega)]
/-- All parts, one behind the other, are the list in another order. -/
theorem flat_filter_nil {α β : Type} (l : List α) : (l.flatMap fun _ => ([] : List β)) = [] := by
  induction l with
  | nil => rfl
  | cons a l ih => simp
theorem spr_perm {p : Rc → Nat} {n : Nat} : ∀ {L : List Rc}, (∀ r ∈ L, p r < n) → (spr p n L).flatten.Perm L := by
  intro L h
  induction L with
  | nil => rw [spr_nil]; simp
  | cons x L ih =>
    have ih := ih fun r hr => h r (by simp [hr])
    have hx := h x (by simp)
    have key : ∀ (m : Nat), ((List.range m).map fun i => (x :: L).filter fun r => p r == i).flatten.Perm ((if p x < m then [x] else []) ++ ((List.range m).map fun i => L.filter fun r => p r == i).flatten) := by
      intro m
      induction m with
      | zero => simp
      | succ m im =>
        rw [List.range_succ, List.map_append, List.map_append, List.flatten_append, List.flatten_append]
        simp only [List.map_cons, List.map_nil, List.flatten_cons, List.flatten_nil, List.append_nil]
        refine (im.append_right _).trans ?_
        by_cases e : p x = m
        · have e1 : (p x == m) = true := by simpa using e
          rw [if_neg (by omega), if_pos (by omega), List.filter_cons, if_pos e1]
          simp only [List.nil_append, List.singleton_append]
          exact List.perm_middle
        · have e1 : ¬ (p x == m) = true := by simpa using e
          rw [List.filter_cons, if_neg e1]
          by_cases e2 : p x < m
          · rw [if_pos e2, if_pos (by omega)]
            simp
          · rw [if_neg e2, if_neg (by omega)]
            simp
    have := key n
    rw [if_pos hx] at this
    exact this.trans (List.Perm.cons x ih)
/-! ### Pieces -/
/-- A list in pieces of 64. -/
def pcs {α : Type} (L : List α) : List (List α) := (List.range ((L.length + 63) / 64)).map fun k => (L.drop (64 * k)).take 64
theorem pcs_len {α : Type} (L : List α) : (pcs L).length = (L.length + 63) / 64 := by simp [pcs]
theorem pcs_get {α : Type} {L : List α} {k : Nat} (h : k < (L.length + 63) / 64) : (pcs L)[k]? = some ((L.drop (64 * k)).take 64) := by simp [pcs, h]
theorem pcs_nil {α : Type} : pcs ([] : List α) = [] := by simp [pcs]
theorem pcs_full {α : Type} {L : List α} {x : α} (h : L.length % 64 = 0) : pcs (L ++ [x]) = pcs L ++ [[x]] := by
  apply List.ext_getElem?
  intro k
  have h1 : (pcs L).length = L.length / 64 := by rw [pcs_len]; omega
  have h2 : ((L ++ [x]).length + 63) / 64 = L.length / 64 + 1 := by simp; omega
  rcases Nat.lt_trichotomy k (L.length / 64) with hk | hk | hk
  · rw [List.getElem?_append_left (by omega), pcs_get (by omega), pcs_get (by omega), List.drop_append_of_le_length (by omega), List.take_append_of_le_length (by simp; omega)]
  · subst hk
    rw [List.getElem?_append_right (by omega), h1, pcs_get (by omega), show 64 * (L.length / 64) = L.length by omega]
    simp
  · rw [List.getElem?_eq_none (by rw [pcs_len]; omega), List.getElem?_eq_none (by simp; omega)]
theorem pcs_more {α : Type} {L : List α} {x : α} {N : List α} (h : L.length % 64 ≠ 0) (hN : (pcs L)[(pcs L).length - 1]? = some N) : pcs (L ++ [x]) = (pcs L).set ((pcs L).length - 1) (N ++ [x]) := by
  have h1 : (pcs L).length = L.length / 64 + 1 := by rw [pcs_len]; omega
  have h2 : ((L ++ [x]).length + 63) / 64 = L.length / 64 + 1 := by simp; omega
  rw [h1, Nat.add_sub_cancel] at hN ⊢
  rw [pcs_get (by omega)] at hN
  apply List.ext_getElem?
  intro k
  rw [List.getElem?_set]
  rcases Nat.lt_trichotomy k (L.length / 64) with hk | hk | hk
  · rw [if_neg (by omega), pcs_get (by omega), pcs_get (by omega), List.drop_append_of_le_length (by omega), List.take_append_of_le_length (by simp; omega)]
  · subst hk
    rw [if_pos rfl, if_pos (by omega), pcs_get (by omega), ← Option.some.inj hN, List.drop_append_of_le_length (by omega)]
    have h3 : (L.drop (64 * (L.length / 64))).length < 64 := by simp; omega
    rw [List.take_of_length_le (by simp at h3 ⊢; omega), List.take_of_length_le (by omega)]
  · rw [if_neg (by omega), List.getElem?_eq_none (by rw [pcs_len]; omega), List.getElem?_eq_none (by omega)]
theorem pcs_flat {α : Type} (L : List α) : ∀ k, k ≤ (pcs L).length → ((pcs L).take k).flatten = L.take (64 * k)
  | 0, _ => by simp
  | k + 1, h => by
    rw [pcs_len] at h
    rw [take_next (pcs_get (by omega)), List.flatten_append, pcs_flat L k (by rw [pcs_len]; omega)]
    simp only [List.flatten_cons, List.flatten_nil, List.append_nil]
    rw [show 64 * (k + 1) = 64 * k + 64 by omega, List.take_add]
theorem pcs_all {α : Type} (L : List α) : (pcs L).flatten = L := by
  have := pcs_flat L (pcs L).length (Nat.le_refl _)
  rw [List.take_length] at this
  rw [this, List.take_of_length_le]
  rw [pcs_len]; omega
theorem pcs_sizes {α : Type} {L : List α} {k : Nat} {N : List α} (h : (pcs L)[k]? = some N) : 1 ≤ N.length ∧ N.length ≤ 64 ∧ (k + 1 < (pcs L).length → N.length = 64) := by
  have hk := (List.getElem?_eq_some_iff.1 h).1
  rw [pcs_len] at hk ⊢
  rw [pcs_get hk] at h
  rw [← Option.some.inj h]
  simp
  omega
end Go.Proofs.YtkfjgmfokpgcbaaGreatDoor.data
