/-
  Mathematics of frontiers: what they hold, how they stand.
-/
import Derived.Test.YtmepiogoofmbbaaFr
namespace Go.Proofs.Ytmepiogoofmbbaa.chain
open Go.Lib Go.Sort
open Go.Proofs.Ytmepiogoofmbbaa.tm Go.Proofs.Ytmepiogoofmbbaa.stamp

/-- A frontier: times of one depth, in order, none ahead of another one. -/
structure Front (L : List Tm) : Prop where
  ok : ∀ x ∈ L, Ok x
  deep : ∀ x ∈ L, x.d = (L.headD T0).d
  inc : L.Pairwise Lo
  anti : ∀ x ∈ L, ∀ y ∈ L, y ≠ x → leB y x = false
  few : L.length ≤ 64
theorem holds_iff {L : List Tm} {t : Tm} : holdsB L t = true ↔ ∃ x ∈ L, leB x t = true := by
  unfold holdsB
  rw [List.any_eq_true]
theorem leL_iff {L M : List Tm} : leL L M = true ↔ ∀ y ∈ M, holdsB L y = true := by
  unfold leL
  rw [List.all_eq_true]
theorem deep_iff {L : List Tm} : (∀ x ∈ L, x.d = (L.headD T0).d) ↔ ∀ x ∈ L, ∀ y ∈ L, x.d = y.d := by
  constructor
  · intro h x hx y hy
    rw [h x hx, h y hy]
  · intro h x hx
    cases L with
    | nil => simp at hx
    | cons a r => exact h x hx a (by simp)
/-- What Make answers, where nothing is wrong. -/
theorem make_zero {L : List Tm} {h : InL L} (e : makeE L h = 0) : makeV L h = refF L L.length ∧ Front (makeV L h) ∧ (∀ x ∈ L, chk x = 0) ∧ (∀ x ∈ L, ∀ y ∈ L, x.d = y.d) ∧ L.length ≤ 4096 := by
  obtain ⟨r1, r2⟩ := ref_make L h
  have e2 : refE L = 0 := by rw [r1, e]
  have hv : makeV L h = refF L L.length := by rw [← r2]; unfold refV; rw [if_pos e2]
  unfold refE at e2
  split at e2
  · omega
  · rename_i hl
    split at e2
    · rename_i q; exact absurd e2 q
    · rename_i q
      have ht : timesE L = 0 := by simpa using q
      split at e2
      · omega
      · rename_i hs
        obtain ⟨hc, hd⟩ := times_zero ht
        have hd := deep_iff.1 hd
        have hm : ∀ x ∈ refF L L.length, x ∈ L := fun x hx => ((refF_set L x).1 hx).1
        refine ⟨hv, ?_, hc, hd, by omega⟩
        rw [hv]
        exact ⟨fun x hx => ⟨h x (hm x hx), hc x (hm x hx)⟩, deep_iff.2 (fun x hx y hy => hd x (hm x hx) y (hm y hy)), refF_sorted h _, fun x hx y hy n => ((refF_set L x).1 hx).2 y (hm y hy) n, by omega⟩
theorem least_at : ∀ (L : List Tm) (x : Tm), (∃ y ∈ L, leB y x = true) → ∃ m ∈ L, leB m x = true ∧ ∀ y ∈ L, leB y x = true → numT m ≤ numT y
  | [], x, ⟨y, hy, _⟩ => by simp at hy
  | a :: r, x, h => by
    by_cases hr : ∃ y ∈ r, leB y x = true
    · obtain ⟨m, hm, h1, h2⟩ := least_at r x hr
      by_cases ha : leB a x = true ∧ numT a ≤ numT m
      · refine ⟨a, by simp, ha.1, fun y hy hl => ?_⟩
        rcases List.mem_cons.1 hy with rfl | u
        · exact Int.le_refl _
        · have := h2 y u hl; omega
      · refine ⟨m, List.mem_cons_of_mem _ hm, h1, fun y hy hl => ?_⟩
        rcases List.mem_cons.1 hy with rfl | u
        · by_cases q : numT y ≤ numT m
          · exact absurd ⟨hl, q⟩ ha
          · omega
        · exact h2 y u hl
    · obtain ⟨y, hy, hl⟩ := h
      rcases List.mem_cons.1 hy with rfl | u
      · refine ⟨y, by simp, hl, fun z hz hz2 => ?_⟩
        rcases List.mem_cons.1 hz with rfl | u
        · exact Int.le_refl _
        · exact absurd ⟨z, u, hz2⟩ hr
      · exact absurd ⟨y, u, hl⟩ hr
/-- The minimal ones hold what all of them hold. -/
theorem ref_holds (L : List Tm) (o : ∀ x ∈ L, Ok x) (t : Tm) : holdsB (refF L L.length) t = holdsB L t := by
  apply bool_ext
  rw [holds_iff, holds_iff]
  constructor
  · rintro ⟨x, hx, hl⟩; exact ⟨x, ((refF_set L x).1 hx).1, hl⟩
  · intro h
    obtain ⟨m, hm, h1, h2⟩ := least_at L t h
    refine ⟨m, (refF_set L m).2 ⟨hm, fun y hy n => ?_⟩, h1⟩
    cases hb : leB y m with
    | false => rfl
    | true =>
      have := h2 y hy (le_trans3 hb h1)
      have := le_lt (o y hy) (o m hm) hb n
      omega
theorem make_holds {L : List Tm} {h : InL L} (e : makeE L h = 0) (t : Tm) : holdsB (makeV L h) t = holdsB L t := by
  obtain ⟨hv, -, hc, -⟩ := make_zero e
  rw [hv]
  exact ref_holds L (fun x hx => ⟨h x hx, hc x hx⟩) t
theorem front_in {L : List Tm} (f : Front L) : InL L := fun x hx => (f.ok x hx).1
theorem front_ref {L : List Tm} (f : Front L) : refF L L.length = L := by
  refine ext_sorted (refF_sorted (front_in f) _) f.inc fun x => ?_
  rw [refF_set]
  constructor
  · exact fun u => u.1
  · intro hx
    exact ⟨hx, fun y hy n => f.anti x hx y hy n⟩
/-- Made again a frontier is as it was. -/
theorem make_front {L : List Tm} (f : Front L) (h : InL L) : makeE L h = 0 ∧ makeV L h = L := by
  obtain ⟨r1, r2⟩ := ref_make L h
  have ht : timesE L = 0 := times_ok (fun y hy => (f.ok y hy).2) f.deep
  have hf := f.few
  have e : refE L = 0 := by
    unfold refE
    rw [if_neg (by omega), if_neg (by simp [ht]), front_ref f, if_neg (by omega)]
  refine ⟨by rw [← r1, e], ?_⟩
  rw [← r2]
  unfold refV
  rw [if_pos e, front_ref f]
theorem check_front {L : List Tm} (f : Front L) (h : InL L) : checkE L h = 0 := by
  have hf := f.few
  obtain ⟨e, v⟩ := make_front f h
  unfold checkE
  rw [if_neg (by omega), if_neg (by simp [e]), if_pos v]
theorem front_check {L : List Tm} {h : InL L} (e : checkE L h = 0) : Front L := by
  unfold checkE at e
  split at e
  · omega
  · split at e
    · rename_i q; exact absurd e q
    · rename_i q
      split at e
      · rename_i v
        have hz : makeE L h = 0 := by simpa using q
        have := (make_zero hz).2.1
        rwa [v] at this
      · omega
theorem front_nil : Front [] := ⟨by simp, by simp, List.Pairwise.nil, by simp, by simp⟩
/-- No two of a frontier stand one ahead of the other. -/
theorem front_anti {L : List Tm} (f : Front L) {i k : Nat} {x y : Tm} (n : i ≠ k) (hi : L[i]? = some x) (hk : L[k]? = some y) : leB x y = false := by
  obtain ⟨i1, i2⟩ := List.getElem?_eq_some_iff.1 hi
  obtain ⟨k1, k2⟩ := List.getElem?_eq_some_iff.1 hk
  refine f.anti y (List.mem_of_getElem? hk) x (List.mem_of_getElem? hi) fun e => ?_
  rcases Nat.lt_or_gt_of_ne n with u | u
  · have : Lo L[i] L[k] := List.pairwise_iff_getElem.1 f.inc i k i1 k1 u
    rw [i2, k2, e] at this
    exact absurd this (Int.lt_irrefl _)
  · have : Lo L[k] L[i] := List.pairwise_iff_getElem.1 f.inc k i k1 i1 u
    rw [i2, k2, e] at this
    exact absurd this (Int.lt_irrefl _)
theorem leL_refl {L : List Tm} (f : Front L) : leL L L = true := leL_iff.2 fun y hy => holds_iff.2 ⟨y, hy, ok_refl (f.ok y hy)⟩
theorem leL_holds {L M : List Tm} {t : Tm} (h : leL L M = true) (k : holdsB M t = true) : holdsB L t = true := by
  obtain ⟨y, hy, hl⟩ := holds_iff.1 k
  obtain ⟨x, hx, hk⟩ := holds_iff.1 (leL_iff.1 h y hy)
  exact holds_iff.2 ⟨x, hx, le_trans3 hk hl⟩
theorem leL_trans {L M N : List Tm} (h : leL L M = true) (k : leL M N = true) : leL L N = true := leL_iff.2 fun z hz => leL_holds h (leL_iff.1 k z hz)
theorem leL_sub {L M : List Tm} (fL : Front L) (fM : Front M) (h : leL L M = true) (k : leL M L = true) : ∀ y ∈ M, y ∈ L := by
  intro y hy
  obtain ⟨x, hx, h1⟩ := holds_iff.1 (leL_iff.1 h y hy)
  obtain ⟨z, hz, h2⟩ := holds_iff.1 (leL_iff.1 k x hx)
  have h3 := le_trans3 h2 h1
  have e : z = y := Decidable.byContradiction fun n => by
    have := fM.anti y hy z hz n
    rw [h3] at this
    cases this
  subst e
  have p := le_num (fL.ok x hx) (fM.ok z hy) h1
  have q := le_num (fM.ok z hy) (fL.ok x hx) h2
  have : x = z := num_eq (fL.ok x hx).1 (fM.ok z hy).1 (by omega)
  rw [← this]; exact hx
theorem leL_anti {L M : List Tm} (fL : Front L) (fM : Front M) (h : leL L M = true) (k : leL M L = true) : L = M :=
  ext_sorted fL.inc fM.inc fun x => ⟨fun hx => leL_sub fM fL k h x hx, fun hx => leL_sub fL fM h k x hx⟩
/-- What is wrong with two frontiers. -/
def bothE (A B : List Tm) (iA : InL A) (iB : InL B) : Int := if checkE A iA ≠ 0 then checkE A iA else if checkE B iB ≠ 0 then checkE B iB else if A ≠ [] ∧ B ≠ [] ∧ (A.headD T0).d ≠ (B.headD T0).d then 10 else 0
theorem in_app {A B : List Tm} (iA : InL A) (iB : InL B) : InL (A ++ B) := fun x hx => (List.mem_append.1 hx).elim (iA x) (iB x)
def joins (A B : List Tm) : List Tm := A.flatMap fun a => B.map fun b => joinV a b
theorem max_in {x y p q : Int} (h1 : p ≤ x) (h2 : x ≤ q) (k1 : p ≤ y) (k2 : y ≤ q) : p ≤ maxI x y ∧ maxI x y ≤ q := by
  unfold maxI; split <;> omega
theorem join_In {a b : Tm} (ia : a.In) (ib : b.In) : (joinV a b).In := by
  unfold joinV
  split
  · obtain ⟨i0, i1, i8, i9, i2, i3, i4, i5, i6, i7⟩ := ia
    obtain ⟨j0, j1, -, -, j2, j3, j4, j5, j6, j7⟩ := ib
    exact ⟨(max_in i0 i1 j0 j1).1, (max_in i0 i1 j0 j1).2, i8, i9, (max_in i2 i3 j2 j3).1, (max_in i2 i3 j2 j3).2, (max_in i4 i5 j4 j5).1, (max_in i4 i5 j4 j5).2, (max_in i6 i7 j6 j7).1, (max_in i6 i7 j6 j7).2⟩
  · constructor <;> decide
theorem in_joins {A B : List Tm} (iA : InL A) (iB : InL B) : InL (joins A B) := by
  intro x hx
  obtain ⟨a, ha, hx⟩ := List.mem_flatMap.1 hx
  obtain ⟨b, hb, rfl⟩ := List.mem_map.1 hx
  exact join_In (iA a ha) (iB b hb)
def meetLE (A B : List Tm) (iA : InL A) (iB : InL B) : Int := if bothE A B iA iB ≠ 0 then bothE A B iA iB else makeE (A ++ B) (in_app iA iB)
def meetLV (A B : List Tm) (iA : InL A) (iB : InL B) : List Tm := if bothE A B iA iB ≠ 0 then [] else makeV (A ++ B) (in_app iA iB)
def joinLE (A B : List Tm) (iA : InL A) (iB : InL B) : Int := if bothE A B iA iB ≠ 0 then bothE A B iA iB else makeE (joins A B) (in_joins iA iB)
def joinLV (A B : List Tm) (iA : InL A) (iB : InL B) : List Tm := if bothE A B iA iB ≠ 0 then [] else makeV (joins A B) (in_joins iA iB)
theorem both_ok {A B : List Tm} {iA : InL A} {iB : InL B} (h : bothE A B iA iB = 0) : Front A ∧ Front B ∧ ∀ a ∈ A, ∀ b ∈ B, both a b = 0 := by
  unfold bothE at h
  split at h
  · rename_i q; exact absurd h q
  · rename_i q1
    split at h
    · rename_i q; exact absurd h q
    · rename_i q2
      split at h
      · omega
      · rename_i q3
        have fA : Front A := front_check (h := iA) (by simpa using q1)
        have fB : Front B := front_check (h := iB) (by simpa using q2)
        refine ⟨fA, fB, fun a ha b hb => ?_⟩
        have d1 := fA.deep a ha
        have d2 := fB.deep b hb
        have dd : a.d = b.d := by
          rw [d1, d2]
          refine Decidable.byContradiction fun n => q3 ⟨?_, ?_, n⟩
          · rintro rfl; simp at ha
          · rintro rfl; simp at hb
        unfold both
        rw [if_pos (fA.ok a ha).2, if_pos (fB.ok b hb).2, if_pos dd]
theorem meet_le {A B : List Tm} {iA : InL A} {iB : InL B} (h : meetLE A B iA iB = 0) : bothE A B iA iB = 0 ∧ makeE (A ++ B) (in_app iA iB) = 0 ∧ meetLV A B iA iB = makeV (A ++ B) (in_app iA iB) := by
  unfold meetLE at h
  split at h
  · rename_i q; exact absurd h q
  · rename_i q
    have q0 : bothE A B iA iB = 0 := by simpa using q
    exact ⟨q0, h, by unfold meetLV; rw [if_neg q]⟩
theorem join_le {A B : List Tm} {iA : InL A} {iB : InL B} (h : joinLE A B iA iB = 0) : bothE A B iA iB = 0 ∧ makeE (joins A B) (in_joins iA iB) = 0 ∧ joinLV A B iA iB = makeV (joins A B) (in_joins iA iB) := by
  unfold joinLE at h
  split at h
  · rename_i q; exact absurd h q
  · rename_i q
    have q0 : bothE A B iA iB = 0 := by simpa using q
    exact ⟨q0, h, by unfold joinLV; rw [if_neg q]⟩
theorem meet_holds {A B : List Tm} {iA : InL A} {iB : InL B} (h : meetLE A B iA iB = 0) (t : Tm) : holdsB (meetLV A B iA iB) t = (holdsB A t || holdsB B t) := by
  obtain ⟨-, e, v⟩ := meet_le h
  rw [v, make_holds e]
  unfold holdsB
  rw [List.any_append]
theorem meet_low {A B : List Tm} {iA : InL A} {iB : InL B} (h : meetLE A B iA iB = 0) : leL (meetLV A B iA iB) A = true ∧ leL (meetLV A B iA iB) B = true := by
  obtain ⟨fA, fB, -⟩ := both_ok (meet_le h).1
  refine ⟨leL_iff.2 fun y hy => ?_, leL_iff.2 fun y hy => ?_⟩
  · rw [meet_holds h, holds_iff.2 ⟨y, hy, ok_refl (fA.ok y hy)⟩]; rfl
  · rw [meet_holds h, holds_iff.2 ⟨y, hy, ok_refl (fB.ok y hy)⟩]; simp
theorem joinV_le {a b t : Tm} (h : both a b = 0) : leB (joinV a b) t = (leB a t && leB b t) := by
  apply bool_ext
  rw [Bool.and_eq_true, leB_iff, leB_iff, leB_iff]
  obtain ⟨ca, cb, dd⟩ := both_zero h
  unfold joinV
  rw [if_pos h]
  obtain ⟨a1, a2, -⟩ := chk_zero ca
  obtain ⟨b1, b2, -⟩ := chk_zero cb
  have m : ∀ x y z : Int, maxI x y ≤ z ↔ x ≤ z ∧ y ≤ z := by
    intro x y z
    unfold maxI
    split <;> constructor <;> intro <;> omega
  simp only [m]
  constructor
  · rintro ⟨h1, h2, h3, h4, h5, h6, h7⟩
    exact ⟨⟨h1, h2, h3, h4.1, fun u => (h5 u).1, fun u => (h6 u).1, fun u => (h7 u).1⟩, by omega, by omega, by omega, h4.2, fun u => (h5 (by omega)).2, fun u => (h6 (by omega)).2, fun u => (h7 (by omega)).2⟩
  · rintro ⟨⟨h1, h2, h3, h4, h5, h6, h7⟩, k1, k2, k3, k4, k5, k6, k7⟩
    exact ⟨h1, h2, h3, ⟨h4, k4⟩, fun u => ⟨h5 u, k5 (by omega)⟩, fun u => ⟨h6 u, k6 (by omega)⟩, fun u => ⟨h7 u, k7 (by omega)⟩⟩
theorem join_holds {A B : List Tm} {iA : InL A} {iB : InL B} (h : joinLE A B iA iB = 0) (t : Tm) : holdsB (joinLV A B iA iB) t = (holdsB A t && holdsB B t) := by
  obtain ⟨q, e, v⟩ := join_le h
  obtain ⟨fA, fB, hb⟩ := both_ok q
  rw [v, make_holds e]
  apply bool_ext
  rw [Bool.and_eq_true, holds_iff, holds_iff, holds_iff]
  constructor
  · rintro ⟨x, hx, hl⟩
    obtain ⟨a, ha, hx⟩ := List.mem_flatMap.1 hx
    obtain ⟨b, hb2, rfl⟩ := List.mem_map.1 hx
    rw [joinV_le (hb a ha b hb2), Bool.and_eq_true] at hl
    exact ⟨⟨a, ha, hl.1⟩, b, hb2, hl.2⟩
  · rintro ⟨⟨a, ha, h1⟩, b, hb2, h2⟩
    exact ⟨joinV a b, List.mem_flatMap.2 ⟨a, ha, List.mem_map.2 ⟨b, hb2, rfl⟩⟩, by rw [joinV_le (hb a ha b hb2), h1, h2]; rfl⟩
theorem join_high {A B : List Tm} {iA : InL A} {iB : InL B} (h : joinLE A B iA iB = 0) : leL A (joinLV A B iA iB) = true ∧ leL B (joinLV A B iA iB) = true := by
  obtain ⟨q, e, v⟩ := join_le h
  obtain ⟨-, f, -⟩ := make_zero e
  rw [← v] at f
  have k : ∀ y ∈ joinLV A B iA iB, holdsB A y = true ∧ holdsB B y = true := by
    intro y hy
    have := join_holds h y
    rw [holds_iff.2 ⟨y, hy, ok_refl (f.ok y hy)⟩] at this
    exact Bool.and_eq_true_iff.1 this.symm
  exact ⟨leL_iff.2 fun y hy => (k y hy).1, leL_iff.2 fun y hy => (k y hy).2⟩
end Go.Proofs.Ytmepiogoofmbbaa.chain
