/-
  Mathematics of frontiers: the minimal ones of a sorted list are what the document's insertion makes.
  Mathematics of frontiers: what they hold, how they stand.
-/
import Derived.Test.YtomekndinopoaaaJNm
import Derived.Test.YtomekndinopoaaaJLeC
namespace Go.Proofs.Ytomekndinopoaaa.chain
open Go.Lib Go.Sort
open Go.Proofs.Ytomekndinopoaaa.tm Go.Proofs.Ytomekndinopoaaa.stamp

/-- The minimal ones, all of them. -/
def minA (S K : List Tm) : List Tm := S.foldl keep K
theorem keep_grow (K : List Tm) (t : Tm) : K.length ≤ (keep K t).length := by
  unfold keep
  split
  · omega
  · simp
theorem minA_grow : ∀ S K : List Tm, K.length ≤ (minA S K).length
  | [], _ => Nat.le_refl _
  | t :: r, K => Nat.le_trans (keep_grow K t) (minA_grow r (keep K t))
theorem minF_minA : ∀ S K : List Tm, K.length ≤ 64 → if 64 < (minA S K).length then 64 < (minF S K).length else minF S K = minA S K
  | [], K, h => by
    rw [if_neg (show ¬ 64 < (minA [] K).length by show ¬ 64 < K.length; omega)]
    rfl
  | t :: r, K, h => by
    show if 64 < (minA r (keep K t)).length then _ else _ = minA r (keep K t)
    unfold minF
    by_cases e : 64 < (keep K t).length
    · rw [if_pos (Nat.lt_of_lt_of_le e (minA_grow _ _)), if_pos e]
      exact e
    · rw [if_neg e]
      exact minF_minA r (keep K t) (by omega)
theorem minA_set : ∀ (S K : List Tm), (∀ x ∈ S, Ok x) → (∀ x ∈ K, Ok x) → S.Pairwise (fun x y => numT x ≤ numT y) → K.Pairwise Lo → (∀ k ∈ K, ∀ s ∈ S, numT k ≤ numT s) →
    (minA S K).Pairwise Lo ∧ ∀ x, x ∈ minA S K ↔ x ∈ K ∨ (x ∈ S ∧ (∀ k ∈ K, leB k x = false) ∧ ∀ y ∈ S, y ≠ x → leB y x = false)
  | [], _, _, _, _, hK, _ => ⟨hK, fun x => by simp [minA]⟩
  | t :: r, K, oS, oK, hS, hK, hh => by
    obtain ⟨s1, s2⟩ := List.pairwise_cons.1 hS
    have ot := oS t (by simp)
    have oR : ∀ x ∈ r, Ok x := fun x hx => oS x (List.mem_cons_of_mem _ hx)
    show (minA r (keep K t)).Pairwise Lo ∧ ∀ x, x ∈ minA r (keep K t) ↔ _
    by_cases h : K.any (fun k => leB k t) = true
    · have e : keep K t = K := by unfold keep; rw [if_pos h]
      rw [e]
      obtain ⟨g1, g2⟩ := minA_set r K oR oK s2 hK (fun k hk s hs => hh k hk s (List.mem_cons_of_mem _ hs))
      refine ⟨g1, fun x => ?_⟩
      rw [g2]
      obtain ⟨k0, hk0, hl⟩ := List.any_eq_true.1 h
      constructor
      · rintro (u | ⟨u, v, z⟩)
        · exact .inl u
        · refine .inr ⟨List.mem_cons_of_mem _ u, v, fun y hy n => ?_⟩
          rcases List.mem_cons.1 hy with rfl | hy
          · cases hb : leB y x with
            | false => rfl
            | true => have := v k0 hk0; rw [le_trans3 hl hb] at this; cases this
          · exact z y hy n
      · rintro (u | ⟨u, v, z⟩)
        · exact .inl u
        · rcases List.mem_cons.1 u with rfl | u
          · have := v k0 hk0; rw [hl] at this; cases this
          · exact .inr ⟨u, v, fun y hy n => z y (List.mem_cons_of_mem _ hy) n⟩
    · have e : keep K t = K ++ [t] := by unfold keep; rw [if_neg h]
      have hn : ∀ k ∈ K, leB k t = false := by
        intro k hk
        cases hb : leB k t with
        | false => rfl
        | true => exact absurd (List.any_eq_true.2 ⟨k, hk, hb⟩) h
      rw [e]
      have lo : ∀ k ∈ K, numT k < numT t := by
        intro k hk
        rcases Int.lt_or_eq_of_le (hh k hk t (by simp)) with u | u
        · exact u
        · have := num_eq (oK k hk).1 ot.1 u
          have g := hn k hk
          rw [this, ok_refl ot] at g
          cases g
      obtain ⟨g1, g2⟩ := minA_set r (K ++ [t]) oR (by
          intro x hx
          rcases List.mem_append.1 hx with u | u
          · exact oK x u
          · simp at u; rw [u]; exact ot) s2 (by
          rw [List.pairwise_append]
          exact ⟨hK, List.pairwise_singleton _ _, fun k hk y hy => by simp at hy; rw [hy]; exact lo k hk⟩) (by
          intro k hk s hs
          rcases List.mem_append.1 hk with u | u
          · exact hh k u s (List.mem_cons_of_mem _ hs)
          · simp at u; rw [u]; exact s1 s hs)
      refine ⟨g1, fun x => ?_⟩
      rw [g2]
      constructor
      · rintro (u | ⟨u, v, z⟩)
        · rcases List.mem_append.1 u with u | u
          · exact .inl u
          · simp at u
            subst u
            refine .inr ⟨by simp, hn, fun y hy n => ?_⟩
            rcases List.mem_cons.1 hy with rfl | hy
            · exact absurd rfl n
            · cases hb : leB y x with
              | false => rfl
              | true =>
                have p := le_lt (oR y hy) ot hb n
                have q := s1 y hy
                omega
        · refine .inr ⟨List.mem_cons_of_mem _ u, fun k hk => v k (List.mem_append_left _ hk), fun y hy n => ?_⟩
          rcases List.mem_cons.1 hy with rfl | hy
          · exact v y (by simp)
          · exact z y hy n
      · rintro (u | ⟨u, v, z⟩)
        · exact .inl (List.mem_append_left _ u)
        · by_cases n : x = t
          · exact .inl (by simp [n])
          · rcases List.mem_cons.1 u with u | u
            · exact absurd u n
            · refine .inr ⟨u, fun k hk => ?_, fun y hy m => z y (List.mem_cons_of_mem _ hy) m⟩
              rcases List.mem_append.1 hk with w | w
              · exact v k w
              · simp at w; rw [w]; exact z t (by simp) (fun e => n e.symm)
theorem srt_mem (L : List Tm) (h : InL L) (x : Tm) : x ∈ srtL L h ↔ x ∈ L := by
  unfold srtL srt
  rw [List.mem_map]
  constructor
  · rintro ⟨y, hy, rfl⟩
    rw [(List.mergeSort_perm _ _).mem_iff] at hy
    have : y.1 ∈ (tis L h).map (·.1) := List.mem_map_of_mem hy
    rwa [tis_val] at this
  · intro hx
    have : x ∈ (tis L h).map (·.1) := by rwa [tis_val]
    obtain ⟨y, hy, e⟩ := List.mem_map.1 this
    exact ⟨y, by rwa [(List.mergeSort_perm _ _).mem_iff], e⟩
theorem srt_sorted (L : List Tm) (h : InL L) : (srtL L h).Pairwise (fun x y => numT x ≤ numT y) := by
  unfold srtL srt
  rw [List.pairwise_map]
  have := List.pairwise_mergeSort (le := fun x y : TI => !ltOf cfT y x) (by
    intro a b c h1 h2
    simp only [lt_num] at *
    simp at *
    omega) (by
    intro a b
    simp only [lt_num]
    simp
    omega) (tis L h)
  refine this.imp ?_
  intro a b hab
  rw [lt_num] at hab
  simp at hab
  exact hab
/-- The sorted minimal ones are what the document's loop makes. -/
theorem min_ref (L : List Tm) (h : InL L) (hc : ∀ y ∈ L, chk y = 0) : minA (srtL L h) [] = refF L L.length := by
  have o : ∀ x ∈ srtL L h, Ok x := fun x hx => by
    have := (srt_mem L h x).1 hx
    exact ⟨h x this, hc x this⟩
  obtain ⟨g1, g2⟩ := minA_set (srtL L h) [] o (by simp) (srt_sorted L h) List.Pairwise.nil (by simp)
  refine ext_sorted g1 (refF_sorted h _) fun x => ?_
  rw [g2, refF_set, srt_mem]
  simp only [List.not_mem_nil, false_or]
  constructor
  · rintro ⟨u, -, v⟩; exact ⟨u, fun y hy n => v y ((srt_mem L h y).2 hy) n⟩
  · rintro ⟨u, v⟩; exact ⟨u, by simp, fun y hy n => v y ((srt_mem L h y).1 hy) n⟩
theorem ref_make (L : List Tm) (h : InL L) : refE L = makeE L h ∧ refV L = makeV L h := by
  have key : timesE L = 0 → (if 64 < (refF L L.length).length then 64 < (makeS L h).length else makeS L h = refF L L.length) := by
    intro ht
    have := minF_minA (srtL L h) [] (by simp)
    rwa [min_ref L h (times_zero ht).1] at this
  have e : refE L = makeE L h := by
    unfold refE makeE
    by_cases hl : 4096 < L.length
    · rw [if_pos hl, if_pos hl]
    · rw [if_neg hl, if_neg hl]
      by_cases ht : timesE L = 0
      · have hn : ¬ timesE L ≠ 0 := fun q => q ht
        rw [if_neg hn, if_neg hn]
        have k := key ht
        by_cases hs : 64 < (refF L L.length).length
        · rw [if_pos hs] at k
          rw [if_pos hs, if_pos k]
        · rw [if_neg hs] at k
          rw [k]
      · rw [if_pos ht, if_pos ht]
  refine ⟨e, ?_⟩
  unfold refV makeV
  rw [e]
  by_cases z : makeE L h = 0
  · rw [if_pos z, if_pos z]
    have : ¬ 4096 < L.length ∧ timesE L = 0 ∧ ¬ 64 < (makeS L h).length := by
      unfold makeE at z
      split at z
      · omega
      · split at z
        · rename_i q; exact absurd z q
        · rename_i q
          split at z
          · omega
          · exact ⟨by assumption, by simpa using q, by assumption⟩
    have k := key this.2.1
    by_cases hs : 64 < (refF L L.length).length
    · rw [if_pos hs] at k; exact absurd k this.2.2
    · rw [if_neg hs] at k; exact k.symm
  · rw [if_neg z, if_neg z]
end Go.Proofs.Ytomekndinopoaaa.chain
namespace Go.Proofs.Ytomekndinopoaaa.chain
open Go.Lib Go.Sort
open Go.Proofs.Ytomekndinopoaaa.tm Go.Proofs.Ytomekndinopoaaa.stamp

/-- A frontier: times of one depth, in order, none ahead of another one. -/
structure Front (L : List Tm) : Prop where
  ok : ∀ x ∈ L, Ok x
  deep : ∀ x ∈ L, x.d = (L.headD T0).d
  inc : L.Pairwise Lo
  anti : ∀ x ∈ L, ∀ y ∈ L, y ≠ x → leB y x = false
  few : L.length ≤ 64
theorem holds_iff {L : List Tm} {t : Tm} : holdsB L t = true ↔ ∃ x ∈ L, leB x t = true := by
  unfold holdsB
  rw [List.any_eq_true]
theorem leL_iff {L M : List Tm} : leL L M = true ↔ ∀ y ∈ M, holdsB L y = true := by
  unfold leL
  rw [List.all_eq_true]
theorem deep_iff {L : List Tm} : (∀ x ∈ L, x.d = (L.headD T0).d) ↔ ∀ x ∈ L, ∀ y ∈ L, x.d = y.d := by
  constructor
  · intro h x hx y hy
    rw [h x hx, h y hy]
  · intro h x hx
    cases L with
    | nil => simp at hx
    | cons a r => exact h x hx a (by simp)
/-- What Make answers, where nothing is wrong. -/
theorem make_zero {L : List Tm} {h : InL L} (e : makeE L h = 0) : makeV L h = refF L L.length ∧ Front (makeV L h) ∧ (∀ x ∈ L, chk x = 0) ∧ (∀ x ∈ L, ∀ y ∈ L, x.d = y.d) ∧ L.length ≤ 4096 := by
  obtain ⟨r1, r2⟩ := ref_make L h
  have e2 : refE L = 0 := by rw [r1, e]
  have hv : makeV L h = refF L L.length := by rw [← r2]; unfold refV; rw [if_pos e2]
  unfold refE at e2
  split at e2
  · omega
  · rename_i hl
    split at e2
    · rename_i q; exact absurd e2 q
    · rename_i q
      have ht : timesE L = 0 := by simpa using q
      split at e2
      · omega
      · rename_i hs
        obtain ⟨hc, hd⟩ := times_zero ht
        have hd := deep_iff.1 hd
        have hm : ∀ x ∈ refF L L.length, x ∈ L := fun x hx => ((refF_set L x).1 hx).1
        refine ⟨hv, ?_, hc, hd, by omega⟩
        rw [hv]
        exact ⟨fun x hx => ⟨h x (hm x hx), hc x (hm x hx)⟩, deep_iff.2 (fun x hx y hy => hd x (hm x hx) y (hm y hy)), refF_sorted h _, fun x hx y hy n => ((refF_set L x).1 hx).2 y (hm y hy) n, by omega⟩
theorem least_at : ∀ (L : List Tm) (x : Tm), (∃ y ∈ L, leB y x = true) → ∃ m ∈ L, leB m x = true ∧ ∀ y ∈ L, leB y x = true → numT m ≤ numT y
  | [], x, ⟨y, hy, _⟩ => by simp at hy
  | a :: r, x, h => by
    by_cases hr : ∃ y ∈ r, leB y x = true
    · obtain ⟨m, hm, h1, h2⟩ := least_at r x hr
      by_cases ha : leB a x = true ∧ numT a ≤ numT m
      · refine ⟨a, by simp, ha.1, fun y hy hl => ?_⟩
        rcases List.mem_cons.1 hy with rfl | u
        · exact Int.le_refl _
        · have := h2 y u hl; omega
      · refine ⟨m, List.mem_cons_of_mem _ hm, h1, fun y hy hl => ?_⟩
        rcases List.mem_cons.1 hy with rfl | u
        · by_cases q : numT y ≤ numT m
          · exact absurd ⟨hl, q⟩ ha
          · omega
        · exact h2 y u hl
    · obtain ⟨y, hy, hl⟩ := h
      rcases List.mem_cons.1 hy with rfl | u
      · refine ⟨y, by simp, hl, fun z hz hz2 => ?_⟩
        rcases List.mem_cons.1 hz with rfl | u
        · exact Int.le_refl _
        · exact absurd ⟨z, u, hz2⟩ hr
      · exact absurd ⟨y, u, hl⟩ hr
/-- The minimal ones hold what all of them hold. -/
theorem ref_holds (L : List Tm) (o : ∀ x ∈ L, Ok x) (t : Tm) : holdsB (refF L L.length) t = holdsB L t := by
  apply bool_ext
  rw [holds_iff, holds_iff]
  constructor
  · rintro ⟨x, hx, hl⟩; exact ⟨x, ((refF_set L x).1 hx).1, hl⟩
  · intro h
    obtain ⟨m, hm, h1, h2⟩ := least_at L t h
    refine ⟨m, (refF_set L m).2 ⟨hm, fun y hy n => ?_⟩, h1⟩
    cases hb : leB y m with
    | false => rfl
    | true =>
      have := h2 y hy (le_trans3 hb h1)
      have := le_lt (o y hy) (o m hm) hb n
      omega
theorem make_holds {L : List Tm} {h : InL L} (e : makeE L h = 0) (t : Tm) : holdsB (makeV L h) t = holdsB L t := by
  obtain ⟨hv, -, hc, -⟩ := make_zero e
  rw [hv]
  exact ref_holds L (fun x hx => ⟨h x hx, hc x hx⟩) t
theorem front_in {L : List Tm} (f : Front L) : InL L := fun x hx => (f.ok x hx).1
theorem front_ref {L : List Tm} (f : Front L) : refF L L.length = L := by
  refine ext_sorted (refF_sorted (front_in f) _) f.inc fun x => ?_
  rw [refF_set]
  constructor
  · exact fun u => u.1
  · intro hx
    exact ⟨hx, fun y hy n => f.anti x hx y hy n⟩
/-- Made again a frontier is as it was. -/
theorem make_front {L : List Tm} (f : Front L) (h : InL L) : makeE L h = 0 ∧ makeV L h = L := by
  obtain ⟨r1, r2⟩ := ref_make L h
  have ht : timesE L = 0 := times_ok (fun y hy => (f.ok y hy).2) f.deep
  have hf := f.few
  have e : refE L = 0 := by
    unfold refE
    rw [if_neg (by omega), if_neg (by simp [ht]), front_ref f, if_neg (by omega)]
  refine ⟨by rw [← r1, e], ?_⟩
  rw [← r2]
  unfold refV
  rw [if_pos e, front_ref f]
theorem check_front {L : List Tm} (f : Front L) (h : InL L) : checkE L h = 0 := by
  have hf := f.few
  obtain ⟨e, v⟩ := make_front f h
  unfold checkE
  rw [if_neg (by omega), if_neg (by simp [e]), if_pos v]
theorem front_check {L : List Tm} {h : InL L} (e : checkE L h = 0) : Front L := by
  unfold checkE at e
  split at e
  · omega
  · split at e
    · rename_i q; exact absurd e q
    · rename_i q
      split at e
      · rename_i v
        have hz : makeE L h = 0 := by simpa using q
        have := (make_zero hz).2.1
        rwa [v] at this
      · omega
theorem front_nil : Front [] := ⟨by simp, by simp, List.Pairwise.nil, by simp, by simp⟩
/-- No two of a frontier stand one ahead of the other. -/
theorem front_anti {L : List Tm} (f : Front L) {i k : Nat} {x y : Tm} (n : i ≠ k) (hi : L[i]? = some x) (hk : L[k]? = some y) : leB x y = false := by
  obtain ⟨i1, i2⟩ := List.getElem?_eq_some_iff.1 hi
  obtain ⟨k1, k2⟩ := List.getElem?_eq_some_iff.1 hk
  refine f.anti y (List.mem_of_getElem? hk) x (List.mem_of_getElem? hi) fun e => ?_
  rcases Nat.lt_or_gt_of_ne n with u | u
  · have : Lo L[i] L[k] := List.pairwise_iff_getElem.1 f.inc i k i1 k1 u
    rw [i2, k2, e] at this
    exact absurd this (Int.lt_irrefl _)
  · have : Lo L[k] L[i] := List.pairwise_iff_getElem.1 f.inc k i k1 i1 u
    rw [i2, k2, e] at this
    exact absurd this (Int.lt_irrefl _)
theorem leL_refl {L : List Tm} (f : Front L) : leL L L = true := leL_iff.2 fun y hy => holds_iff.2 ⟨y, hy, ok_refl (f.ok y hy)⟩
theorem leL_holds {L M : List Tm} {t : Tm} (h : leL L M = true) (k : holdsB M t = true) : holdsB L t = true := by
  obtain ⟨y, hy, hl⟩ := holds_iff.1 k
  obtain ⟨x, hx, hk⟩ := holds_iff.1 (leL_iff.1 h y hy)
  exact holds_iff.2 ⟨x, hx, le_trans3 hk hl⟩
theorem leL_trans {L M N : List Tm} (h : leL L M = true) (k : leL M N = true) : leL L N = true := leL_iff.2 fun z hz => leL_holds h (leL_iff.1 k z hz)
theorem leL_sub {L M : List Tm} (fL : Front L) (fM : Front M) (h : leL L M = true) (k : leL M L = true) : ∀ y ∈ M, y ∈ L := by
  intro y hy
  obtain ⟨x, hx, h1⟩ := holds_iff.1 (leL_iff.1 h y hy)
  obtain ⟨z, hz, h2⟩ := holds_iff.1 (leL_iff.1 k x hx)
  have h3 := le_trans3 h2 h1
  have e : z = y := Decidable.byContradiction fun n => by
    have := fM.anti y hy z hz n
    rw [h3] at this
    cases this
  subst e
  have p := le_num (fL.ok x hx) (fM.ok z hy) h1
  have q := le_num (fM.ok z hy) (fL.ok x hx) h2
  have : x = z := num_eq (fL.ok x hx).1 (fM.ok z hy).1 (by omega)
  rw [← this]; exact hx
theorem leL_anti {L M : List Tm} (fL : Front L) (fM : Front M) (h : leL L M = true) (k : leL M L = true) : L = M :=
  ext_sorted fL.inc fM.inc fun x => ⟨fun hx => leL_sub fM fL k h x hx, fun hx => leL_sub fL fM h k x hx⟩
/-- What is wrong with two frontiers. -/
def bothE (A B : List Tm) (iA : InL A) (iB : InL B) : Int := if checkE A iA ≠ 0 then checkE A iA else if checkE B iB ≠ 0 then checkE B iB else if A ≠ [] ∧ B ≠ [] ∧ (A.headD T0).d ≠ (B.headD T0).d then 10 else 0
theorem in_app {A B : List Tm} (iA : InL A) (iB : InL B) : InL (A ++ B) := fun x hx => (List.mem_append.1 hx).elim (iA x) (iB x)
def joins (A B : List Tm) : List Tm := A.flatMap fun a => B.map fun b => joinV a b
theorem max_in {x y p q : Int} (h1 : p ≤ x) (h2 : x ≤ q) (k1 : p ≤ y) (k2 : y ≤ q) : p ≤ maxI x y ∧ maxI x y ≤ q := by
  unfold maxI; split <;> omega
theorem join_In {a b : Tm} (ia : a.In) (ib : b.In) : (joinV a b).In := by
  unfold joinV
  split
  · obtain ⟨i0, i1, i8, i9, i2, i3, i4, i5, i6, i7⟩ := ia
    obtain ⟨j0, j1, -, -, j2, j3, j4, j5, j6, j7⟩ := ib
    exact ⟨(max_in i0 i1 j0 j1).1, (max_in i0 i1 j0 j1).2, i8, i9, (max_in i2 i3 j2 j3).1, (max_in i2 i3 j2 j3).2, (max_in i4 i5 j4 j5).1, (max_in i4 i5 j4 j5).2, (max_in i6 i7 j6 j7).1, (max_in i6 i7 j6 j7).2⟩
  · constructor <;> decide
theorem in_joins {A B : List Tm} (iA : InL A) (iB : InL B) : InL (joins A B) := by
  intro x hx
  obtain ⟨a, ha, hx⟩ := List.mem_flatMap.1 hx
  obtain ⟨b, hb, rfl⟩ := List.mem_map.1 hx
  exact join_In (iA a ha) (iB b hb)
def meetLE (A B : List Tm) (iA : InL A) (iB : InL B) : Int := if bothE A B iA iB ≠ 0 then bothE A B iA iB else makeE (A ++ B) (in_app iA iB)
def meetLV (A B : List Tm) (iA : InL A) (iB : InL B) : List Tm := if bothE A B iA iB ≠ 0 then [] else makeV (A ++ B) (in_app iA iB)
def joinLE (A B : List Tm) (iA : InL A) (iB : InL B) : Int := if bothE A B iA iB ≠ 0 then bothE A B iA iB else makeE (joins A B) (in_joins iA iB)
def joinLV (A B : List Tm) (iA : InL A) (iB : InL B) : List Tm := if bothE A B iA iB ≠ 0 then [] else makeV (joins A B) (in_joins iA iB)
theorem both_ok {A B : List Tm} {iA : InL A} {iB : InL B} (h : bothE A B iA iB = 0) : Front A ∧ Front B ∧ ∀ a ∈ A, ∀ b ∈ B, both a b = 0 := by
  unfold bothE at h
  split at h
  · rename_i q; exact absurd h q
  · rename_i q1
    split at h
    · rename_i q; exact absurd h q
    · rename_i q2
      split at h
      · omega
      · rename_i q3
        have fA : Front A := front_check (h := iA) (by simpa using q1)
        have fB : Front B := front_check (h := iB) (by simpa using q2)
        refine ⟨fA, fB, fun a ha b hb => ?_⟩
        have d1 := fA.deep a ha
        have d2 := fB.deep b hb
        have dd : a.d = b.d := by
          rw [d1, d2]
          refine Decidable.byContradiction fun n => q3 ⟨?_, ?_, n⟩
          · rintro rfl; simp at ha
          · rintro rfl; simp at hb
        unfold both
        rw [if_pos (fA.ok a ha).2, if_pos (fB.ok b hb).2, if_pos dd]
theorem meet_le {A B : List Tm} {iA : InL A} {iB : InL B} (h : meetLE A B iA iB = 0) : bothE A B iA iB = 0 ∧ makeE (A ++ B) (in_app iA iB) = 0 ∧ meetLV A B iA iB = makeV (A ++ B) (in_app iA iB) := by
  unfold meetLE at h
  split at h
  · rename_i q; exact absurd h q
  · rename_i q
    have q0 : bothE A B iA iB = 0 := by simpa using q
    exact ⟨q0, h, by unfold meetLV; rw [if_neg q]⟩
theorem join_le {A B : List Tm} {iA : InL A} {iB : InL B} (h : joinLE A B iA iB = 0) : bothE A B iA iB = 0 ∧ makeE (joins A B) (in_joins iA iB) = 0 ∧ joinLV A B iA iB = makeV (joins A B) (in_joins iA iB) := by
  unfold joinLE at h
  split at h
  · rename_i q; exact absurd h q
  · rename_i q
    have q0 : bothE A B iA iB = 0 := by simpa using q
    exact ⟨q0, h, by unfold joinLV; rw [if_neg q]⟩
theorem meet_holds {A B : List Tm} {iA : InL A} {iB : InL B} (h : meetLE A B iA iB = 0) (t : Tm) : holdsB (meetLV A B iA iB) t = (holdsB A t || holdsB B t) := by
  obtain ⟨-, e, v⟩ := meet_le h
  rw [v, make_holds e]
  unfold holdsB
  rw [List.any_append]
theorem meet_low {A B : List Tm} {iA : InL A} {iB : InL B} (h : meetLE A B iA iB = 0) : leL (meetLV A B iA iB) A = true ∧ leL (meetLV A B iA iB) B = true := by
  obtain ⟨fA, fB, -⟩ := both_ok (meet_le h).1
  refine ⟨leL_iff.2 fun y hy => ?_, leL_iff.2 fun y hy => ?_⟩
  · rw [meet_holds h, holds_iff.2 ⟨y, hy, ok_refl (fA.ok y hy)⟩]; rfl
  · rw [meet_holds h, holds_iff.2 ⟨y, hy, ok_refl (fB.ok y hy)⟩]; simp
theorem joinV_le {a b t : Tm} (h : both a b = 0) : leB (joinV a b) t = (leB a t && leB b t) := by
  apply bool_ext
  rw [Bool.and_eq_true, leB_iff, leB_iff, leB_iff]
  obtain ⟨ca, cb, dd⟩ := both_zero h
  unfold joinV
  rw [if_pos h]
  obtain ⟨a1, a2, -⟩ := chk_zero ca
  obtain ⟨b1, b2, -⟩ := chk_zero cb
  have m : ∀ x y z : Int, maxI x y ≤ z ↔ x ≤ z ∧ y ≤ z := by
    intro x y z
    unfold maxI
    split <;> constructor <;> intro <;> omega
  simp only [m]
  constructor
  · rintro ⟨h1, h2, h3, h4, h5, h6, h7⟩
    exact ⟨⟨h1, h2, h3, h4.1, fun u => (h5 u).1, fun u => (h6 u).1, fun u => (h7 u).1⟩, by omega, by omega, by omega, h4.2, fun u => (h5 (by omega)).2, fun u => (h6 (by omega)).2, fun u => (h7 (by omega)).2⟩
  · rintro ⟨⟨h1, h2, h3, h4, h5, h6, h7⟩, k1, k2, k3, k4, k5, k6, k7⟩
    exact ⟨h1, h2, h3, ⟨h4, k4⟩, fun u => ⟨h5 u, k5 (by omega)⟩, fun u => ⟨h6 u, k6 (by omega)⟩, fun u => ⟨h7 u, k7 (by omega)⟩⟩
theorem join_holds {A B : List Tm} {iA : InL A} {iB : InL B} (h : joinLE A B iA iB = 0) (t : Tm) : holdsB (joinLV A B iA iB) t = (holdsB A t && holdsB B t) := by
  obtain ⟨q, e, v⟩ := join_le h
  obtain ⟨fA, fB, hb⟩ := both_ok q
  rw [v, make_holds e]
  apply bool_ext
  rw [Bool.and_eq_true, holds_iff, holds_iff, holds_iff]
  constructor
  · rintro ⟨x, hx, hl⟩
    obtain ⟨a, ha, hx⟩ := List.mem_flatMap.1 hx
    obtain ⟨b, hb2, rfl⟩ := List.mem_map.1 hx
    rw [joinV_le (hb a ha b hb2), Bool.and_eq_true] at hl
    exact ⟨⟨a, ha, hl.1⟩, b, hb2, hl.2⟩
  · rintro ⟨⟨a, ha, h1⟩, b, hb2, h2⟩
    exact ⟨joinV a b, List.mem_flatMap.2 ⟨a, ha, List.mem_map.2 ⟨b, hb2, rfl⟩⟩, by rw [joinV_le (hb a ha b hb2), h1, h2]; rfl⟩
theorem join_high {A B : List Tm} {iA : InL A} {iB : InL B} (h : joinLE A B iA iB = 0) : leL A (joinLV A B iA iB) = true ∧ leL B (joinLV A B iA iB) = true := by
  obtain ⟨q, e, v⟩ := join_le h
  obtain ⟨-, f, -⟩ := make_zero e
  rw [← v] at f
  have k : ∀ y ∈ joinLV A B iA iB, holdsB A y = true ∧ holdsB B y = true := by
    intro y hy
    have := join_holds h y
    rw [holds_iff.2 ⟨y, hy, ok_refl (f.ok y hy)⟩] at this
    exact Bool.and_eq_true_iff.1 this.symm
  exact ⟨leL_iff.2 fun y hy => (k y hy).1, leL_iff.2 fun y hy => (k y hy).2⟩
end Go.Proofs.Ytomekndinopoaaa.chain
