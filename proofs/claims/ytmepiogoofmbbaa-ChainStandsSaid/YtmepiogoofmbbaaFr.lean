/-
  Mathematics of frontiers: the minimal ones of a sorted list are what the document's insertion makes.
-/
import Derived.Test.YtmepiogoofmbbaaFr0
import Derived.Test.YtmepiogoofmbbaaCk
namespace Go.Proofs.Ytmepiogoofmbbaa.chain
open Go.Lib Go.Sort
open Go.Proofs.Ytmepiogoofmbbaa.tm Go.Proofs.Ytmepiogoofmbbaa.stamp

/-- The minimal ones, all of them. -/
def minA (S K : List Tm) : List Tm := S.foldl keep K
theorem keep_grow (K : List Tm) (t : Tm) : K.length ≤ (keep K t).length := by
  unfold keep
  split
  · omega
  · simp
theorem minA_grow : ∀ S K : List Tm, K.length ≤ (minA S K).length
  | [], _ => Nat.le_refl _
  | t :: r, K => Nat.le_trans (keep_grow K t) (minA_grow r (keep K t))
theorem minF_minA : ∀ S K : List Tm, K.length ≤ 64 → if 64 < (minA S K).length then 64 < (minF S K).length else minF S K = minA S K
  | [], K, h => by
    rw [if_neg (show ¬ 64 < (minA [] K).length by show ¬ 64 < K.length; omega)]
    rfl
  | t :: r, K, h => by
    show if 64 < (minA r (keep K t)).length then _ else _ = minA r (keep K t)
    unfold minF
    by_cases e : 64 < (keep K t).length
    · rw [if_pos (Nat.lt_of_lt_of_le e (minA_grow _ _)), if_pos e]
      exact e
    · rw [if_neg e]
      exact minF_minA r (keep K t) (by omega)
theorem minA_set : ∀ (S K : List Tm), (∀ x ∈ S, Ok x) → (∀ x ∈ K, Ok x) → S.Pairwise (fun x y => numT x ≤ numT y) → K.Pairwise Lo → (∀ k ∈ K, ∀ s ∈ S, numT k ≤ numT s) →
    (minA S K).Pairwise Lo ∧ ∀ x, x ∈ minA S K ↔ x ∈ K ∨ (x ∈ S ∧ (∀ k ∈ K, leB k x = false) ∧ ∀ y ∈ S, y ≠ x → leB y x = false)
  | [], _, _, _, _, hK, _ => ⟨hK, fun x => by simp [minA]⟩
  | t :: r, K, oS, oK, hS, hK, hh => by
    obtain ⟨s1, s2⟩ := List.pairwise_cons.1 hS
    have ot := oS t (by simp)
    have oR : ∀ x ∈ r, Ok x := fun x hx => oS x (List.mem_cons_of_mem _ hx)
    show (minA r (keep K t)).Pairwise Lo ∧ ∀ x, x ∈ minA r (keep K t) ↔ _
    by_cases h : K.any (fun k => leB k t) = true
    · have e : keep K t = K := by unfold keep; rw [if_pos h]
      rw [e]
      obtain ⟨g1, g2⟩ := minA_set r K oR oK s2 hK (fun k hk s hs => hh k hk s (List.mem_cons_of_mem _ hs))
      refine ⟨g1, fun x => ?_⟩
      rw [g2]
      obtain ⟨k0, hk0, hl⟩ := List.any_eq_true.1 h
      constructor
      · rintro (u | ⟨u, v, z⟩)
        · exact .inl u
        · refine .inr ⟨List.mem_cons_of_mem _ u, v, fun y hy n => ?_⟩
          rcases List.mem_cons.1 hy with rfl | hy
          · cases hb : leB y x with
            | false => rfl
            | true => have := v k0 hk0; rw [le_trans3 hl hb] at this; cases this
          · exact z y hy n
      · rintro (u | ⟨u, v, z⟩)
        · exact .inl u
        · rcases List.mem_cons.1 u with rfl | u
          · have := v k0 hk0; rw [hl] at this; cases this
          · exact .inr ⟨u, v, fun y hy n => z y (List.mem_cons_of_mem _ hy) n⟩
    · have e : keep K t = K ++ [t] := by unfold keep; rw [if_neg h]
      have hn : ∀ k ∈ K, leB k t = false := by
        intro k hk
        cases hb : leB k t with
        | false => rfl
        | true => exact absurd (List.any_eq_true.2 ⟨k, hk, hb⟩) h
      rw [e]
      have lo : ∀ k ∈ K, numT k < numT t := by
        intro k hk
        rcases Int.lt_or_eq_of_le (hh k hk t (by simp)) with u | u
        · exact u
        · have := num_eq (oK k hk).1 ot.1 u
          have g := hn k hk
          rw [this, ok_refl ot] at g
          cases g
      obtain ⟨g1, g2⟩ := minA_set r (K ++ [t]) oR (by
          intro x hx
          rcases List.mem_append.1 hx with u | u
          · exact oK x u
          · simp at u; rw [u]; exact ot) s2 (by
          rw [List.pairwise_append]
          exact ⟨hK, List.pairwise_singleton _ _, fun k hk y hy => by simp at hy; rw [hy]; exact lo k hk⟩) (by
          intro k hk s hs
          rcases List.mem_append.1 hk with u | u
          · exact hh k u s (List.mem_cons_of_mem _ hs)
          · simp at u; rw [u]; exact s1 s hs)
      refine ⟨g1, fun x => ?_⟩
      rw [g2]
      constructor
      · rintro (u | ⟨u, v, z⟩)
        · rcases List.mem_append.1 u with u | u
          · exact .inl u
          · simp at u
            subst u
            refine .inr ⟨by simp, hn, fun y hy n => ?_⟩
            rcases List.mem_cons.1 hy with rfl | hy
            · exact absurd rfl n
            · cases hb : leB y x with
              | false => rfl
              | true =>
                have p := le_lt (oR y hy) ot hb n
                have q := s1 y hy
                omega
        · refine .inr ⟨List.mem_cons_of_mem _ u, fun k hk => v k (List.mem_append_left _ hk), fun y hy n => ?_⟩
          rcases List.mem_cons.1 hy with rfl | hy
          · exact v y (by simp)
          · exact z y hy n
      · rintro (u | ⟨u, v, z⟩)
        · exact .inl (List.mem_append_left _ u)
        · by_cases n : x = t
          · exact .inl (by simp [n])
          · rcases List.mem_cons.1 u with u | u
            · exact absurd u n
            · refine .inr ⟨u, fun k hk => ?_, fun y hy m => z y (List.mem_cons_of_mem _ hy) m⟩
              rcases List.mem_append.1 hk with w | w
              · exact v k w
              · simp at w; rw [w]; exact z t (by simp) (fun e => n e.symm)
theorem srt_mem (L : List Tm) (h : InL L) (x : Tm) : x ∈ srtL L h ↔ x ∈ L := by
  unfold srtL srt
  rw [List.mem_map]
  constructor
  · rintro ⟨y, hy, rfl⟩
    rw [(List.mergeSort_perm _ _).mem_iff] at hy
    have : y.1 ∈ (tis L h).map (·.1) := List.mem_map_of_mem hy
    rwa [tis_val] at this
  · intro hx
    have : x ∈ (tis L h).map (·.1) := by rwa [tis_val]
    obtain ⟨y, hy, e⟩ := List.mem_map.1 this
    exact ⟨y, by rwa [(List.mergeSort_perm _ _).mem_iff], e⟩
theorem srt_sorted (L : List Tm) (h : InL L) : (srtL L h).Pairwise (fun x y => numT x ≤ numT y) := by
  unfold srtL srt
  rw [List.pairwise_map]
  have := List.pairwise_mergeSort (le := fun x y : TI => !ltOf cfT y x) (by
    intro a b c h1 h2
    simp only [lt_num] at *
    simp at *
    omega) (by
    intro a b
    simp only [lt_num]
    simp
    omega) (tis L h)
  refine this.imp ?_
  intro a b hab
  rw [lt_num] at hab
  simp at hab
  exact hab
/-- The sorted minimal ones are what the document's loop makes. -/
theorem min_ref (L : List Tm) (h : InL L) (hc : ∀ y ∈ L, chk y = 0) : minA (srtL L h) [] = refF L L.length := by
  have o : ∀ x ∈ srtL L h, Ok x := fun x hx => by
    have := (srt_mem L h x).1 hx
    exact ⟨h x this, hc x this⟩
  obtain ⟨g1, g2⟩ := minA_set (srtL L h) [] o (by simp) (srt_sorted L h) List.Pairwise.nil (by simp)
  refine ext_sorted g1 (refF_sorted h _) fun x => ?_
  rw [g2, refF_set, srt_mem]
  simp only [List.not_mem_nil, false_or]
  constructor
  · rintro ⟨u, -, v⟩; exact ⟨u, fun y hy n => v y ((srt_mem L h y).2 hy) n⟩
  · rintro ⟨u, v⟩; exact ⟨u, by simp, fun y hy n => v y ((srt_mem L h y).1 hy) n⟩
theorem ref_make (L : List Tm) (h : InL L) : refE L = makeE L h ∧ refV L = makeV L h := by
  have key : timesE L = 0 → (if 64 < (refF L L.length).length then 64 < (makeS L h).length else makeS L h = refF L L.length) := by
    intro ht
    have := minF_minA (srtL L h) [] (by simp)
    rwa [min_ref L h (times_zero ht).1] at this
  have e : refE L = makeE L h := by
    unfold refE makeE
    by_cases hl : 4096 < L.length
    · rw [if_pos hl, if_pos hl]
    · rw [if_neg hl, if_neg hl]
      by_cases ht : timesE L = 0
      · have hn : ¬ timesE L ≠ 0 := fun q => q ht
        rw [if_neg hn, if_neg hn]
        have k := key ht
        by_cases hs : 64 < (refF L L.length).length
        · rw [if_pos hs] at k
          rw [if_pos hs, if_pos k]
        · rw [if_neg hs] at k
          rw [k]
      · rw [if_pos ht, if_pos ht]
  refine ⟨e, ?_⟩
  unfold refV makeV
  rw [e]
  by_cases z : makeE L h = 0
  · rw [if_pos z, if_pos z]
    have : ¬ 4096 < L.length ∧ timesE L = 0 ∧ ¬ 64 < (makeS L h).length := by
      unfold makeE at z
      split at z
      · omega
      · split at z
        · rename_i q; exact absurd z q
        · rename_i q
          split at z
          · omega
          · exact ⟨by assumption, by simpa using q, by assumption⟩
    have k := key this.2.1
    by_cases hs : 64 < (refF L L.length).length
    · rw [if_pos hs] at k; exact absurd k this.2.2
    · rw [if_neg hs] at k; exact k.symm
  · rw [if_neg z, if_neg z]
end Go.Proofs.Ytmepiogoofmbbaa.chain
