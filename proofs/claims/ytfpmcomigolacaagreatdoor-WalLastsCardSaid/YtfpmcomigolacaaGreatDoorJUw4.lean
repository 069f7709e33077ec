/-
  The names of a log's files, and their numbers.
-/
import Derived.Test.YtfpmcomigolacaaGreatDoorJUf0
set_option linter.unusedSimpArgs false
set_option linter.unusedVariables false
namespace Go.Proofs.YtfpmcomigolacaaGreatDoor.wal
open Go.Proofs.YtfpmcomigolacaaGreatDoor.enc Go.Proofs.YtfpmcomigolacaaGreatDoor.code Go.Proofs.YtfpmcomigolacaaGreatDoor.crcm Go.Proofs.YtfpmcomigolacaaGreatDoor.words Go.Proofs.YtfpmcomigolacaaGreatDoor.disk

theorem itoa_inj {j k : Int} (h0 : 0 ≤ j) (h1 : j ≤ 1000000) (h2 : 0 ≤ k) (h3 : k ≤ 1000000) (h : Lib.itoa j = Lib.itoa k) : j = k := by
  have a := sg_itoa j (by omega) (by omega)
  have b := sg_itoa k (by omega) (by omega)
  rw [h, b] at a
  exact (Option.some.inj a).symm
theorem fn_inj {nm : Bs} {j k : Int} (h0 : 0 ≤ j) (h1 : j ≤ 1000000) (h2 : 0 ≤ k) (h3 : k ≤ 1000000) (h : fn nm j = fn nm k) : j = k := itoa_inj h0 h1 h2 h3 (List.append_cancel_left h)
theorem pre_fn (nm : Bs) (k : Int) : Lib.hasPrefix (fn nm k) nm = true ∧ Lib.trimPrefix (fn nm k) nm = Lib.itoa k := by
  have h : Lib.hasPrefix (fn nm k) nm = true := by
    unfold Lib.hasPrefix fn
    rw [List.isPrefixOf_iff_prefix]
    exact List.prefix_append _ _
  refine ⟨h, ?_⟩
  unfold Lib.trimPrefix
  rw [if_pos h]
  unfold fn
  simp
theorem in_itoa {k : Int} (h0 : 1 ≤ k) (h1 : k ≤ 999) : inE (Lib.itoa k) 1 999 = 0 ∧ inV (Lib.itoa k) 1 999 = k := by
  have h := sg_itoa k (by omega) (by omega)
  have e1 : sgE (Lib.itoa k) = 0 := by simp [sgE, h]
  have e2 : sgV (Lib.itoa k) = k := by simp [sgV, h]
  unfold inE inV
  rw [e1, e2, if_neg (by simp), if_neg (by omega), if_neg (by simp), if_neg (by omega)]
  exact ⟨rfl, rfl⟩
theorem numOf_fn (nm : Bs) {k : Int} (h0 : 1 ≤ k) (h1 : k ≤ 999) : numOf nm (fn nm k) = some k := by
  obtain ⟨p1, p2⟩ := pre_fn nm k
  obtain ⟨i1, i2⟩ := in_itoa h0 h1
  unfold numOf
  rw [if_pos p1, p2, if_pos i1, i2]
theorem numOf_some {nm f : Bs} {k : Int} (h : numOf nm f = some k) : f = fn nm k ∧ 1 ≤ k ∧ k ≤ 999 := by
  unfold numOf at h
  split at h
  · rename_i hp
    split at h
    · rename_i hi
      have hk := Option.some.inj h
      unfold inE at hi
      unfold inV at hk
      split at hi
      · rename_i h1; exact absurd hi h1
      · rename_i h1
        rw [if_neg h1] at hk
        split at hi
        · omega
        · rename_i h2
          rw [if_neg h2] at hk
          have hs : sgP (Lib.trimPrefix f nm) = some k := by
            unfold sgE at h1
            unfold sgV at hk
            cases e : sgP (Lib.trimPrefix f nm) with
            | none => rw [e] at h1; simp at h1
            | some v => rw [e] at hk; simpa using hk
          have hf := (sg_some hs).1
          refine ⟨?_, by omega, by omega⟩
          unfold fn
          rw [hf]
          unfold Lib.trimPrefix
          rw [if_pos hp]
          unfold Lib.hasPrefix at hp
          rw [List.isPrefixOf_iff_prefix] at hp
          exact (List.prefix_iff_eq_append.1 hp).symm
    · cases h
  · cases h
theorem itoa_len {k : Int} (h0 : 0 ≤ k) (h1 : k ≤ 999) : (Lib.itoa k).length ≤ 3 := by
  obtain ⟨u, rfl⟩ : ∃ u : Nat, k = (u : Int) := ⟨k.toNat, by omega⟩
  rw [Lib.itoa_nonneg, Lib.decDigits_length]
  exact nDigits_le 2 u (by omega)
theorem fn_len {nm : Bs} {k : Int} (h0 : 0 ≤ k) (h1 : k ≤ 1000000) : (fn nm k).length ≤ nm.length + 20 := by
  have := (itoa_shape k (by omega) (by omega)).1
  unfold fn
  rw [List.length_append]
  omega
theorem name_fn {nm : Bs} (h : nameB nm = true) (hl : nm.length ≤ 8) {k : Int} (h0 : 1 ≤ k) (h1 : k ≤ 999) : nameB (fn nm k) = true := by
  have h3 := itoa_len (by omega) h1
  cases nm with
  | nil => simp [nameB] at h
  | cons c r =>
    unfold nameB at h ⊢
    simp only [Bool.and_eq_true, decide_eq_true_eq, List.all_eq_true] at h
    obtain ⟨-, ha, hr⟩ := h
    show (decide ((fn (c :: r) k).length ≤ 12) && (isA c && (r ++ Lib.itoa k).all fun x => isA x || isD x)) = true
    simp only [Bool.and_eq_true, decide_eq_true_eq, List.all_eq_true]
    refine ⟨by unfold fn; rw [List.length_append]; omega, ha, fun x hx => ?_⟩
    rcases List.mem_append.1 hx with hx | hx
    · exact hr x hx
    · obtain ⟨u, rfl⟩ : ∃ u : Nat, k = (u : Int) := ⟨k.toNat, by omega⟩
      rw [Lib.itoa_nonneg] at hx
      have := dig_mem u x hx
      unfold isD
      rw [decide_eq_true this, Bool.or_true]

/-! ### The numbers of the files that are there -/
theorem nums_mem {nm : Bs} {F : List Fl} {k : Int} : k ∈ numsU nm F ↔ 1 ≤ k ∧ k ≤ 999 ∧ lk F (fn nm k) ≠ none := by
  unfold numsU
  rw [List.mem_filterMap]
  constructor
  · rintro ⟨f, hf, hk⟩
    obtain ⟨h1, h2, h3⟩ := numOf_some hk
    refine ⟨h2, h3, fun hn => ?_⟩
    obtain ⟨x, hx, rfl⟩ := List.mem_map.1 hf
    exact lk_none.1 hn x hx h1
  · rintro ⟨h1, h2, h3⟩
    cases e : lk F (fn nm k) with
    | none => exact absurd e h3
    | some f =>
      obtain ⟨e1, e2⟩ := lk_some e
      exact ⟨f.n, List.mem_map.2 ⟨f, e1, rfl⟩, by rw [e2]; exact numOf_fn nm h1 h2⟩
theorem nums_nodup {nm : Bs} {F : List Fl} (h : Srt F) : (numsU nm F).Pairwise (· ≠ ·) := by
  unfold numsU
  have h1 : (F.map Fl.n).Pairwise (· ≠ ·) := List.pairwise_map.2 (srt_ne h)
  refine List.Pairwise.filterMap _ (R := (· ≠ ·)) (S := (· ≠ ·)) (fun a b hab c hc d hd => ?_) h1
  obtain ⟨e1, -⟩ := numOf_some hc
  obtain ⟨e2, -⟩ := numOf_some hd
  intro e
  subst e
  exact hab (e1.trans e2.symm)
/-- Numbers in a row. -/
def rowI (a : Int) (n : Nat) : List Int := (List.range n).map fun i : Nat => a + (i : Int)
theorem rowI_mem {a : Int} {n : Nat} {k : Int} : k ∈ rowI a n ↔ a ≤ k ∧ k < a + n := by
  unfold rowI
  rw [List.mem_map]
  constructor
  · rintro ⟨i, hi, rfl⟩
    have := List.mem_range.1 hi
    omega
  · rintro ⟨h1, h2⟩
    exact ⟨(k - a).toNat, List.mem_range.2 (by omega), by omega⟩
theorem rowI_sorted (a : Int) (n : Nat) : (rowI a n).Pairwise (· < ·) := by
  unfold rowI
  refine List.pairwise_map.2 (List.Pairwise.imp (fun {x y} h => ?_) List.pairwise_lt_range)
  omega
theorem rowI_cons (a : Int) (n : Nat) : rowI a (n + 1) = a :: rowI (a + 1) n := by
  unfold rowI
  rw [List.range_succ_eq_map, List.map_cons, List.map_map]
  congr 1
  · simp
  · refine List.map_congr_left fun i _ => ?_
    simp
    omega
theorem perm_of_mem {l m : List Int} (hl : l.Pairwise (· ≠ ·)) (hm : m.Pairwise (· ≠ ·)) (h : ∀ x, x ∈ l ↔ x ∈ m) : l.Perm m :=
  (List.perm_ext_iff_of_nodup hl hm).2 h
theorem sorted_row {l : List Int} {a : Int} {n : Nat} (hl : l.Pairwise (· ≠ ·)) (h : ∀ x, x ∈ l ↔ a ≤ x ∧ x < a + n) {s : List Int} (hp : s.Perm l) (hs : s.Pairwise (· ≤ ·)) : s = rowI a n := by
  have h1 : l.Perm (rowI a n) := perm_of_mem hl ((rowI_sorted a n).imp fun {x y} hxy => by omega) fun x => by rw [h, rowI_mem]
  exact List.Perm.eq_of_pairwise (le := fun x y : Int => x ≤ y) (fun x y _ _ h1 h2 => Int.le_antisymm h1 h2) hs ((rowI_sorted a n).imp fun {x y} hxy => by omega) (hp.trans h1)
end Go.Proofs.YtfpmcomigolacaaGreatDoor.wal
