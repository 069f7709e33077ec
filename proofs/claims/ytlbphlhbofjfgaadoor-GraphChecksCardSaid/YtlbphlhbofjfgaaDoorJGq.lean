/-
  What is wrong with an operator, by the document.
-/
import Derived.Test.YtlbphlhbofjfgaaDoorJGd
namespace Go.Proofs.YtlbphlhbofjfgaaDoor.graph
open Go.ChangeShapes Go.WideShapes Go.ChangeAt Go.RowKit
open Go.Proofs.YtlbphlhbofjfgaaDoor.opened Go.Proofs.YtlbphlhbofjfgaaDoor.block Go.Proofs.YtlbphlhbofjfgaaDoor.words
theorem word_none (k : Int) : wordB k = [] ↔ (k < 1 ∨ 14 < k) := by
  constructor
  · intro h
    apply Classical.byContradiction
    intro hk
    obtain ⟨m, rfl⟩ : ∃ m : Nat, k = m := ⟨k.toNat, by omega⟩
    rcases (show m = 1 ∨ m = 2 ∨ m = 3 ∨ m = 4 ∨ m = 5 ∨ m = 6 ∨ m = 7 ∨ m = 8 ∨ m = 9 ∨ m = 10 ∨ m = 11 ∨ m = 12 ∨ m = 13 ∨ m = 14 by omega) with rfl | rfl | rfl | rfl | rfl | rfl | rfl | rfl | rfl | rfl | rfl | rfl | rfl | rfl
    all_goals exact absurd h (by decide)
  · intro h
    unfold wordB
    repeat rw [if_neg (by omega)]
set_option maxRecDepth 100000 in
set_option maxHeartbeats 1000000 in
theorem opR_any (v : Gv) (g : Gr) (n : Bs) (k l a x y : Int) (w : World) :
    Calls Tryd.prog 39 #[gV v g, .agg #[sV n, .int .i64 k, .int .i64 l, .int .i64 a, .int .i64 x, .int .i64 y]] w fun e w' => e = .returned (.int .i64 (opE g ⟨n, k, l, a, x, y⟩)) ∧ Below w.heap.size w w' := by
  have NA := numbers_any n k l a x y
  have WD := word_any k
  obtain ⟨va, vb, vd, ve, vi, vj, vk, vm⟩ := v
  unfold gV
  dsimp only
  obtain ⟨E, hE⟩ : ∃ E, opE g ⟨n, k, l, a, x, y⟩ = E := ⟨_, rfl⟩
  rw [hE]
  unfold opE at hE
  dsimp only at hE
  replace hE := Lib.hid hE
  by_cases ak : k < 1 ∨ 14 < k
  · obtain rfl : 70 = E := by rw [← hE.out, if_pos ak]
    rw [(word_none k).2 ak] at WD
    replace WD := Lib.hid WD
    clear hE ak NA
    go_enter Tryd.func39, Tryd.ntmps39
    go_wp2_with (go_at_call 30; refine (WD.out _).mono ?_; rintro e w3 ⟨rfl, rfl⟩)
    go_ret
    exact ⟨rfl, (fresh1 _ _).trans ((fresh1 _ _).mono (by simp))⟩
  have wn : wordB k ≠ [] := fun h => ak ((word_none k).1 h)
  obtain ⟨c, r, hw⟩ : ∃ c r, wordB k = c :: r := List.exists_cons_of_ne_nil wn
  rw [hw] at WD
  replace WD := Lib.hid WD
  replace hE := Lib.hid ((if_neg ak).symm.trans hE.out)
  have k1 : 1 ≤ k := by omega
  have k14 : k ≤ 14 := by omega
  clear wn hw ak
  by_cases al : l < -1 ∨ (g.l.length : Int) ≤ l ∨ a < 0 ∨ (g.c.length : Int) ≤ a
  · obtain rfl : 1 = E := by rw [← hE.out, if_pos al]
    clear hE NA
    rcases Classical.em (l < -1) with a1 | a1
    · clear al
      go_enter Tryd.func39, Tryd.ntmps39
      go_wp2_with (first | (go_at_call 30; refine (WD.out _).mono ?_; rintro e w3 ⟨rfl, rfl⟩) | (go_at_call 70; refine (NA.out _).mono ?_; rintro e w4 ⟨rfl, b4⟩))
      go_ret
      exact ⟨rfl, (fresh1 _ _).trans ((fresh1 _ _).mono (by simp))⟩
    rcases Classical.em ((g.l.length : Int) ≤ l) with a2 | a2
    · clear al
      go_enter Tryd.func39, Tryd.ntmps39
      go_wp2_with (first | (go_at_call 30; refine (WD.out _).mono ?_; rintro e w3 ⟨rfl, rfl⟩) | (go_at_call 70; refine (NA.out _).mono ?_; rintro e w4 ⟨rfl, b4⟩))
      go_ret
      exact ⟨rfl, (fresh1 _ _).trans ((fresh1 _ _).mono (by simp))⟩
    rcases Classical.em (a < 0) with a3 | a3
    · clear al
      go_enter Tryd.func39, Tryd.ntmps39
      go_wp2_with (first | (go_at_call 30; refine (WD.out _).mono ?_; rintro e w3 ⟨rfl, rfl⟩) | (go_at_call 70; refine (NA.out _).mono ?_; rintro e w4 ⟨rfl, b4⟩))
      go_ret
      exact ⟨rfl, (fresh1 _ _).trans ((fresh1 _ _).mono (by simp))⟩
    have a4 : (g.c.length : Int) ≤ a := by omega
    clear al
    go_enter Tryd.func39, Tryd.ntmps39
    go_wp2_with (first | (go_at_call 30; refine (WD.out _).mono ?_; rintro e w3 ⟨rfl, rfl⟩) | (go_at_call 70; refine (NA.out _).mono ?_; rintro e w4 ⟨rfl, b4⟩))
    go_ret
    exact ⟨rfl, (fresh1 _ _).trans ((fresh1 _ _).mono (by simp))⟩
  replace hE := Lib.hid ((if_neg al).symm.trans hE.out)
  have a1 : ¬ l < -1 := by omega
  have a2 : ¬ (g.l.length : Int) ≤ l := by omega
  have a3 : ¬ a < 0 := by omega
  have a4 : ¬ (g.c.length : Int) ≤ a := by omega
  clear al
  by_cases e1 : whereB k l = false
  · obtain rfl : 10 = E := by rw [← hE.out, if_pos e1]
    clear hE NA
    unfold whereB at e1
    by_cases b1 : k ≤ 2
    · rw [if_pos b1] at e1
      have hl := of_decide_eq_false e1
      have hl2 : (l == -1) = false := by rw [beq_eq_false_iff_ne]; exact hl
      clear e1
      go_enter Tryd.func39, Tryd.ntmps39
      go_wp2_with (first | (go_at_call 30; refine (WD.out _).mono ?_; rintro e w3 ⟨rfl, rfl⟩) | (go_at_call 70; refine (NA.out _).mono ?_; rintro e w4 ⟨rfl, b4⟩))
      go_ret
      exact ⟨rfl, (fresh1 _ _).trans ((fresh1 _ _).mono (by simp))⟩
    rw [if_neg b1] at e1
    by_cases b2 : 7 ≤ k ∧ k ≤ 9
    · rw [if_pos b2] at e1
      have hl : l = -1 := by simpa using e1
      obtain ⟨b2, b3⟩ := b2
      subst hl
      clear e1 a1
      go_enter Tryd.func39, Tryd.ntmps39
      go_wp2_with (first | (go_at_call 30; refine (WD.out _).mono ?_; rintro e w3 ⟨rfl, rfl⟩) | (go_at_call 70; refine (NA.out _).mono ?_; rintro e w4 ⟨rfl, b4⟩))
      go_ret
      exact ⟨rfl, (fresh1 _ _).trans ((fresh1 _ _).mono (by simp))⟩
    · rw [if_neg b2] at e1
      cases e1
  replace hE := Lib.hid ((if_neg e1).symm.trans hE.out)
  have W : ∀ R : Int, E = R → (numsB k x y = false ∧ R = 1 ∨ numsB k x y = true ∧ R = 0) →
      Calls Tryd.prog 39 #[.agg #[.slice va g.c.length vi, .slice vb g.l.length vj, .slice vd g.o.length vk, .slice ve g.h.length vm], .agg #[sV n, .int .i64 k, .int .i64 l, .int .i64 a, .int .i64 x, .int .i64 y]] w fun e w' => e = .returned (.int .i64 R) ∧ Below w.heap.size w w' := fun R _ hR => by
    clear hE
    unfold whereB at e1
    rcases hR with ⟨hv, rfl⟩ | ⟨hv, rfl⟩
    all_goals
      rw [hv] at NA
      replace NA := Lib.hid NA
      clear hv
      by_cases b1 : k ≤ 2
      · rw [if_pos b1] at e1
        have hl : l = -1 := by simpa using e1
        subst hl
        clear e1 a1
        go_enter Tryd.func39, Tryd.ntmps39
        go_wp2_with (first | (go_at_call 30; refine (WD.out _).mono ?_; rintro e w3 ⟨rfl, rfl⟩) | (go_at_call 70; refine (NA.out _).mono ?_; rintro e w4 ⟨rfl, b4⟩))
        go_ret
        exact ⟨rfl, (fresh1 _ _).trans (((fresh1 _ _).trans (b4.mono (by simp))).mono (by simp))⟩
      rw [if_neg b1] at e1
      by_cases b2 : 7 ≤ k ∧ k ≤ 9
      · rw [if_pos b2] at e1
        have hl : l ≠ -1 := by simpa using e1
        have hl2 : (l == -1) = false := by rw [beq_eq_false_iff_ne]; exact hl
        obtain ⟨b2, b3⟩ := b2
        clear e1 hl
        go_enter Tryd.func39, Tryd.ntmps39
        go_wp2_with (first | (go_at_call 30; refine (WD.out _).mono ?_; rintro e w3 ⟨rfl, rfl⟩) | (go_at_call 70; refine (NA.out _).mono ?_; rintro e w4 ⟨rfl, b4⟩))
        go_ret
        exact ⟨rfl, (fresh1 _ _).trans (((fresh1 _ _).trans (b4.mono (by simp))).mono (by simp))⟩
      clear e1
      by_cases b3 : 7 ≤ k
      · have b4' : ¬ k ≤ 9 := by omega
        clear b2
        go_enter Tryd.func39, Tryd.ntmps39
        go_wp2_with (first | (go_at_call 30; refine (WD.out _).mono ?_; rintro e w3 ⟨rfl, rfl⟩) | (go_at_call 70; refine (NA.out _).mono ?_; rintro e w4 ⟨rfl, b4⟩))
        go_ret
        exact ⟨rfl, (fresh1 _ _).trans (((fresh1 _ _).trans (b4.mono (by simp))).mono (by simp))⟩
      · clear b2
        go_enter Tryd.func39, Tryd.ntmps39
        go_wp2_with (first | (go_at_call 30; refine (WD.out _).mono ?_; rintro e w3 ⟨rfl, rfl⟩) | (go_at_call 70; refine (NA.out _).mono ?_; rintro e w4 ⟨rfl, b4⟩))
        go_ret
        exact ⟨rfl, (fresh1 _ _).trans (((fresh1 _ _).trans (b4.mono (by simp))).mono (by simp))⟩
  by_cases e2 : numsB k x y = false
  · exact W E rfl (.inl ⟨e2, by rw [← hE.out, if_pos e2]⟩)
  · exact W E rfl (.inr ⟨by simpa using e2, by rw [← hE.out, if_neg e2]⟩)
end Go.Proofs.YtlbphlhbofjfgaaDoor.graph
