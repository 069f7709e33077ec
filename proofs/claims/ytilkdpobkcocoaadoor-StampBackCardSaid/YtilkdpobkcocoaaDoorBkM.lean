/-
  Plain: what a loop gave is taken back; a round more, and an epoch more, are behind.
-/
import Derived.Test.YtilkdpobkcocoaaDoorTxM
import Derived.Test.YtilkdpobkcocoaaDoorMv3
namespace Go.Proofs.YtilkdpobkcocoaaDoor.stamp
open Go.Proofs.YtilkdpobkcocoaaDoor.tm

theorem leB_iff' {s t : Tm} : leB s t = true ↔ (s.d = t.d ∧ 0 ≤ s.d ∧ s.d ≤ 3 ∧ s.e ≤ t.e ∧ (1 ≤ s.d → s.a ≤ t.a) ∧ (2 ≤ s.d → s.b ≤ t.b) ∧ (3 ≤ s.d → s.c ≤ t.c)) := by unfold leB; exact decide_eq_true_iff
theorem len_wrt (t : Tm) : (wrtL t).length ≤ 60 := by
  have h1 := len_encI t.d
  have h2 := len_encs (cnt t)
  have h3 : (cnt t).length ≤ 4 := by
    unfold cnt
    split
    · simp
    · split
      · simp
      · split <;> simp
  unfold wrtL
  rw [List.length_append]
  omega
theorem bk_top {t : Tm} (h : chk t = 0) (d : t.d = 3) : enterE t = 10 ∧ enterV t = T0 := by
  unfold enterE enterV
  rw [if_pos h, if_pos d, if_pos h, if_pos d]
  exact ⟨rfl, rfl⟩
theorem bk_in {t : Tm} (i : t.In) (h : chk t = 0) (d : t.d ≠ 3) : enterE t = 0 ∧ (enterV t).In ∧ inn (enterV t) = 0 ∧ leaveV (enterV t) = t ∧ nextE (enterV t) = 0 ∧ (nextV (enterV t)).In ∧ inn (nextV (enterV t)) = 0 ∧ leaveV (nextV (enterV t)) = t ∧ leB (enterV t) (nextV (enterV t)) = true ∧ leB (nextV (enterV t)) (enterV t) = false := by
  obtain ⟨z0, z1, ze, za, zb, zc, ya, yb, yc⟩ := chk_zero h
  have e0 := i.e0
  have a0 := i.a0
  have b0 := i.b0
  have c0 := i.c0
  have hE : enterE t = 0 := by unfold enterE; rw [if_pos h, if_neg d]
  have hV : enterV t = ⟨t.e, t.d + 1, t.a, t.b, t.c⟩ := by unfold enterV; rw [if_pos h, if_neg d]
  rw [hV]
  refine ⟨hE, ?_⟩
  clear hE hV h i
  obtain ⟨e, dd, a, b, c⟩ := t
  dsimp only at *
  have hc : chk ⟨e, dd + 1, a, b, c⟩ = 0 := by
    refine chk_ok ?_ ?_ ?_ <;> dsimp only <;> omega
  have hi : inn ⟨e, dd + 1, a, b, c⟩ = 0 := by unfold inn; rw [if_pos hc, if_neg (by dsimp only; omega)]
  have hk : dd = 0 ∨ dd = 1 ∨ dd = 2 := by omega
  rcases hk with rfl | rfl | rfl
  · obtain rfl : a = 0 := ya (by omega)
    obtain rfl : b = 0 := yb (by omega)
    obtain rfl : c = 0 := yc (by omega)
    have hl : lastT ⟨e, 0 + 1, 0, 0, 0⟩ = 0 := by simp [lastT]
    have hn : nextE ⟨e, 0 + 1, 0, 0, 0⟩ = 0 := by unfold nextE; rw [if_pos hi, hl, if_neg (by omega)]
    have hv : nextV ⟨e, 0 + 1, 0, 0, 0⟩ = ⟨e, 0 + 1, 1, 0, 0⟩ := by unfold nextV; rw [if_pos hi, hl, if_neg (by omega)]; simp [bumpT]
    have hc2 : chk ⟨e, 0 + 1, 1, 0, 0⟩ = 0 := by refine chk_ok ?_ ?_ ?_ <;> dsimp only <;> omega
    have hi2 : inn ⟨e, 0 + 1, 1, 0, 0⟩ = 0 := by unfold inn; rw [if_pos hc2, if_neg (by dsimp only; omega)]
    refine ⟨by constructor <;> dsimp only <;> omega, hi, ?_, hn, ?_, ?_, ?_, ?_, ?_⟩
    · unfold leaveV; rw [if_pos hi]; simp [dropT]
    · rw [hv]; constructor <;> dsimp only <;> omega
    · rw [hv]; exact hi2
    · rw [hv]; unfold leaveV; rw [if_pos hi2]; simp [dropT]
    · rw [hv, leB_iff']; dsimp only; omega
    · rw [hv, Bool.eq_false_iff, Ne, leB_iff']; dsimp only; omega
  · obtain rfl : b = 0 := yb (by omega)
    obtain rfl : c = 0 := yc (by omega)
    have hl : lastT ⟨e, 1 + 1, a, 0, 0⟩ = 0 := by simp [lastT]
    have hn : nextE ⟨e, 1 + 1, a, 0, 0⟩ = 0 := by unfold nextE; rw [if_pos hi, hl, if_neg (by omega)]
    have hv : nextV ⟨e, 1 + 1, a, 0, 0⟩ = ⟨e, 1 + 1, a, 1, 0⟩ := by unfold nextV; rw [if_pos hi, hl, if_neg (by omega)]; simp [bumpT]
    have hc2 : chk ⟨e, 1 + 1, a, 1, 0⟩ = 0 := by refine chk_ok ?_ ?_ ?_ <;> dsimp only <;> omega
    have hi2 : inn ⟨e, 1 + 1, a, 1, 0⟩ = 0 := by unfold inn; rw [if_pos hc2, if_neg (by dsimp only; omega)]
    refine ⟨by constructor <;> dsimp only <;> omega, hi, ?_, hn, ?_, ?_, ?_, ?_, ?_⟩
    · unfold leaveV; rw [if_pos hi]; simp [dropT]
    · rw [hv]; constructor <;> dsimp only <;> omega
    · rw [hv]; exact hi2
    · rw [hv]; unfold leaveV; rw [if_pos hi2]; simp [dropT]
    · rw [hv, leB_iff']; dsimp only; omega
    · rw [hv, Bool.eq_false_iff, Ne, leB_iff']; dsimp only; omega
  · obtain rfl : c = 0 := yc (by omega)
    have hl : lastT ⟨e, 2 + 1, a, b, 0⟩ = 0 := by simp [lastT]
    have hn : nextE ⟨e, 2 + 1, a, b, 0⟩ = 0 := by unfold nextE; rw [if_pos hi, hl, if_neg (by omega)]
    have hv : nextV ⟨e, 2 + 1, a, b, 0⟩ = ⟨e, 2 + 1, a, b, 1⟩ := by unfold nextV; rw [if_pos hi, hl, if_neg (by omega)]; simp [bumpT]
    have hc2 : chk ⟨e, 2 + 1, a, b, 1⟩ = 0 := by refine chk_ok ?_ ?_ ?_ <;> dsimp only <;> omega
    have hi2 : inn ⟨e, 2 + 1, a, b, 1⟩ = 0 := by unfold inn; rw [if_pos hc2, if_neg (by dsimp only; omega)]
    refine ⟨by constructor <;> dsimp only <;> omega, hi, ?_, hn, ?_, ?_, ?_, ?_, ?_⟩
    · unfold leaveV; rw [if_pos hi]; simp [dropT]
    · rw [hv]; constructor <;> dsimp only <;> omega
    · rw [hv]; exact hi2
    · rw [hv]; unfold leaveV; rw [if_pos hi2]; simp [dropT]
    · rw [hv, leB_iff']; dsimp only; omega
    · rw [hv, Bool.eq_false_iff, Ne, leB_iff']; dsimp only; omega
theorem bk_later {t : Tm} {n : Int} (i : t.In) (n0 : 0 ≤ n) (h : chk t = 0) (e : laterE t n = 0) : (laterV t n).In ∧ leB t (laterV t n) = true ∧ (0 < n → leB (laterV t n) t = false) := by
  obtain ⟨z0, z1, ze, za, zb, zc, ya, yb, yc⟩ := chk_zero h
  have e0 := i.e0
  have a0 := i.a0
  have b0 := i.b0
  have c0 := i.c0
  unfold laterE at e
  rw [if_pos h] at e
  split at e
  · omega
  · rename_i h1
    split at e
    · omega
    · rename_i h2
      have hv : laterV t n = ⟨t.e + n, t.d, t.a, t.b, t.c⟩ := by unfold laterV; rw [if_pos h, if_neg h1, if_neg h2]
      rw [hv]
      refine ⟨by constructor <;> dsimp only <;> omega, ?_, fun hn => ?_⟩
      · rw [leB_iff']; dsimp only; omega
      · rw [Bool.eq_false_iff, Ne, leB_iff']; dsimp only; omega
end Go.Proofs.YtilkdpobkcocoaaDoor.stamp
