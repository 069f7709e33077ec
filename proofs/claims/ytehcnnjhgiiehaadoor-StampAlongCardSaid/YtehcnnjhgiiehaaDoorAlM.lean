/-
  Plain: what is not behind stays so within a loop, outside of it, in the next round, and later.
-/
import Derived.Test.YtehcnnjhgiiehaaDoorTm
namespace Go.Proofs.YtehcnnjhgiiehaaDoor.tm

theorem in_T0 : T0.In := by constructor <;> decide
theorem in_enter {t : Tm} (i : t.In) : (enterV t).In := by
  unfold enterV
  split
  · rename_i h
    split
    · exact in_T0
    · have z := chk_zero h
      obtain ⟨a1, a2, a3, a4, a5, a6, a7, a8, a9, a10⟩ := i
      constructor <;> dsimp only <;> omega
  · exact in_T0
theorem in_leave {t : Tm} (i : t.In) : (leaveV t).In := by
  unfold leaveV
  split
  · rename_i h
    have z := chk_zero (inn_zero h).1
    obtain ⟨a1, a2, a3, a4, a5, a6, a7, a8, a9, a10⟩ := i
    constructor <;> dsimp only [dropT] <;> (try split) <;> omega
  · exact in_T0
theorem in_next {t : Tm} (i : t.In) : (nextV t).In := by
  unfold nextV
  split
  · rename_i h
    split
    · exact in_T0
    · have z := chk_zero (inn_zero h).1
      obtain ⟨a1, a2, a3, a4, a5, a6, a7, a8, a9, a10⟩ := i
      constructor <;> dsimp only [bumpT] <;> (try split) <;> omega
  · exact in_T0
theorem in_later {t : Tm} {n : Int} (i : t.In) (n0 : 0 ≤ n) : (laterV t n).In := by
  unfold laterV
  split
  · rename_i h
    split
    · exact in_T0
    · split
      · exact in_T0
      · have z := chk_zero h
        obtain ⟨a1, a2, a3, a4, a5, a6, a7, a8, a9, a10⟩ := i
        constructor <;> dsimp only <;> omega
  · exact in_T0
theorem al_enter {a b : Tm} (ha : chk a = 0) (hb : chk b = 0) (h : leB a b = true) : enterE a = enterE b ∧ (enterE a = 0 → leB (enterV a) (enterV b) = true) := by
  have za := chk_zero ha
  have zb := chk_zero hb
  rw [leB_iff] at h
  unfold enterE enterV
  rw [if_pos ha, if_pos hb, if_pos ha, if_pos hb]
  by_cases e : a.d = 3
  · rw [if_pos e, if_pos (by omega)]
    exact ⟨rfl, fun k => by omega⟩
  · rw [if_neg e, if_neg (by omega), if_neg e, if_neg (by omega)]
    refine ⟨rfl, fun _ => ?_⟩
    rw [leB_iff]
    dsimp only
    omega
theorem al_inn {a b : Tm} (ha : chk a = 0) (hb : chk b = 0) (h : leB a b = true) : inn a = inn b := by
  rw [leB_iff] at h
  unfold inn
  rw [if_pos ha, if_pos hb]
  by_cases e : a.d = 0
  · rw [if_pos e, if_pos (by omega)]
  · rw [if_neg e, if_neg (by omega)]
theorem al_leave {a b : Tm} (ha : chk a = 0) (hb : chk b = 0) (h : leB a b = true) (e : inn a = 0) : leB (leaveV a) (leaveV b) = true := by
  have e' := al_inn ha hb h
  have za := chk_zero ha
  have zb := chk_zero hb
  have na := (inn_zero e).2
  rw [leB_iff] at h
  unfold leaveV
  rw [if_pos e, if_pos (by omega), leB_iff]
  obtain ⟨ae, ad, aa, ab, ac⟩ := a
  obtain ⟨be, bd, ba, bb, bc⟩ := b
  dsimp only [dropT] at *
  obtain ⟨rfl, h⟩ := h
  rcases (show ad = 1 ∨ ad = 2 ∨ ad = 3 by omega) with rfl | rfl | rfl <;> simp <;> omega
theorem al_next {a b : Tm} (ha : chk a = 0) (hb : chk b = 0) (h : leB a b = true) (e : nextE b = 0) : nextE a = 0 ∧ leB (nextV a) (nextV b) = true := by
  have e' := al_inn ha hb h
  have za := chk_zero ha
  have zb := chk_zero hb
  rw [leB_iff] at h
  unfold nextE nextV at *
  by_cases eb : inn b = 0
  · have na := (inn_zero eb).2
    rw [if_pos eb] at e
    by_cases lb : lastT b = 1048576
    · rw [if_pos lb] at e; omega
    · have la : lastT a ≠ 1048576 := by
        unfold lastT at *
        obtain ⟨ae, ad, aa, ab, ac⟩ := a
        obtain ⟨be, bd, ba, bb, bc⟩ := b
        dsimp only at *
        obtain ⟨rfl, h⟩ := h
        rcases (show ad = 1 ∨ ad = 2 ∨ ad = 3 by omega) with rfl | rfl | rfl <;> simp at lb ⊢ <;> omega
      rw [if_pos (by omega), if_neg la, if_pos (by omega), if_neg la, if_pos eb, if_neg lb]
      refine ⟨rfl, ?_⟩
      rw [leB_iff]
      obtain ⟨ae, ad, aa, ab, ac⟩ := a
      obtain ⟨be, bd, ba, bb, bc⟩ := b
      dsimp only [bumpT] at *
      obtain ⟨rfl, h⟩ := h
      rcases (show ad = 1 ∨ ad = 2 ∨ ad = 3 by omega) with rfl | rfl | rfl <;> simp <;> omega
  · rw [if_neg eb] at e; omega
theorem al_later {a b : Tm} {n : Int} (ha : chk a = 0) (hb : chk b = 0) (h : leB a b = true) (e : laterE b n = 0) : laterE a n = 0 ∧ leB (laterV a n) (laterV b n) = true := by
  have za := chk_zero ha
  have zb := chk_zero hb
  rw [leB_iff] at h
  unfold laterE laterV at *
  rw [if_pos hb] at e
  rw [if_pos ha, if_pos ha, if_pos hb]
  by_cases en : 1048576 < n
  · rw [if_pos en] at e; omega
  · rw [if_neg en] at e
    by_cases es : 1048576 < b.e + n
    · rw [if_pos es] at e; omega
    · rw [if_neg en, if_neg (by omega), if_neg en, if_neg (by omega), if_neg en, if_neg es]
      refine ⟨rfl, ?_⟩
      rw [leB_iff]
      dsimp only
      omega
end Go.Proofs.YtehcnnjhgiiehaaDoor.tm
