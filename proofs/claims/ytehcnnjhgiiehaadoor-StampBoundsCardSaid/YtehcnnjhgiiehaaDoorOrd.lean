/-
  LE and Compare of times: order.
-/
import Derived.Test.YtehcnnjhgiiehaaDoorTm
namespace Go.Proofs.YtehcnnjhgiiehaaDoor.tm
theorem cmpI_neg (x y : Int) : cmpI y x = -cmpI x y := by unfold cmpI; repeat' split <;> omega
theorem cmpI_le (x y : Int) : -1 ≤ cmpI x y ∧ cmpI x y ≤ 1 := by unfold cmpI; repeat' split <;> omega
theorem cmpI_zero {x y : Int} : cmpI x y = 0 ↔ x = y := by unfold cmpI; repeat' split <;> omega
theorem cmpI_neg0 {x y : Int} : cmpI x y < 0 ↔ x < y := by unfold cmpI; repeat' split <;> omega
theorem orI_neg (x y : Int) : orI (-x) (-y) = -orI x y := by unfold orI; repeat' split <;> omega
theorem orI_le {x y : Int} (hx : -1 ≤ x ∧ x ≤ 1) (hy : -1 ≤ y ∧ y ≤ 1) : -1 ≤ orI x y ∧ orI x y ≤ 1 := by unfold orI; split <;> assumption
theorem orI_zero {x y : Int} : orI x y = 0 ↔ x = 0 ∧ y = 0 := by unfold orI; split <;> omega
theorem orI_le0 {x y : Int} : orI x y ≤ 0 ↔ x < 0 ∨ (x = 0 ∧ y ≤ 0) := by unfold orI; split <;> omega
theorem cmpI_le0 {x y : Int} : cmpI x y ≤ 0 ↔ x ≤ y := by unfold cmpI; repeat' split <;> omega
theorem cmpT_neg (s t : Tm) : cmpT t s = -cmpT s t := by
  unfold cmpT
  rw [cmpI_neg s.d, cmpI_neg s.e, cmpI_neg s.a, cmpI_neg s.b, cmpI_neg s.c, orI_neg, orI_neg, orI_neg, orI_neg]
theorem cmpT_bound (s t : Tm) : -1 ≤ cmpT s t ∧ cmpT s t ≤ 1 := orI_le (cmpI_le _ _) (orI_le (cmpI_le _ _) (orI_le (cmpI_le _ _) (orI_le (cmpI_le _ _) (cmpI_le _ _))))
theorem cmpT_zero {s t : Tm} : cmpT s t = 0 ↔ s = t := by
  unfold cmpT
  rw [orI_zero, orI_zero, orI_zero, orI_zero, cmpI_zero, cmpI_zero, cmpI_zero, cmpI_zero, cmpI_zero]
  constructor
  · rintro ⟨h1, h2, h3, h4, h5⟩
    cases s; cases t
    simp_all
  · rintro rfl
    exact ⟨rfl, rfl, rfl, rfl, rfl⟩
theorem cmpT_le0 {s t : Tm} : cmpT s t ≤ 0 ↔ s.d < t.d ∨ (s.d = t.d ∧ (s.e < t.e ∨ (s.e = t.e ∧ (s.a < t.a ∨ (s.a = t.a ∧ (s.b < t.b ∨ (s.b = t.b ∧ s.c ≤ t.c))))))) := by
  unfold cmpT
  rw [orI_le0, orI_le0, orI_le0, orI_le0, cmpI_le0, cmpI_neg0, cmpI_neg0, cmpI_neg0, cmpI_neg0, cmpI_zero, cmpI_zero, cmpI_zero, cmpI_zero]
theorem cmpT_trans {s t u : Tm} (h : cmpT s t ≤ 0) (k : cmpT t u ≤ 0) : cmpT s u ≤ 0 := by
  rw [cmpT_le0] at *
  omega
theorem leB_trans {s t u : Tm} (h : leB s t = true) (k : leB t u = true) : leB s u = true := by
  rw [leB_iff] at *
  omega
theorem leB_refl {t : Tm} (h : chk t = 0) : leB t t = true := by
  have := chk_zero h
  rw [leB_iff]
  omega
theorem leB_anti {s t : Tm} (h : chk s = 0) (k : chk t = 0) (l : leB s t = true) (m : leB t s = true) : s = t := by
  have h1 := chk_zero h
  have h2 := chk_zero k
  rw [leB_iff] at l m
  have q : s.e = t.e ∧ s.d = t.d ∧ s.a = t.a ∧ s.b = t.b ∧ s.c = t.c := by omega
  cases s; cases t
  simp_all
theorem leB_cmp {s t : Tm} (h : chk s = 0) (k : chk t = 0) (l : leB s t = true) : cmpT s t ≤ 0 := by
  have h1 := chk_zero h
  have h2 := chk_zero k
  rw [leB_iff] at l
  rw [cmpT_le0]
  omega
end Go.Proofs.YtehcnnjhgiiehaaDoor.tm
