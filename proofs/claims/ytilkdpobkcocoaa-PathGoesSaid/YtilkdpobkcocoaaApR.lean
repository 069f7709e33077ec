/-
  The contract of watershedref05.Apply, at any path and any time.
-/
import Derived.Test.YtilkdpobkcocoaaApR1
import Derived.Test.YtilkdpobkcocoaaApR2
import Derived.Test.YtilkdpobkcocoaaApR3
import Derived.Test.YtilkdpobkcocoaaIn
namespace Go.Proofs.Ytilkdpobkcocoaa.path
open Go.ChangeShapes Go.WideShapes Go.ChangeAt Go.RowKit
open Go.Proofs.Ytilkdpobkcocoaa.tm Go.Proofs.Ytilkdpobkcocoaa.opened Go.Proofs.Ytilkdpobkcocoaa.block Go.Proofs.Ytilkdpobkcocoaa.stamp Go.Proofs.Ytilkdpobkcocoaa.pa

theorem raw_in {p : Pa} {t : Tm} (i : p.In) (j : t.In) (h : startE p t = 0) : (rawT p t).In := by
  have hz : chkP p = 0 ∧ chk t = 0 := by
    unfold startE at h
    split at h
    · split at h
      · exact ⟨by assumption, by assumption⟩
      · omega
    · omega
  obtain ⟨⟨d1, d2, d3, d4, d5, d6⟩, ⟨f1, f2, f3, f4⟩, ⟨g1, g2, g3⟩, -⟩ := chkP_open hz.1
  obtain ⟨-, -, f5, f6, f7, f8, -⟩ := chk_zero hz.2
  have n := raw_nn i j
  have hd : (rawT p t).d = p.k + p.u := rfl
  have he : (rawT p t).e = t.e + p.p0 := rfl
  have hs : (rawT p t).a ≤ 2097152 ∧ (rawT p t).b ≤ 2097152 ∧ (rawT p t).c ≤ 2097152 := by
    unfold rawT
    dsimp only
    refine ⟨?_, ?_, ?_⟩ <;> repeat' split
    all_goals omega
  constructor <;> omega
theorem chk_over {t : Tm} (hd : 0 ≤ t.d) (hd' : t.d ≤ 3) (h : overT t) : chk t = 1 := by
  unfold overT at h
  exact chk_range (by omega) (by omega)
theorem applyR_good (p : Pa) (t : Tm) (i : p.In) (j : t.In) (h : startE p t = 0) (w : World) : Calls Try.prog 10 #[.agg #[.int .i64 p.f, .int .i64 p.k, .int .u32 p.p0, .int .u32 p.p1, .int .u32 p.p2, .int .u32 p.p3, .int .i64 p.u, .int .u32 p.l0, .int .u32 p.l1, .int .u32 p.l2], .agg #[.int .u32 t.e, .int .i64 t.d, .int .u32 t.a, .int .u32 t.b, .int .u32 t.c]] w (GivesT (if chk (rawT p t) = 0 then rawT p t else T0) (if chk (rawT p t) = 0 then 0 else 9) w) := by
  have X := Lib.hid (checkR_any (rawT p t) (raw_in i j h))
  have C := Lib.hid (chkPR_any p i)
  have K := Lib.hid (checkR_any t j)
  have hz : chkP p = 0 ∧ chk t = 0 ∧ t.d = p.f := by
    unfold startE at h
    split at h
    · split at h
      · split at h
        · exact ⟨by assumption, by assumption, by assumption⟩
        · omega
      · omega
    · omega
  rw [hz.1] at C
  rw [hz.2.1] at K
  have hd : (t.d != p.f) = false := by simp [hz.2.2]
  obtain ⟨⟨d1, d2, d3, d4, d5, d6⟩, ⟨f1, f2, f3, f4⟩, ⟨g1, g2, g3⟩, -, LU⟩ := chkP_open hz.1
  obtain ⟨-, -, f5, f6, f7, f8, -⟩ := chk_zero hz.2.1
  clear hz h
  have i1 := i.p00
  have i2 := i.p10
  have i3 := i.p20
  have i4 := i.p30
  have j1 := j.e0
  have j2 := j.a0
  have j3 := j.b0
  have j4 := j.c0
  clear i j
  generalize chk (rawT p t) = c at X ⊢
  obtain ⟨f, k, p0, p1, p2, p3, u, l0, l1, l2⟩ := p
  dsimp only at d1 d2 d3 d4 d5 d6 f1 f2 f3 f4 i1 i2 i3 i4 LU C hd
  rcases four d3 (by omega) with rfl | rfl | rfl | rfl
  · rcases (show u = 0 ∨ u = 1 ∨ u = 2 ∨ u = 3 by omega) with rfl | rfl | rfl | rfl
    · have hv : rawT ⟨f, 0, p0, p1, p2, p3, 0, l0, l1, l2⟩ t = Tm.mk (t.e + p0) (0) (0) (0) (0) := by simp [rawT]; try omega
      rw [hv] at X ⊢
      exact applyR_00 f p0 p1 p2 p3 l0 l1 l2 t c C K X hd j1 (by omega) j2 (by omega) j3 (by omega) j4 (by omega) i1 (by omega) i2 (by omega) i3 (by omega) i4 (by omega) w
    · have hv : rawT ⟨f, 0, p0, p1, p2, p3, 1, l0, l1, l2⟩ t = Tm.mk (t.e + p0) (1) (l0) (0) (0) := by simp [rawT]; try omega
      rw [hv] at X ⊢
      exact applyR_01 f p0 p1 p2 p3 l0 l1 l2 t c C K X hd j1 (by omega) j2 (by omega) j3 (by omega) j4 (by omega) i1 (by omega) i2 (by omega) i3 (by omega) i4 (by omega) w
    · have hv : rawT ⟨f, 0, p0, p1, p2, p3, 2, l0, l1, l2⟩ t = Tm.mk (t.e + p0) (2) (l0) (l1) (0) := by simp [rawT]; try omega
      rw [hv] at X ⊢
      exact applyR_02 f p0 p1 p2 p3 l0 l1 l2 t c C K X hd j1 (by omega) j2 (by omega) j3 (by omega) j4 (by omega) i1 (by omega) i2 (by omega) i3 (by omega) i4 (by omega) w
    · have hv : rawT ⟨f, 0, p0, p1, p2, p3, 3, l0, l1, l2⟩ t = Tm.mk (t.e + p0) (3) (l0) (l1) (l2) := by simp [rawT]; try omega
      rw [hv] at X ⊢
      exact applyR_03 f p0 p1 p2 p3 l0 l1 l2 t c C K X hd j1 (by omega) j2 (by omega) j3 (by omega) j4 (by omega) i1 (by omega) i2 (by omega) i3 (by omega) i4 (by omega) w
  · rcases (show u = 0 ∨ u = 1 ∨ u = 2 by omega) with rfl | rfl | rfl
    · have hv : rawT ⟨f, 1, p0, p1, p2, p3, 0, l0, l1, l2⟩ t = Tm.mk (t.e + p0) (1) (t.a + p1) (0) (0) := by simp [rawT]; try omega
      rw [hv] at X ⊢
      exact applyR_10 f p0 p1 p2 p3 l0 l1 l2 t c C K X hd j1 (by omega) j2 (by omega) j3 (by omega) j4 (by omega) i1 (by omega) i2 (by omega) i3 (by omega) i4 (by omega) w
    · have hv : rawT ⟨f, 1, p0, p1, p2, p3, 1, l0, l1, l2⟩ t = Tm.mk (t.e + p0) (2) (t.a + p1) (l0) (0) := by simp [rawT]; try omega
      rw [hv] at X ⊢
      exact applyR_11 f p0 p1 p2 p3 l0 l1 l2 t c C K X hd j1 (by omega) j2 (by omega) j3 (by omega) j4 (by omega) i1 (by omega) i2 (by omega) i3 (by omega) i4 (by omega) w
    · have hv : rawT ⟨f, 1, p0, p1, p2, p3, 2, l0, l1, l2⟩ t = Tm.mk (t.e + p0) (3) (t.a + p1) (l0) (l1) := by simp [rawT]; try omega
      rw [hv] at X ⊢
      exact applyR_12 f p0 p1 p2 p3 l0 l1 l2 t c C K X hd j1 (by omega) j2 (by omega) j3 (by omega) j4 (by omega) i1 (by omega) i2 (by omega) i3 (by omega) i4 (by omega) w
  · rcases (show u = 0 ∨ u = 1 by omega) with rfl | rfl
    · have hv : rawT ⟨f, 2, p0, p1, p2, p3, 0, l0, l1, l2⟩ t = Tm.mk (t.e + p0) (2) (t.a + p1) (t.b + p2) (0) := by simp [rawT]; try omega
      rw [hv] at X ⊢
      exact applyR_20 f p0 p1 p2 p3 l0 l1 l2 t c C K X hd j1 (by omega) j2 (by omega) j3 (by omega) j4 (by omega) i1 (by omega) i2 (by omega) i3 (by omega) i4 (by omega) w
    · have hv : rawT ⟨f, 2, p0, p1, p2, p3, 1, l0, l1, l2⟩ t = Tm.mk (t.e + p0) (3) (t.a + p1) (t.b + p2) (l0) := by simp [rawT]; try omega
      rw [hv] at X ⊢
      exact applyR_21 f p0 p1 p2 p3 l0 l1 l2 t c C K X hd j1 (by omega) j2 (by omega) j3 (by omega) j4 (by omega) i1 (by omega) i2 (by omega) i3 (by omega) i4 (by omega) w
  · obtain rfl : u = 0 := by omega
    have hv : rawT ⟨f, 3, p0, p1, p2, p3, 0, l0, l1, l2⟩ t = Tm.mk (t.e + p0) (3) (t.a + p1) (t.b + p2) (t.c + p3) := by simp [rawT]; try omega
    rw [hv] at X ⊢
    exact applyR_30 f p0 p1 p2 p3 l0 l1 l2 t c C K X hd j1 (by omega) j2 (by omega) j3 (by omega) j4 (by omega) i1 (by omega) i2 (by omega) i3 (by omega) i4 (by omega) w
theorem applyR_any (p : Pa) (t : Tm) (i : p.In) (j : t.In) (w : World) : Calls Try.prog 10 #[.agg #[.int .i64 p.f, .int .i64 p.k, .int .u32 p.p0, .int .u32 p.p1, .int .u32 p.p2, .int .u32 p.p3, .int .i64 p.u, .int .u32 p.l0, .int .u32 p.l1, .int .u32 p.l2], .agg #[.int .u32 t.e, .int .i64 t.d, .int .u32 t.a, .int .u32 t.b, .int .u32 t.c]] w (GivesT (applyV p t) (applyE p t) w) := by
  by_cases h : startE p t = 0
  · have g := applyR_good p t i j h w
    have hz : chkP p = 0 ∧ chk t = 0 ∧ t.d = p.f := by
      unfold startE at h
      split at h
      · split at h
        · split at h
          · exact ⟨by assumption, by assumption, by assumption⟩
          · omega
        · omega
      · omega
    by_cases ov : overT (rawT p t)
    · have a := chkP_open hz.1
      have hc := chk_over (t := rawT p t) (by show 0 ≤ p.k + p.u; omega) (by show p.k + p.u ≤ 3; omega) ov
      rw [show applyE p t = 9 by unfold applyE; rw [if_pos h, if_pos ov], show applyV p t = T0 by unfold applyV applyE; rw [if_pos h, if_pos ov, if_neg (by omega)]]
      rw [if_neg (by omega), if_neg (by omega)] at g
      exact g
    · have hc := raw_chk hz.1 hz.2.1 hz.2.2 ov
      rw [show applyE p t = 0 by unfold applyE; rw [if_pos h, if_neg ov], show applyV p t = rawT p t by unfold applyV applyE; rw [if_pos h, if_neg ov, if_pos rfl]]
      rw [if_pos hc, if_pos hc] at g
      exact g
  · rw [show applyE p t = startE p t by unfold applyE; rw [if_neg h], show applyV p t = T0 by unfold applyV applyE; rw [if_neg h, if_neg h]]
    by_cases z : chkP p = 0
    · by_cases y : chk t = 0
      · by_cases d : t.d = p.f
        · exact absurd (by unfold startE; rw [if_pos z, if_pos y, if_pos d]) h
        · rw [show startE p t = 10 by unfold startE; rw [if_pos z, if_pos y, if_neg d]]
          exact applyR_bad3 p t i j z y d w
      · rw [show startE p t = chk t by unfold startE; rw [if_pos z, if_neg y]]
        exact applyR_bad2 p t i j z y w
    · rw [show startE p t = chkP p by unfold startE; rw [if_neg z]]
      exact applyR_bad1 p t i z w
end Go.Proofs.Ytilkdpobkcocoaa.path
