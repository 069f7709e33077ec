/-
  What comes of a path and a time, and of two paths, is within its kinds.
-/
import Derived.Test.YtilkdpobkcocoaaLw
import Derived.Test.YtilkdpobkcocoaaRg2
import Derived.Test.YtilkdpobkcocoaaEq
namespace Go.Proofs.Ytilkdpobkcocoaa.path
open Go.Proofs.Ytilkdpobkcocoaa.tm Go.Proofs.Ytilkdpobkcocoaa.pa
theorem in_apply {p : Pa} {t : Tm} (i : p.In) (j : t.In) : (applyV p t).In := by
  unfold applyV
  split
  · rename_i h
    obtain ⟨a, b, c, d⟩ := apply_zero h
    have z := chk_zero (raw_chk a b c d)
    have i1 := i.p00
    have i2 := i.p10
    have i3 := i.p20
    have i4 := i.p30
    have k1 := i.l00
    have k2 := i.l10
    have k3 := i.l20
    have j1 := j.e0
    have j2 := j.a0
    have j3 := j.b0
    have j4 := j.c0
    have n : 0 ≤ (rawT p t).e ∧ 0 ≤ (rawT p t).a ∧ 0 ≤ (rawT p t).b ∧ 0 ≤ (rawT p t).c := by
      unfold rawT
      dsimp only
      refine ⟨by omega, ?_, ?_, ?_⟩ <;> repeat' split
      all_goals omega
    constructor <;> omega
  · constructor <;> decide
theorem raw_nn {p : Pa} {t : Tm} (i : p.In) (j : t.In) : 0 ≤ (rawT p t).e ∧ 0 ≤ (rawT p t).a ∧ 0 ≤ (rawT p t).b ∧ 0 ≤ (rawT p t).c := by
  have i1 := i.p00
  have i2 := i.p10
  have i3 := i.p20
  have i4 := i.p30
  have k1 := i.l00
  have k2 := i.l10
  have k3 := i.l20
  have j1 := j.e0
  have j2 := j.a0
  have j3 := j.b0
  have j4 := j.c0
  unfold rawT
  dsimp only
  refine ⟨by omega, ?_, ?_, ?_⟩ <;> repeat' split
  all_goals omega
theorem in_then {p q : Pa} (i : p.In) (j : q.In) : (thenV p q).In := by
  by_cases h : thenE p q = 0
  · obtain ⟨hp, hq, -, -⟩ := then_zero h
    have c := chkP_open (then_chk h)
    have n := raw_nn (t := fstT p) j (in_fst i hp)
    rw [then_val h] at c ⊢
    generalize rawT q (fstT p) = T at c n
    have nn : ∀ x : Int, 0 ≤ nth T x := fun x => by
      unfold nth
      repeat' split
      all_goals omega
    have m1 := nn (minI' p.k q.k)
    have m2 := nn (minI' p.k q.k + 1)
    have m3 := nn (minI' p.k q.k + 2)
    generalize minI' p.k q.k = K at c m1 m2 m3
    unfold cutP at c ⊢
    dsimp only at c
    have z1 : 0 ≤ (if 1 ≤ K then T.a else 0) := by split <;> omega
    have z2 : 0 ≤ (if 2 ≤ K then T.b else 0) := by split <;> omega
    have z3 : 0 ≤ (if 3 ≤ K then T.c else 0) := by split <;> omega
    constructor <;> dsimp only <;> omega
  · unfold thenV
    rw [if_neg h]
    constructor <;> decide
end Go.Proofs.Ytilkdpobkcocoaa.path
