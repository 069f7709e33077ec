/-
  Plain: times, what is wrong with one, and how they stand.
-/
namespace Go.Proofs.YtfjfohkdlikpiaaDoor.tm

/-- A time: the epoch, the depth, the rounds. -/
structure Tm where
  e : Int
  d : Int
  a : Int
  b : Int
  c : Int
deriving DecidableEq
/-- Each number is one that its kind can hold. -/
structure Tm.In (t : Tm) : Prop where
  e0 : 0 ≤ t.e
  e1 : t.e ≤ 4294967295
  d0 : -9223372036854775808 ≤ t.d
  d1 : t.d ≤ 9223372036854775807
  a0 : 0 ≤ t.a
  a1 : t.a ≤ 4294967295
  b0 : 0 ≤ t.b
  b1 : t.b ≤ 4294967295
  c0 : 0 ≤ t.c
  c1 : t.c ≤ 4294967295
def zeroT (d : Int) : Tm := ⟨0, d, 0, 0, 0⟩
/-- What Check tells. -/
def chk (t : Tm) : Int :=
  if t.d < 0 ∨ 3 < t.d then 10
  else if 1048576 < t.e ∨ 1048576 < t.a ∨ 1048576 < t.b ∨ 1048576 < t.c then 1
  else if (t.d ≤ 0 ∧ t.a ≠ 0) ∨ (t.d ≤ 1 ∧ t.b ≠ 0) ∨ (t.d ≤ 2 ∧ t.c ≠ 0) then 6
  else 0
theorem chk_depth {t : Tm} (h : t.d < 0 ∨ 3 < t.d) : chk t = 10 := by unfold chk; rw [if_pos h]
theorem chk_range {t : Tm} (h : ¬ (t.d < 0 ∨ 3 < t.d)) (k : 1048576 < t.e ∨ 1048576 < t.a ∨ 1048576 < t.b ∨ 1048576 < t.c) : chk t = 1 := by unfold chk; rw [if_neg h, if_pos k]
theorem chk_field {t : Tm} (h : ¬ (t.d < 0 ∨ 3 < t.d)) (k : ¬ (1048576 < t.e ∨ 1048576 < t.a ∨ 1048576 < t.b ∨ 1048576 < t.c))
    (z : (t.d ≤ 0 ∧ t.a ≠ 0) ∨ (t.d ≤ 1 ∧ t.b ≠ 0) ∨ (t.d ≤ 2 ∧ t.c ≠ 0)) : chk t = 6 := by unfold chk; rw [if_neg h, if_neg k, if_pos z]
theorem chk_ok {t : Tm} (h : ¬ (t.d < 0 ∨ 3 < t.d)) (k : ¬ (1048576 < t.e ∨ 1048576 < t.a ∨ 1048576 < t.b ∨ 1048576 < t.c))
    (z : ¬ ((t.d ≤ 0 ∧ t.a ≠ 0) ∨ (t.d ≤ 1 ∧ t.b ≠ 0) ∨ (t.d ≤ 2 ∧ t.c ≠ 0))) : chk t = 0 := by unfold chk; rw [if_neg h, if_neg k, if_neg z]
theorem chk_cases (t : Tm) : chk t = 0 ∨ chk t = 1 ∨ chk t = 6 ∨ chk t = 10 := by
  unfold chk
  split
  · simp
  · split
    · simp
    · split <;> simp
/-- Is a time not behind another one? -/
def leB (s t : Tm) : Bool := decide (s.d = t.d ∧ 0 ≤ s.d ∧ s.d ≤ 3 ∧ s.e ≤ t.e ∧ (1 ≤ s.d → s.a ≤ t.a) ∧ (2 ≤ s.d → s.b ≤ t.b) ∧ (3 ≤ s.d → s.c ≤ t.c))
theorem leB_yes {s t : Tm} (h : s.d = t.d ∧ 0 ≤ s.d ∧ s.d ≤ 3 ∧ s.e ≤ t.e ∧ (1 ≤ s.d → s.a ≤ t.a) ∧ (2 ≤ s.d → s.b ≤ t.b) ∧ (3 ≤ s.d → s.c ≤ t.c)) : leB s t = true := by unfold leB; exact decide_eq_true h
theorem leB_no {s t : Tm} (h : ¬ (s.d = t.d ∧ 0 ≤ s.d ∧ s.d ≤ 3 ∧ s.e ≤ t.e ∧ (1 ≤ s.d → s.a ≤ t.a) ∧ (2 ≤ s.d → s.b ≤ t.b) ∧ (3 ≤ s.d → s.c ≤ t.c))) : leB s t = false := by unfold leB; exact decide_eq_false h
theorem leB_iff {s t : Tm} : leB s t = true ↔ (s.d = t.d ∧ 0 ≤ s.d ∧ s.d ≤ 3 ∧ s.e ≤ t.e ∧ (1 ≤ s.d → s.a ≤ t.a) ∧ (2 ≤ s.d → s.b ≤ t.b) ∧ (3 ≤ s.d → s.c ≤ t.c)) := by unfold leB; exact decide_eq_true_iff
/-- What Compare answers of two numbers. -/
def cmpI (x y : Int) : Int := if x < y then -1 else if y < x then 1 else 0
/-- The first of two answers, if it is not nought, and else the second. -/
def orI (x y : Int) : Int := if x = 0 then y else x
/-- The total order of times. -/
def cmpT (s t : Tm) : Int := orI (cmpI s.d t.d) (orI (cmpI s.e t.e) (orI (cmpI s.a t.a) (orI (cmpI s.b t.b) (cmpI s.c t.c))))
theorem cmpI_self (x : Int) : cmpI x x = 0 := by simp [cmpI]
theorem cmpI_ne {x y : Int} (h : x ≠ y) : cmpI x y ≠ 0 := by
  unfold cmpI
  split
  · omega
  · split
    · omega
    · omega
theorem cmpI_lt {x y : Int} (h : x < y) : cmpI x y = -1 := by simp [cmpI, h]
theorem cmpI_gt {x y : Int} (h : y < x) : cmpI x y = 1 := by
  have : ¬ x < y := by omega
  simp [cmpI, h, this]
theorem cmpT_self (t : Tm) : cmpT t t = 0 := by simp [cmpT, cmpI_self, orI]
/-- Are two times one? -/
def eqT (s t : Tm) : Bool := decide (s = t)
theorem eqT_self (t : Tm) : eqT t t = true := by simp [eqT]
theorem eqT_iff {s t : Tm} : eqT s t = true ↔ s = t := by simp [eqT]
theorem eqT_no {s t : Tm} (h : s ≠ t) : eqT s t = false := by simp [eqT, h]
def T0 : Tm := ⟨0, 0, 0, 0, 0⟩
/-- What is asked of one that is within a loop. -/
def inn (t : Tm) : Int := if chk t = 0 then (if t.d = 0 then 10 else 0) else chk t
/-- What is asked of two. -/
def both (s t : Tm) : Int := if chk s = 0 then (if chk t = 0 then (if s.d = t.d then 0 else 10) else chk t) else chk s
def zeroV (d : Int) : Tm := if d < 0 ∨ 3 < d then T0 else ⟨0, d, 0, 0, 0⟩
def zeroE (d : Int) : Int := if d < 0 ∨ 3 < d then 10 else 0
def enterV (t : Tm) : Tm := if chk t = 0 then (if t.d = 3 then T0 else ⟨t.e, t.d + 1, t.a, t.b, t.c⟩) else T0
def enterE (t : Tm) : Int := if chk t = 0 then (if t.d = 3 then 10 else 0) else chk t
def dropT (t : Tm) : Tm := ⟨t.e, t.d - 1, if t.d = 1 then 0 else t.a, if t.d = 2 then 0 else t.b, if t.d = 3 then 0 else t.c⟩
def leaveV (t : Tm) : Tm := if inn t = 0 then dropT t else T0
def lastT (t : Tm) : Int := if t.d = 1 then t.a else if t.d = 2 then t.b else t.c
def bumpT (t : Tm) : Tm := ⟨t.e, t.d, if t.d = 1 then t.a + 1 else t.a, if t.d = 2 then t.b + 1 else t.b, if t.d = 3 then t.c + 1 else t.c⟩
def nextV (t : Tm) : Tm := if inn t = 0 then (if lastT t = 1048576 then T0 else bumpT t) else T0
def nextE (t : Tm) : Int := if inn t = 0 then (if lastT t = 1048576 then 9 else 0) else inn t
def laterV (t : Tm) (n : Int) : Tm := if chk t = 0 then (if 1048576 < n then T0 else if 1048576 < t.e + n then T0 else ⟨t.e + n, t.d, t.a, t.b, t.c⟩) else T0
def laterE (t : Tm) (n : Int) : Int := if chk t = 0 then (if 1048576 < n then 1 else if 1048576 < t.e + n then 9 else 0) else chk t
def maxI (x y : Int) : Int := if y > x then y else x
def minI (x y : Int) : Int := if y < x then y else x
def joinV (s t : Tm) : Tm := if both s t = 0 then ⟨maxI s.e t.e, s.d, maxI s.a t.a, maxI s.b t.b, maxI s.c t.c⟩ else T0
def meetV (s t : Tm) : Tm := if both s t = 0 then ⟨minI s.e t.e, s.d, minI s.a t.a, minI s.b t.b, minI s.c t.c⟩ else T0

/-- A time is one, if nothing is wrong with it. -/
theorem chk_zero {t : Tm} (h : chk t = 0) : 0 ≤ t.d ∧ t.d ≤ 3 ∧ t.e ≤ 1048576 ∧ t.a ≤ 1048576 ∧ t.b ≤ 1048576 ∧ t.c ≤ 1048576 ∧ (t.d ≤ 0 → t.a = 0) ∧ (t.d ≤ 1 → t.b = 0) ∧ (t.d ≤ 2 → t.c = 0) := by
  unfold chk at h
  split at h
  · omega
  · split at h
    · omega
    · split at h
      · omega
      · omega
theorem inn_zero {t : Tm} (h : inn t = 0) : chk t = 0 ∧ t.d ≠ 0 := by
  unfold inn at h
  split at h
  · split at h
    · omega
    · exact ⟨by assumption, by assumption⟩
  · omega
theorem both_zero {s t : Tm} (h : both s t = 0) : chk s = 0 ∧ chk t = 0 ∧ s.d = t.d := by
  unfold both at h
  split at h
  · split at h
    · split at h
      · exact ⟨by assumption, by assumption, by assumption⟩
      · omega
    · omega
  · omega
end Go.Proofs.YtfjfohkdlikpiaaDoor.tm
