/-
  Plain: paths, what is wrong with one, what becomes of a time by one, compositions, orders.
  Plain: what compositions do, how paths are ordered.
-/
import Derived.Test.YtpblpjopinllcaaGreatDoorJTm
namespace Go.Proofs.YtpblpjopinllcaaGreatDoor.pa
open Go.Proofs.YtpblpjopinllcaaGreatDoor.tm

/-- A path: from which depth, how many rounds it keeps, what it adds, how many rounds it appends, and which. -/
structure Pa where
  f : Int
  k : Int
  p0 : Int
  p1 : Int
  p2 : Int
  p3 : Int
  u : Int
  l0 : Int
  l1 : Int
  l2 : Int
deriving DecidableEq
/-- Each number is one that its kind can hold. -/
structure Pa.In (p : Pa) : Prop where
  f0 : -9223372036854775808 ≤ p.f
  f1 : p.f ≤ 9223372036854775807
  k0 : -9223372036854775808 ≤ p.k
  k1 : p.k ≤ 9223372036854775807
  p00 : 0 ≤ p.p0
  p01 : p.p0 ≤ 4294967295
  p10 : 0 ≤ p.p1
  p11 : p.p1 ≤ 4294967295
  p20 : 0 ≤ p.p2
  p21 : p.p2 ≤ 4294967295
  p30 : 0 ≤ p.p3
  p31 : p.p3 ≤ 4294967295
  u0 : -9223372036854775808 ≤ p.u
  u1 : p.u ≤ 9223372036854775807
  l00 : 0 ≤ p.l0
  l01 : p.l0 ≤ 4294967295
  l10 : 0 ≤ p.l1
  l11 : p.l1 ≤ 4294967295
  l20 : 0 ≤ p.l2
  l21 : p.l2 ≤ 4294967295
def P0 : Pa := ⟨0, 0, 0, 0, 0, 0, 0, 0, 0, 0⟩
def depP (p : Pa) : Prop := 0 ≤ p.f ∧ p.f ≤ 3 ∧ 0 ≤ p.k ∧ p.k ≤ p.f ∧ 0 ≤ p.u ∧ p.u ≤ 3 - p.k
def plusP (p : Pa) : Prop := p.p0 ≤ 1048576 ∧ p.p1 ≤ 1048576 ∧ p.p2 ≤ 1048576 ∧ p.p3 ≤ 1048576
def loopP (p : Pa) : Prop := p.l0 ≤ 1048576 ∧ p.l1 ≤ 1048576 ∧ p.l2 ≤ 1048576
def fldK (p : Pa) : Prop := (p.k ≤ 0 → p.p1 = 0) ∧ (p.k ≤ 1 → p.p2 = 0) ∧ (p.k ≤ 2 → p.p3 = 0)
def fldU (p : Pa) : Prop := (p.u ≤ 0 → p.l0 = 0) ∧ (p.u ≤ 1 → p.l1 = 0) ∧ (p.u ≤ 2 → p.l2 = 0)
instance (p : Pa) : Decidable (depP p) := by unfold depP; infer_instance
instance (p : Pa) : Decidable (plusP p) := by unfold plusP; infer_instance
instance (p : Pa) : Decidable (loopP p) := by unfold loopP; infer_instance
instance (p : Pa) : Decidable (fldK p) := by unfold fldK; infer_instance
instance (p : Pa) : Decidable (fldU p) := by unfold fldU; infer_instance
/-- What Check tells. -/
def chkP (p : Pa) : Int := if depP p then (if plusP p ∧ loopP p then (if fldK p ∧ fldU p then 0 else 6) else 1) else 10
theorem chkP_dep {p : Pa} (h : ¬ depP p) : chkP p = 10 := by unfold chkP; rw [if_neg h]
theorem chkP_rng {p : Pa} (h : depP p) (k : ¬ (plusP p ∧ loopP p)) : chkP p = 1 := by unfold chkP; rw [if_pos h, if_neg k]
theorem chkP_fld {p : Pa} (h : depP p) (k : plusP p ∧ loopP p) (z : ¬ (fldK p ∧ fldU p)) : chkP p = 6 := by unfold chkP; rw [if_pos h, if_pos k, if_neg z]
theorem chkP_ok {p : Pa} (h : depP p) (k : plusP p ∧ loopP p) (z : fldK p ∧ fldU p) : chkP p = 0 := by unfold chkP; rw [if_pos h, if_pos k, if_pos z]
theorem chkP_zero {p : Pa} (h : chkP p = 0) : depP p ∧ plusP p ∧ loopP p ∧ fldK p ∧ fldU p := by
  unfold chkP at h
  split at h
  · split at h
    · split at h
      · rename_i a b c; exact ⟨a, b.1, b.2, c.1, c.2⟩
      · omega
    · omega
  · omega
/-- The same, open. -/
theorem chkP_open {p : Pa} (h : chkP p = 0) : (0 ≤ p.f ∧ p.f ≤ 3 ∧ 0 ≤ p.k ∧ p.k ≤ p.f ∧ 0 ≤ p.u ∧ p.u ≤ 3 - p.k) ∧ (p.p0 ≤ 1048576 ∧ p.p1 ≤ 1048576 ∧ p.p2 ≤ 1048576 ∧ p.p3 ≤ 1048576) ∧ (p.l0 ≤ 1048576 ∧ p.l1 ≤ 1048576 ∧ p.l2 ≤ 1048576) ∧ ((p.k ≤ 0 → p.p1 = 0) ∧ (p.k ≤ 1 → p.p2 = 0) ∧ (p.k ≤ 2 → p.p3 = 0)) ∧ ((p.u ≤ 0 → p.l0 = 0) ∧ (p.u ≤ 1 → p.l1 = 0) ∧ (p.u ≤ 2 → p.l2 = 0)) := chkP_zero h
theorem chkP_of {p : Pa} (h : (0 ≤ p.f ∧ p.f ≤ 3 ∧ 0 ≤ p.k ∧ p.k ≤ p.f ∧ 0 ≤ p.u ∧ p.u ≤ 3 - p.k) ∧ (p.p0 ≤ 1048576 ∧ p.p1 ≤ 1048576 ∧ p.p2 ≤ 1048576 ∧ p.p3 ≤ 1048576) ∧ (p.l0 ≤ 1048576 ∧ p.l1 ≤ 1048576 ∧ p.l2 ≤ 1048576) ∧ ((p.k ≤ 0 → p.p1 = 0) ∧ (p.k ≤ 1 → p.p2 = 0) ∧ (p.k ≤ 2 → p.p3 = 0)) ∧ ((p.u ≤ 0 → p.l0 = 0) ∧ (p.u ≤ 1 → p.l1 = 0) ∧ (p.u ≤ 2 → p.l2 = 0))) : chkP p = 0 := chkP_ok h.1 ⟨h.2.1, h.2.2.1⟩ h.2.2.2
def toV (p : Pa) : Int := if chkP p = 0 then p.k + p.u else 0
def stayV (d : Int) : Pa := if 0 ≤ d ∧ d ≤ 3 then ⟨d, d, 0, 0, 0, 0, 0, 0, 0, 0⟩ else P0
def stayE (d : Int) : Int := if 0 ≤ d ∧ d ≤ 3 then 0 else 10
def goInV (d : Int) : Pa := if 0 ≤ d ∧ d ≤ 2 then ⟨d, d, 0, 0, 0, 0, 1, 0, 0, 0⟩ else P0
def goInE (d : Int) : Int := if 0 ≤ d ∧ d ≤ 2 then 0 else 10
def goOutV (d : Int) : Pa := if 1 ≤ d ∧ d ≤ 3 then ⟨d, d - 1, 0, 0, 0, 0, 0, 0, 0, 0⟩ else P0
def goOutE (d : Int) : Int := if 1 ≤ d ∧ d ≤ 3 then 0 else 10
def goOnV (d : Int) : Pa := if 1 ≤ d ∧ d ≤ 3 then ⟨d, d, 0, if d = 1 then 1 else 0, if d = 2 then 1 else 0, if d = 3 then 1 else 0, 0, 0, 0, 0⟩ else P0
def goOnE (d : Int) : Int := if 1 ≤ d ∧ d ≤ 3 then 0 else 10
def goByV (d n : Int) : Pa := if 0 ≤ d ∧ d ≤ 3 then (if n ≤ 1048576 then ⟨d, d, n, 0, 0, 0, 0, 0, 0, 0⟩ else P0) else P0
def goByE (d n : Int) : Int := if 0 ≤ d ∧ d ≤ 3 then (if n ≤ 1048576 then 0 else 1) else 10
/-- What is asked of a path and a time. -/
def startE (p : Pa) (t : Tm) : Int := if chkP p = 0 then (if chk t = 0 then (if t.d = p.f then 0 else 10) else chk t) else chkP p
/-- What becomes of a time, if nothing is wrong. -/
def rawT (p : Pa) (t : Tm) : Tm :=
  ⟨t.e + p.p0, p.k + p.u, if 1 ≤ p.k then t.a + p.p1 else p.l0, if 2 ≤ p.k then t.b + p.p2 else if p.k = 1 then p.l0 else p.l1,
    if 3 ≤ p.k then t.c + p.p3 else if p.k = 2 then p.l0 else if p.k = 1 then p.l1 else p.l2⟩
def overT (t : Tm) : Prop := ¬ (t.e ≤ 1048576 ∧ t.a ≤ 1048576 ∧ t.b ≤ 1048576 ∧ t.c ≤ 1048576)
instance (t : Tm) : Decidable (overT t) := by unfold overT; infer_instance
def applyE (p : Pa) (t : Tm) : Int := if startE p t = 0 then (if overT (rawT p t) then 9 else 0) else startE p t
def applyV (p : Pa) (t : Tm) : Tm := if applyE p t = 0 then rawT p t else T0
/-- What becomes of the first time of the depth from which a path comes. -/
def fstT (p : Pa) : Tm := rawT p ⟨0, p.f, 0, 0, 0⟩
def fstV (p : Pa) : Tm := if chkP p = 0 then fstT p else T0
def nth (t : Tm) (i : Int) : Int := if i = 0 then t.a else if i = 1 then t.b else if i = 2 then t.c else 0
def minI' (x y : Int) : Int := if x ≤ y then x else y
/-- A path that makes of the first time another one, and keeps so many rounds. -/
def cutP (f k : Int) (t : Tm) : Pa := ⟨f, k, t.e, if 1 ≤ k then t.a else 0, if 2 ≤ k then t.b else 0, if 3 ≤ k then t.c else 0, t.d - k, nth t k, nth t (k + 1), nth t (k + 2)⟩
def thenE (p q : Pa) : Int := if chkP p = 0 then (if chkP q = 0 then (if p.k + p.u = q.f then (if overT (rawT q (fstT p)) then 9 else 0) else 10) else chkP q) else chkP p
def thenV (p q : Pa) : Pa := if thenE p q = 0 then cutP p.f (minI' p.k q.k) (rawT q (fstT p)) else P0
def lePB (p q : Pa) : Bool := decide (chkP p = 0 ∧ chkP q = 0 ∧ p.f = q.f ∧ p.k ≤ q.k ∧ leB (fstT p) (fstT q) = true)
def risesB (p : Pa) : Bool := decide (chkP p = 0 ∧ p.k = p.f ∧ p.u = 0 ∧ ¬ (p.p0 = 0 ∧ p.p1 = 0 ∧ p.p2 = 0 ∧ p.p3 = 0))
def cmpP (p q : Pa) : Int := orI (cmpI p.f q.f) (orI (cmpI p.k q.k) (orI (orI (cmpI p.p0 q.p0) (orI (cmpI p.p1 q.p1) (orI (cmpI p.p2 q.p2) (cmpI p.p3 q.p3)))) (orI (cmpI p.u q.u) (orI (cmpI p.l0 q.l0) (orI (cmpI p.l1 q.l1) (cmpI p.l2 q.l2))))))
end Go.Proofs.YtpblpjopinllcaaGreatDoor.pa
namespace Go.Proofs.YtpblpjopinllcaaGreatDoor.pa
open Go.Proofs.YtpblpjopinllcaaGreatDoor.tm

theorem chk_of {t : Tm} (h : 0 ≤ t.d ∧ t.d ≤ 3 ∧ t.e ≤ 1048576 ∧ t.a ≤ 1048576 ∧ t.b ≤ 1048576 ∧ t.c ≤ 1048576 ∧ (t.d ≤ 0 → t.a = 0) ∧ (t.d ≤ 1 → t.b = 0) ∧ (t.d ≤ 2 → t.c = 0)) : chk t = 0 := chk_ok (by omega) (by omega) (by omega)
theorem four {x : Int} (h0 : 0 ≤ x) (h1 : x ≤ 3) : x = 0 ∨ x = 1 ∨ x = 2 ∨ x = 3 := by omega
/-- What a path makes of a time is a time, if no number is too great. -/
theorem raw_chk {p : Pa} {t : Tm} (hp : chkP p = 0) (ht : chk t = 0) (hd : t.d = p.f) (ho : ¬ overT (rawT p t)) : chk (rawT p t) = 0 := by
  obtain ⟨⟨a1, a2, a3, a4, a5, a6⟩, ⟨b1, b2, b3, b4⟩, ⟨c1, c2, c3⟩, ⟨d1, d2, d3⟩, e1, e2, e3⟩ := chkP_open hp
  obtain ⟨f1, f2, f3, f4, f5, f6, f7, f8, f9⟩ := chk_zero ht
  have ho : (rawT p t).e ≤ 1048576 ∧ (rawT p t).a ≤ 1048576 ∧ (rawT p t).b ≤ 1048576 ∧ (rawT p t).c ≤ 1048576 := by
    unfold overT at ho
    omega
  refine chk_of ?_
  obtain ⟨g1, g2, g3, g4⟩ := ho
  refine ⟨?_, ?_, g1, g2, g3, g4, ?_, ?_, ?_⟩
  · show 0 ≤ p.k + p.u; omega
  · show p.k + p.u ≤ 3; omega
  all_goals
    clear hp ht g1 g2 g3 g4
    obtain ⟨f, k, p0, p1, p2, p3, u, l0, l1, l2⟩ := p
    dsimp only [rawT] at *
    rcases four a3 (by omega) with rfl | rfl | rfl | rfl <;> simp <;> omega
theorem fst_raw (p : Pa) : fstT p = rawT p ⟨0, p.f, 0, 0, 0⟩ := rfl
theorem zero_chk {d : Int} (h0 : 0 ≤ d) (h1 : d ≤ 3) : chk ⟨0, d, 0, 0, 0⟩ = 0 := chk_of (by dsimp only; omega)
theorem fst_over {p : Pa} (hp : chkP p = 0) : ¬ overT (fstT p) := by
  obtain ⟨⟨a1, a2, a3, a4, a5, a6⟩, ⟨b1, b2, b3, b4⟩, ⟨c1, c2, c3⟩, ⟨d1, d2, d3⟩, e1, e2, e3⟩ := chkP_open hp
  obtain ⟨f, k, p0, p1, p2, p3, u, l0, l1, l2⟩ := p
  dsimp only [rawT, fstT, overT] at *
  clear hp
  rcases four a3 (by omega) with rfl | rfl | rfl | rfl <;> simp <;> omega
theorem fst_chk {p : Pa} (hp : chkP p = 0) : chk (fstT p) = 0 := by
  have h := chkP_open hp
  exact raw_chk hp (zero_chk (by omega) (by omega)) rfl (fst_over hp)
theorem fst_d (p : Pa) : (fstT p).d = p.k + p.u := rfl
/-- A path is what it makes of the first time, and how many rounds it keeps. -/
theorem cut_self {p : Pa} (hp : chkP p = 0) : cutP p.f p.k (fstT p) = p := by
  obtain ⟨⟨a1, a2, a3, a4, a5, a6⟩, -, -, ⟨d1, d2, d3⟩, e1, e2, e3⟩ := chkP_open hp
  clear hp
  obtain ⟨f, k, p0, p1, p2, p3, u, l0, l1, l2⟩ := p
  dsimp only [rawT, fstT, cutP] at *
  rcases four a3 (by omega) with rfl | rfl | rfl | rfl <;> simp [nth] <;> omega
theorem min_le (x y : Int) : minI' x y ≤ x ∧ minI' x y ≤ y ∧ (minI' x y = x ∨ minI' x y = y) := by unfold minI'; split <;> omega
/-- One path, and then the other. -/
theorem raw_then {p q : Pa} {t : Tm} (hp : chkP p = 0) (hq : chkP q = 0) (hd : p.k + p.u = q.f) : rawT (cutP p.f (minI' p.k q.k) (rawT q (fstT p))) t = rawT q (rawT p t) := by
  obtain ⟨⟨a1, a2, a3, a4, a5, a6⟩, -, -, ⟨d1, d2, d3⟩, e1, e2, e3⟩ := chkP_open hp
  obtain ⟨⟨f1, f2, f3, f4, f5, f6⟩, -, -, ⟨g1, g2, g3⟩, h1, h2, h3⟩ := chkP_open hq
  clear hp hq
  obtain ⟨f, k, p0, p1, p2, p3, u, l0, l1, l2⟩ := p
  obtain ⟨f', k', p0', p1', p2', p3', u', l0', l1', l2'⟩ := q
  dsimp only [rawT, fstT, cutP] at *
  rcases four a3 (by omega) with rfl | rfl | rfl | rfl <;> rcases four f3 (by omega) with rfl | rfl | rfl | rfl <;> simp [nth, minI'] <;> omega
theorem then_zero {p q : Pa} (h : thenE p q = 0) : chkP p = 0 ∧ chkP q = 0 ∧ p.k + p.u = q.f ∧ ¬ overT (rawT q (fstT p)) := by
  unfold thenE at h
  split at h
  · split at h
    · split at h
      · split at h
        · omega
        · exact ⟨by assumption, by assumption, by assumption, by assumption⟩
      · omega
    · omega
  · omega
theorem then_val {p q : Pa} (h : thenE p q = 0) : thenV p q = cutP p.f (minI' p.k q.k) (rawT q (fstT p)) := by unfold thenV; rw [if_pos h]
/-- What is cut from a time is a path. -/
theorem cut_chk {f k : Int} {t : Tm} (ht : chk t = 0) (h0 : 0 ≤ f) (h1 : f ≤ 3) (h2 : 0 ≤ k) (h3 : k ≤ f) (h4 : k ≤ t.d) : chkP (cutP f k t) = 0 := by
  obtain ⟨f1, f2, f3, f4, f5, f6, f7, f8, f9⟩ := chk_zero ht
  obtain ⟨e, d, a, b, c⟩ := t
  dsimp only at *
  refine chkP_of ?_
  clear ht
  unfold cutP
  dsimp only
  rcases four h2 (by omega) with rfl | rfl | rfl | rfl <;> simp [nth] <;> omega
theorem then_chk {p q : Pa} (h : thenE p q = 0) : chkP (thenV p q) = 0 := by
  obtain ⟨hp, hq, hd, ho⟩ := then_zero h
  have a := chkP_open hp
  have b := chkP_open hq
  have m := min_le p.k q.k
  rw [then_val h]
  have c : chk (rawT q (fstT p)) = 0 := raw_chk hq (fst_chk hp) (by rw [fst_d]; exact hd) ho
  exact cut_chk c (by omega) (by omega) (by omega) (by omega) (by show _ ≤ q.k + q.u; omega)
theorem then_raw {p q : Pa} (h : thenE p q = 0) (t : Tm) : rawT (thenV p q) t = rawT q (rawT p t) := by
  obtain ⟨hp, hq, hd, -⟩ := then_zero h
  rw [then_val h]
  exact raw_then hp hq hd
theorem then_f {p q : Pa} (h : thenE p q = 0) : (thenV p q).f = p.f := by rw [then_val h]; rfl
theorem then_k {p q : Pa} (h : thenE p q = 0) : (thenV p q).k = minI' p.k q.k := by rw [then_val h]; rfl
theorem then_fst {p q : Pa} (h : thenE p q = 0) : fstT (thenV p q) = rawT q (fstT p) := by
  have k := then_raw h ⟨0, (thenV p q).f, 0, 0, 0⟩
  rw [fst_raw, k, then_f h]
  rfl
/-- Brackets do not matter. -/
theorem then_assoc {p q s : Pa} (e : thenE p q = 0) (f : thenE q s = 0) (g : thenE (thenV p q) s = 0) (h : thenE p (thenV q s) = 0) : thenV (thenV p q) s = thenV p (thenV q s) := by
  rw [then_val g, then_val h, then_f e, then_k e, then_k f, then_fst e, then_raw f]
  congr 1
  unfold minI'
  repeat' split
  all_goals omega
theorem then_stay {p : Pa} (hp : chkP p = 0) : thenE (stayV p.f) p = 0 ∧ thenV (stayV p.f) p = p := by
  have a := chkP_open hp
  have hs : stayV p.f = ⟨p.f, p.f, 0, 0, 0, 0, 0, 0, 0, 0⟩ := by unfold stayV; rw [if_pos (by omega)]
  have hc : chkP (stayV p.f) = 0 := by rw [hs]; exact chkP_of (by dsimp only; omega)
  have hr : rawT p (fstT (stayV p.f)) = fstT p := by
    rw [hs]
    rcases four a.1.1 (by omega) with h | h | h | h <;> simp [fstT, rawT, h]
  have he : thenE (stayV p.f) p = 0 := by
    unfold thenE
    rw [if_pos hc, if_pos hp, if_pos (by rw [hs]; simp), hr, if_neg (fst_over hp)]
  refine ⟨he, ?_⟩
  rw [then_val he, hr, hs]
  show cutP p.f (minI' p.f p.k) (fstT p) = p
  rw [show minI' p.f p.k = p.k by unfold minI'; split <;> omega]
  exact cut_self hp
theorem stay_then {p : Pa} (hp : chkP p = 0) : thenE p (stayV (p.k + p.u)) = 0 ∧ thenV p (stayV (p.k + p.u)) = p := by
  have a := chkP_open hp
  have hs : stayV (p.k + p.u) = ⟨p.k + p.u, p.k + p.u, 0, 0, 0, 0, 0, 0, 0, 0⟩ := by unfold stayV; rw [if_pos (by omega)]
  have hc : chkP (stayV (p.k + p.u)) = 0 := by rw [hs]; exact chkP_of (by dsimp only; omega)
  have z := chk_zero (fst_chk hp)
  rw [fst_d] at z
  have hr : rawT (stayV (p.k + p.u)) (fstT p) = fstT p := by
    rw [hs]
    have y := fst_d p
    generalize fstT p = t at y z
    obtain ⟨e, d, a, b, c⟩ := t
    dsimp only at *
    rcases four z.1 (by omega) with h | h | h | h <;> simp [rawT, h] <;> omega
  have he : thenE p (stayV (p.k + p.u)) = 0 := by
    unfold thenE
    rw [if_pos hp, if_pos hc, if_pos (by rw [hs]), hr, if_neg (fst_over hp)]
  refine ⟨he, ?_⟩
  rw [then_val he, hr, hs]
  show cutP p.f (minI' p.k (p.k + p.u)) (fstT p) = p
  rw [show minI' p.k (p.k + p.u) = p.k by unfold minI'; split <;> omega]
  exact cut_self hp
theorem apply_zero {p : Pa} {t : Tm} (h : applyE p t = 0) : chkP p = 0 ∧ chk t = 0 ∧ t.d = p.f ∧ ¬ overT (rawT p t) := by
  unfold applyE at h
  split at h
  · rename_i k
    split at h
    · omega
    · unfold startE at k
      split at k
      · split at k
        · split at k
          · exact ⟨by assumption, by assumption, by assumption, by assumption⟩
          · omega
        · omega
      · omega
  · omega
theorem apply_of {p : Pa} {t : Tm} (h : chkP p = 0) (k : chk t = 0) (d : t.d = p.f) (o : ¬ overT (rawT p t)) : applyE p t = 0 ∧ applyV p t = rawT p t := by
  have s : startE p t = 0 := by unfold startE; rw [if_pos h, if_pos k, if_pos d]
  have e : applyE p t = 0 := by unfold applyE; rw [if_pos s, if_neg o]
  exact ⟨e, by unfold applyV; rw [if_pos e]⟩
theorem apply_over {p : Pa} {t : Tm} (h : chkP p = 0) (k : chk t = 0) (d : t.d = p.f) (o : overT (rawT p t)) : applyE p t = 9 ∧ applyV p t = T0 := by
  have s : startE p t = 0 := by unfold startE; rw [if_pos h, if_pos k, if_pos d]
  have e : applyE p t = 9 := by unfold applyE; rw [if_pos s, if_pos o]
  exact ⟨e, by unfold applyV; rw [if_neg (by omega)]⟩
theorem apply_depth {p : Pa} {t : Tm} (h : chkP p = 0) (k : chk t = 0) (d : ¬ t.d = p.f) : applyE p t = 10 ∧ applyV p t = T0 := by
  have s : startE p t = 10 := by unfold startE; rw [if_pos h, if_pos k, if_neg d]
  have e : applyE p t = 10 := by unfold applyE; rw [if_neg (by omega), s]
  exact ⟨e, by unfold applyV; rw [if_neg (by omega)]⟩
/-- What becomes of a time by both is what becomes by the second one of what becomes by the first one. -/
theorem apply_then {p q : Pa} {t : Tm} (h : thenE p q = 0) (ht : chk t = 0) :
    (applyE p t = 0 ∧ applyE (thenV p q) t = applyE q (applyV p t) ∧ applyV (thenV p q) t = applyV q (applyV p t)) ∨ applyE p t = 9 ∨ (applyE p t = 10 ∧ applyE (thenV p q) t = 10) := by
  obtain ⟨hp, hq, hd, -⟩ := then_zero h
  have hc := then_chk h
  by_cases d : t.d = p.f
  · by_cases o : overT (rawT p t)
    · exact .inr (.inl (apply_over hp ht d o).1)
    · refine .inl ?_
      obtain ⟨e1, e2⟩ := apply_of hp ht d o
      have c := raw_chk hp ht d o
      rw [e2]
      refine ⟨e1, ?_⟩
      have r := then_raw h t
      by_cases o2 : overT (rawT q (rawT p t))
      · obtain ⟨x1, x2⟩ := apply_over hc ht (by rw [then_f h]; exact d) (by rw [r]; exact o2)
        obtain ⟨y1, y2⟩ := apply_over hq c hd o2
        rw [x1, x2, y1, y2]; exact ⟨rfl, rfl⟩
      · obtain ⟨x1, x2⟩ := apply_of hc ht (by rw [then_f h]; exact d) (by rw [r]; exact o2)
        obtain ⟨y1, y2⟩ := apply_of hq c hd o2
        rw [x1, x2, y1, y2]; exact ⟨rfl, r⟩
  · exact .inr (.inr ⟨(apply_depth hp ht d).1, (apply_depth hc ht (by rw [then_f h]; exact d)).1⟩)
theorem leP_iff {p q : Pa} : lePB p q = true ↔ (chkP p = 0 ∧ chkP q = 0 ∧ p.f = q.f ∧ p.k ≤ q.k ∧ leB (fstT p) (fstT q) = true) := by unfold lePB; exact decide_eq_true_iff
/-- Never behind. -/
theorem before {p q : Pa} {t : Tm} (i : t.In) (h : lePB p q = true) (k : applyE q t = 0) : applyE p t = 0 ∧ leB (applyV p t) (applyV q t) = true := by
  obtain ⟨hp, hq, hf, hk, hl⟩ := leP_iff.1 h
  obtain ⟨-, ht, hd, ho⟩ := apply_zero k
  have hm : leB (rawT p t) (rawT q t) = true ∧ ¬ overT (rawT p t) := by
    rw [leB_iff] at hl ⊢
    obtain ⟨⟨a1, a2, a3, a4, a5, a6⟩, ⟨b1, b2, b3, b4⟩, ⟨c1, c2, c3⟩, ⟨d1, d2, d3⟩, e1, e2, e3⟩ := chkP_open hp
    obtain ⟨⟨a1', a2', a3', a4', a5', a6'⟩, -, -, ⟨d1', d2', d3'⟩, e1', e2', e3'⟩ := chkP_open hq
    obtain ⟨f1, f2, f3, f4, f5, f6, f7, f8, f9⟩ := chk_zero ht
    have i1 := i.a0
    have i2 := i.b0
    have i3 := i.c0
    clear hp hq ht h k i
    obtain ⟨f, k, p0, p1, p2, p3, u, l0, l1, l2⟩ := p
    obtain ⟨f', k', p0', p1', p2', p3', u', l0', l1', l2'⟩ := q
    obtain ⟨e, d, a, b, c⟩ := t
    dsimp only [rawT, fstT, overT] at *
    subst hf
    subst hd
    rcases four a3 (by omega) with rfl | rfl | rfl | rfl <;> rcases four a3' (by omega) with rfl | rfl | rfl | rfl <;> (try omega) <;> simp at hl ho ⊢ <;> omega
  obtain ⟨x1, x2⟩ := apply_of hp ht (by omega) hm.2
  obtain ⟨y1, y2⟩ := apply_of hq ht hd ho
  rw [x1, x2, y2]
  exact ⟨rfl, hm.1⟩
theorem leP_refl {p : Pa} (h : chkP p = 0) : lePB p p = true := leP_iff.2 ⟨h, h, rfl, Int.le_refl _, by
  have := chk_zero (fst_chk h)
  rw [leB_iff]
  omega⟩
theorem leP_trans {p q s : Pa} (h : lePB p q = true) (k : lePB q s = true) : lePB p s = true := by
  rw [leP_iff] at *
  refine ⟨h.1, k.2.1, by omega, by omega, ?_⟩
  have a := h.2.2.2.2
  have b := k.2.2.2.2
  rw [leB_iff] at *
  omega
theorem leP_anti {p q : Pa} (h : lePB p q = true) (k : lePB q p = true) : p = q := by
  rw [leP_iff] at *
  obtain ⟨hp, hq, hf, hk, hl⟩ := h
  obtain ⟨-, -, -, hk', hl'⟩ := k
  have a := chk_zero (fst_chk hp)
  have b := chk_zero (fst_chk hq)
  have e : fstT p = fstT q := by
    rw [leB_iff] at *
    generalize fstT p = s at *
    generalize fstT q = t at *
    obtain ⟨se, sd, sa, sb, sc⟩ := s
    obtain ⟨te, td, ta, tb, tc⟩ := t
    dsimp only at *
    simp only [Tm.mk.injEq]
    omega
  rw [← cut_self hp, ← cut_self hq, e, hf, show p.k = q.k by omega]
/-- Three answers of an order go together. -/
def Tri (x y z : Int) : Prop := x ≤ 0 → y ≤ 0 → z ≤ 0 ∧ (z = 0 → x = 0 ∧ y = 0)
theorem tri_or {x y z x' y' z' : Int} (h : Tri x y z) (k : Tri x' y' z') : Tri (orI x x') (orI y y') (orI z z') := by
  unfold Tri orI at *
  intro a b
  split at a <;> split at b <;> split <;> omega
theorem tri_cmp (a b c : Int) : Tri (cmpI a b) (cmpI b c) (cmpI a c) := by
  unfold Tri cmpI
  repeat' split
  all_goals omega
theorem cmpP_trans {p q s : Pa} (h : cmpP p q ≤ 0) (k : cmpP q s ≤ 0) : cmpP p s ≤ 0 := by
  have t : Tri (cmpP p q) (cmpP q s) (cmpP p s) := tri_or (tri_cmp _ _ _) (tri_or (tri_cmp _ _ _) (tri_or (tri_or (tri_cmp _ _ _) (tri_or (tri_cmp _ _ _) (tri_or (tri_cmp _ _ _) (tri_cmp _ _ _)))) (tri_or (tri_cmp _ _ _) (tri_or (tri_cmp _ _ _) (tri_or (tri_cmp _ _ _) (tri_cmp _ _ _))))))
  exact (t h k).1
theorem orI_neg (x y : Int) : orI (-x) (-y) = -orI x y := by unfold orI; repeat' split <;> omega
theorem cmpI_neg (x y : Int) : cmpI y x = -cmpI x y := by unfold cmpI; repeat' split <;> omega
theorem cmpP_neg (p q : Pa) : cmpP p q = -cmpP q p := by
  unfold cmpP
  rw [cmpI_neg q.f, cmpI_neg q.k, cmpI_neg q.p0, cmpI_neg q.p1, cmpI_neg q.p2, cmpI_neg q.p3, cmpI_neg q.u, cmpI_neg q.l0, cmpI_neg q.l1, cmpI_neg q.l2]
  simp only [orI_neg]
theorem orI_zero {x y : Int} : orI x y = 0 ↔ x = 0 ∧ y = 0 := by unfold orI; split <;> omega
theorem cmpI_zero {x y : Int} : cmpI x y = 0 ↔ x = y := by unfold cmpI; repeat' split <;> omega
theorem cmpP_zero {p q : Pa} : cmpP p q = 0 ↔ p = q := by
  unfold cmpP
  simp only [orI_zero, cmpI_zero]
  constructor
  · rintro ⟨h1, h2, ⟨h3, h4, h5, h6⟩, h7, h8, h9, h10⟩
    cases p; cases q
    simp_all
  · rintro rfl
    simp
theorem cmpP_bound (p q : Pa) : -1 ≤ cmpP p q ∧ cmpP p q ≤ 1 := by
  have c : ∀ x y : Int, -1 ≤ cmpI x y ∧ cmpI x y ≤ 1 := fun x y => by unfold cmpI; repeat' split <;> omega
  have o : ∀ {x y : Int}, (-1 ≤ x ∧ x ≤ 1) → (-1 ≤ y ∧ y ≤ 1) → -1 ≤ orI x y ∧ orI x y ≤ 1 := fun hx hy => by unfold orI; split <;> assumption
  exact o (c _ _) (o (c _ _) (o (o (c _ _) (o (c _ _) (o (c _ _) (c _ _)))) (o (c _ _) (o (c _ _) (o (c _ _) (c _ _))))))
/-- Times keep how they stand. -/
theorem along {p : Pa} {t u : Tm} (h : leB t u = true) (a : applyE p t = 0) (b : applyE p u = 0) : leB (applyV p t) (applyV p u) = true := by
  obtain ⟨hp, ht, hd, ho⟩ := apply_zero a
  obtain ⟨-, hu, hd', ho'⟩ := apply_zero b
  rw [(apply_of hp ht hd ho).2, (apply_of hp hu hd' ho').2]
  rw [leB_iff] at h ⊢
  obtain ⟨⟨a1, a2, a3, a4, a5, a6⟩, -⟩ := chkP_open hp
  clear hp ht hu ho ho' a b
  obtain ⟨f, k, p0, p1, p2, p3, v, l0, l1, l2⟩ := p
  obtain ⟨se, sd, sa, sb, sc⟩ := t
  obtain ⟨te, td, ta, tb, tc⟩ := u
  dsimp only [rawT] at *
  rcases four a3 (by omega) with rfl | rfl | rfl | rfl <;> simp <;> omega
/-- A path that rises leads strictly behind. -/
theorem rises {p : Pa} {t : Tm} (j : p.In) (h : risesB p = true) (a : applyE p t = 0) : leB t (applyV p t) = true ∧ leB (applyV p t) t = false := by
  obtain ⟨hp, ht, hd, ho⟩ := apply_zero a
  rw [(apply_of hp ht hd ho).2]
  have h := of_decide_eq_true h
  obtain ⟨⟨a1, a2, a3, a4, a5, a6⟩, -, -, ⟨d1, d2, d3⟩, -⟩ := chkP_open hp
  obtain ⟨f1, f2, -⟩ := chk_zero ht
  have j1 := j.p00
  have j2 := j.p10
  have j3 := j.p20
  have j4 := j.p30
  clear hp ht ho a j
  obtain ⟨f, k, p0, p1, p2, p3, v, l0, l1, l2⟩ := p
  obtain ⟨se, sd, sa, sb, sc⟩ := t
  dsimp only at h hd a1 a2 a3 a4 a5 a6 d1 d2 d3 j1 j2 j3 j4
  dsimp only [rawT]
  obtain ⟨-, rfl, rfl, h⟩ := h
  subst hd
  constructor
  · rw [leB_iff]
    dsimp only at *
    rcases four a3 (by omega) with rfl | rfl | rfl | rfl <;> simp <;> omega
  · refine leB_no ?_
    dsimp only at *
    rcases four a3 (by omega) with rfl | rfl | rfl | rfl <;> simp <;> omega
end Go.Proofs.YtpblpjopinllcaaGreatDoor.pa
