/-
  Plain: paths, what is wrong with one, what becomes of a time by one, compositions, orders.
  Blocks that are known whole, as a walk wants them; a path and what is wrong, handed back.
-/
import Derived.Test.YtpblpjopinllcaaGreatDoorJOpen
import Derived.Test.YtpblpjopinllcaaGreatDoorJLe
import Derived.Test.YtpblpjopinllcaaGreatDoorJBlock
namespace Go.Proofs.YtpblpjopinllcaaGreatDoor.pa
open Go.Proofs.YtpblpjopinllcaaGreatDoor.tm

/-- A path: from which depth, how many rounds it keeps, what it adds, how many rounds it appends, and which. -/
structure Pa where
  f : Int
  k : Int
  p0 : Int
  p1 : Int
  p2 : Int
  p3 : Int
  u : Int
  l0 : Int
  l1 : Int
  l2 : Int
deriving DecidableEq
/-- Each number is one that its kind can hold. -/
structure Pa.In (p : Pa) : Prop where
  f0 : -9223372036854775808 ≤ p.f
  f1 : p.f ≤ 9223372036854775807
  k0 : -9223372036854775808 ≤ p.k
  k1 : p.k ≤ 9223372036854775807
  p00 : 0 ≤ p.p0
  p01 : p.p0 ≤ 4294967295
  p10 : 0 ≤ p.p1
  p11 : p.p1 ≤ 4294967295
  p20 : 0 ≤ p.p2
  p21 : p.p2 ≤ 4294967295
  p30 : 0 ≤ p.p3
  p31 : p.p3 ≤ 4294967295
  u0 : -9223372036854775808 ≤ p.u
  u1 : p.u ≤ 9223372036854775807
  l00 : 0 ≤ p.l0
  l01 : p.l0 ≤ 4294967295
  l10 : 0 ≤ p.l1
  l11 : p.l1 ≤ 4294967295
  l20 : 0 ≤ p.l2
  l21 : p.l2 ≤ 4294967295
def P0 : Pa := ⟨0, 0, 0, 0, 0, 0, 0, 0, 0, 0⟩
def depP (p : Pa) : Prop := 0 ≤ p.f ∧ p.f ≤ 3 ∧ 0 ≤ p.k ∧ p.k ≤ p.f ∧ 0 ≤ p.u ∧ p.u ≤ 3 - p.k
def plusP (p : Pa) : Prop := p.p0 ≤ 1048576 ∧ p.p1 ≤ 1048576 ∧ p.p2 ≤ 1048576 ∧ p.p3 ≤ 1048576
def loopP (p : Pa) : Prop := p.l0 ≤ 1048576 ∧ p.l1 ≤ 1048576 ∧ p.l2 ≤ 1048576
def fldK (p : Pa) : Prop := (p.k ≤ 0 → p.p1 = 0) ∧ (p.k ≤ 1 → p.p2 = 0) ∧ (p.k ≤ 2 → p.p3 = 0)
def fldU (p : Pa) : Prop := (p.u ≤ 0 → p.l0 = 0) ∧ (p.u ≤ 1 → p.l1 = 0) ∧ (p.u ≤ 2 → p.l2 = 0)
instance (p : Pa) : Decidable (depP p) := by unfold depP; infer_instance
instance (p : Pa) : Decidable (plusP p) := by unfold plusP; infer_instance
instance (p : Pa) : Decidable (loopP p) := by unfold loopP; infer_instance
instance (p : Pa) : Decidable (fldK p) := by unfold fldK; infer_instance
instance (p : Pa) : Decidable (fldU p) := by unfold fldU; infer_instance
/-- What Check tells. -/
def chkP (p : Pa) : Int := if depP p then (if plusP p ∧ loopP p then (if fldK p ∧ fldU p then 0 else 6) else 1) else 10
theorem chkP_dep {p : Pa} (h : ¬ depP p) : chkP p = 10 := by unfold chkP; rw [if_neg h]
theorem chkP_rng {p : Pa} (h : depP p) (k : ¬ (plusP p ∧ loopP p)) : chkP p = 1 := by unfold chkP; rw [if_pos h, if_neg k]
theorem chkP_fld {p : Pa} (h : depP p) (k : plusP p ∧ loopP p) (z : ¬ (fldK p ∧ fldU p)) : chkP p = 6 := by unfold chkP; rw [if_pos h, if_pos k, if_neg z]
theorem chkP_ok {p : Pa} (h : depP p) (k : plusP p ∧ loopP p) (z : fldK p ∧ fldU p) : chkP p = 0 := by unfold chkP; rw [if_pos h, if_pos k, if_pos z]
theorem chkP_zero {p : Pa} (h : chkP p = 0) : depP p ∧ plusP p ∧ loopP p ∧ fldK p ∧ fldU p := by
  unfold chkP at h
  split at h
  · split at h
    · split at h
      · rename_i a b c; exact ⟨a, b.1, b.2, c.1, c.2⟩
      · omega
    · omega
  · omega
/-- The same, open. -/
theorem chkP_open {p : Pa} (h : chkP p = 0) : (0 ≤ p.f ∧ p.f ≤ 3 ∧ 0 ≤ p.k ∧ p.k ≤ p.f ∧ 0 ≤ p.u ∧ p.u ≤ 3 - p.k) ∧ (p.p0 ≤ 1048576 ∧ p.p1 ≤ 1048576 ∧ p.p2 ≤ 1048576 ∧ p.p3 ≤ 1048576) ∧ (p.l0 ≤ 1048576 ∧ p.l1 ≤ 1048576 ∧ p.l2 ≤ 1048576) ∧ ((p.k ≤ 0 → p.p1 = 0) ∧ (p.k ≤ 1 → p.p2 = 0) ∧ (p.k ≤ 2 → p.p3 = 0)) ∧ ((p.u ≤ 0 → p.l0 = 0) ∧ (p.u ≤ 1 → p.l1 = 0) ∧ (p.u ≤ 2 → p.l2 = 0)) := chkP_zero h
theorem chkP_of {p : Pa} (h : (0 ≤ p.f ∧ p.f ≤ 3 ∧ 0 ≤ p.k ∧ p.k ≤ p.f ∧ 0 ≤ p.u ∧ p.u ≤ 3 - p.k) ∧ (p.p0 ≤ 1048576 ∧ p.p1 ≤ 1048576 ∧ p.p2 ≤ 1048576 ∧ p.p3 ≤ 1048576) ∧ (p.l0 ≤ 1048576 ∧ p.l1 ≤ 1048576 ∧ p.l2 ≤ 1048576) ∧ ((p.k ≤ 0 → p.p1 = 0) ∧ (p.k ≤ 1 → p.p2 = 0) ∧ (p.k ≤ 2 → p.p3 = 0)) ∧ ((p.u ≤ 0 → p.l0 = 0) ∧ (p.u ≤ 1 → p.l1 = 0) ∧ (p.u ≤ 2 → p.l2 = 0))) : chkP p = 0 := chkP_ok h.1 ⟨h.2.1, h.2.2.1⟩ h.2.2.2
def toV (p : Pa) : Int := if chkP p = 0 then p.k + p.u else 0
def stayV (d : Int) : Pa := if 0 ≤ d ∧ d ≤ 3 then ⟨d, d, 0, 0, 0, 0, 0, 0, 0, 0⟩ else P0
def stayE (d : Int) : Int := if 0 ≤ d ∧ d ≤ 3 then 0 else 10
def goInV (d : Int) : Pa := if 0 ≤ d ∧ d ≤ 2 then ⟨d, d, 0, 0, 0, 0, 1, 0, 0, 0⟩ else P0
def goInE (d : Int) : Int := if 0 ≤ d ∧ d ≤ 2 then 0 else 10
def goOutV (d : Int) : Pa := if 1 ≤ d ∧ d ≤ 3 then ⟨d, d - 1, 0, 0, 0, 0, 0, 0, 0, 0⟩ else P0
def goOutE (d : Int) : Int := if 1 ≤ d ∧ d ≤ 3 then 0 else 10
def goOnV (d : Int) : Pa := if 1 ≤ d ∧ d ≤ 3 then ⟨d, d, 0, if d = 1 then 1 else 0, if d = 2 then 1 else 0, if d = 3 then 1 else 0, 0, 0, 0, 0⟩ else P0
def goOnE (d : Int) : Int := if 1 ≤ d ∧ d ≤ 3 then 0 else 10
def goByV (d n : Int) : Pa := if 0 ≤ d ∧ d ≤ 3 then (if n ≤ 1048576 then ⟨d, d, n, 0, 0, 0, 0, 0, 0, 0⟩ else P0) else P0
def goByE (d n : Int) : Int := if 0 ≤ d ∧ d ≤ 3 then (if n ≤ 1048576 then 0 else 1) else 10
/-- What is asked of a path and a time. -/
def startE (p : Pa) (t : Tm) : Int := if chkP p = 0 then (if chk t = 0 then (if t.d = p.f then 0 else 10) else chk t) else chkP p
/-- What becomes of a time, if nothing is wrong. -/
def rawT (p : Pa) (t : Tm) : Tm :=
  ⟨t.e + p.p0, p.k + p.u, if 1 ≤ p.k then t.a + p.p1 else p.l0, if 2 ≤ p.k then t.b + p.p2 else if p.k = 1 then p.l0 else p.l1,
    if 3 ≤ p.k then t.c + p.p3 else if p.k = 2 then p.l0 else if p.k = 1 then p.l1 else p.l2⟩
def overT (t : Tm) : Prop := ¬ (t.e ≤ 1048576 ∧ t.a ≤ 1048576 ∧ t.b ≤ 1048576 ∧ t.c ≤ 1048576)
instance (t : Tm) : Decidable (overT t) := by unfold overT; infer_instance
def applyE (p : Pa) (t : Tm) : Int := if startE p t = 0 then (if overT (rawT p t) then 9 else 0) else startE p t
def applyV (p : Pa) (t : Tm) : Tm := if applyE p t = 0 then rawT p t else T0
/-- What becomes of the first time of the depth from which a path comes. -/
def fstT (p : Pa) : Tm := rawT p ⟨0, p.f, 0, 0, 0⟩
def fstV (p : Pa) : Tm := if chkP p = 0 then fstT p else T0
def nth (t : Tm) (i : Int) : Int := if i = 0 then t.a else if i = 1 then t.b else if i = 2 then t.c else 0
def minI' (x y : Int) : Int := if x ≤ y then x else y
/-- A path that makes of the first time another one, and keeps so many rounds. -/
def cutP (f k : Int) (t : Tm) : Pa := ⟨f, k, t.e, if 1 ≤ k then t.a else 0, if 2 ≤ k then t.b else 0, if 3 ≤ k then t.c else 0, t.d - k, nth t k, nth t (k + 1), nth t (k + 2)⟩
def thenE (p q : Pa) : Int := if chkP p = 0 then (if chkP q = 0 then (if p.k + p.u = q.f then (if overT (rawT q (fstT p)) then 9 else 0) else 10) else chkP q) else chkP p
def thenV (p q : Pa) : Pa := if thenE p q = 0 then cutP p.f (minI' p.k q.k) (rawT q (fstT p)) else P0
def lePB (p q : Pa) : Bool := decide (chkP p = 0 ∧ chkP q = 0 ∧ p.f = q.f ∧ p.k ≤ q.k ∧ leB (fstT p) (fstT q) = true)
def risesB (p : Pa) : Bool := decide (chkP p = 0 ∧ p.k = p.f ∧ p.u = 0 ∧ ¬ (p.p0 = 0 ∧ p.p1 = 0 ∧ p.p2 = 0 ∧ p.p3 = 0))
def cmpP (p q : Pa) : Int := orI (cmpI p.f q.f) (orI (cmpI p.k q.k) (orI (orI (cmpI p.p0 q.p0) (orI (cmpI p.p1 q.p1) (orI (cmpI p.p2 q.p2) (cmpI p.p3 q.p3)))) (orI (cmpI p.u q.u) (orI (cmpI p.l0 q.l0) (orI (cmpI p.l1 q.l1) (cmpI p.l2 q.l2))))))
end Go.Proofs.YtpblpjopinllcaaGreatDoor.pa
namespace Go.Proofs.YtpblpjopinllcaaGreatDoor.path
open Go.ChangeShapes Go.WideShapes Go.ChangeAt Go.RowKit
open Go.Proofs.YtpblpjopinllcaaGreatDoor.tm Go.Proofs.YtpblpjopinllcaaGreatDoor.opened Go.Proofs.YtpblpjopinllcaaGreatDoor.block Go.Proofs.YtpblpjopinllcaaGreatDoor.stamp Go.Proofs.YtpblpjopinllcaaGreatDoor.pa

theorem over1 {w w1 : World} {o : Obj} (b1 : Below (w.alloc o).heap.size (w.alloc o) w1) : Below w.heap.size w w1 := (fresh1 _ _).trans (b1.mono (by simp))
/-- What a block that is known whole holds, and that it may be written. -/
theorem all_of {w : World} {g : Nat} {t : TypeId} {cs : Array Value} (h : Whole w g t cs) : (∀ i, w.cell? ⟨g, i, none⟩ = cs[i]?) ∧ (∀ i, w.frozen? ⟨g, i, none⟩ = false) := ⟨h.read, h.soft⟩
/-- Behind a call, a block that was made ahead of it. -/
theorem res_of {w w1 : World} {t : TypeId} {cs : Array Value} (b : Below (w.alloc (.cells cs t)).heap.size (w.alloc (.cells cs t)) w1) : Whole w1 w.heap.size t cs ∧ Below w.heap.size w w1 ∧ w.heap.size < w1.heap.size :=
  ⟨(Whole.fresh w t cs).below b (by simp), (fresh1 _ _).trans (b.mono (by simp)), by have := b.size; simp at this; omega⟩
theorem ten {w : World} {g : Nat} {t : TypeId} {a b c d e f h i j k : Value} (hw : Whole w g t #[a, b, c, d, e, f, h, i, j, k]) (v0 v1 v2 v3 v4 v5 v6 v7 v8 v9 : Value) :
    Whole ((((((((((w.setCell ⟨g, 0, none⟩ v0).setCell ⟨g, 1, none⟩ v1).setCell ⟨g, 2, none⟩ v2).setCell ⟨g, 3, none⟩ v3).setCell ⟨g, 4, none⟩ v4).setCell ⟨g, 5, none⟩ v5).setCell ⟨g, 6, none⟩ v6).setCell ⟨g, 7, none⟩ v7).setCell ⟨g, 8, none⟩ v8).setCell ⟨g, 9, none⟩ v9) g t #[v0, v1, v2, v3, v4, v5, v6, v7, v8, v9] := by
  have h := (((((((((hw.store 0 v0).store 1 v1).store 2 v2).store 3 v3).store 4 v4).store 5 v5).store 6 v6).store 7 v7).store 8 v8).store 9 v9
  simpa using h
/-- A path and what is wrong, handed back. -/
def Gives (p : Pa) (x : Int) (w : World) (e : Ending) (w' : World) : Prop := e = .returned (.tuple #[.agg #[.int .i64 p.f, .int .i64 p.k, .int .u32 p.p0, .int .u32 p.p1, .int .u32 p.p2, .int .u32 p.p3, .int .i64 p.u, .int .u32 p.l0, .int .u32 p.l1, .int .u32 p.l2], .int .i64 x]) ∧ Below w.heap.size w w'
theorem gives {p q : Pa} {x y : Int} {w w' : World} (hb : Below w.heap.size w w') (h : q = p) (k : y = x) : Gives p x w (.returned (.tuple #[.agg #[.int .i64 q.f, .int .i64 q.k, .int .u32 q.p0, .int .u32 q.p1, .int .u32 q.p2, .int .u32 q.p3, .int .i64 q.u, .int .u32 q.l0, .int .u32 q.l1, .int .u32 q.l2], .int .i64 y])) w' := by rw [h, k]; exact ⟨rfl, hb⟩
theorem gives_at {p q : Pa} {x y : Int} {w w' : World} {g : Nat} (hg : Hid (w.heap.size = g)) (hb : Below g w w') (h : q = p) (k : y = x) : Gives p x w (.returned (.tuple #[.agg #[.int .i64 q.f, .int .i64 q.k, .int .u32 q.p0, .int .u32 q.p1, .int .u32 q.p2, .int .u32 q.p3, .int .i64 q.u, .int .u32 q.l0, .int .u32 q.l1, .int .u32 q.l2], .int .i64 y])) w' := gives (hg.out ▸ hb) h k
theorem size_path : (Tryz.prog.info? 53).map (·.size) = some 10 := by kernel_rfl
theorem size_pathR : (Tryz.prog.info? 102).map (·.size) = some 10 := by kernel_rfl
/-- The two results of a function that hands back a path and what is wrong. -/
theorem two_path {fn : Func} {p q : Tmp} (h : fn.results = #[.cell p 53, .tmp q]) {tmps : Array Value} {w : World} {g : Nat} {t : TypeId} {P : Pa} {x : Int}
    (hp : tmps[p]?.getD undef = .pointer (some ⟨g, 0, none⟩)) (hq : tmps[q]?.getD undef = .int .i64 x) (hw : Whole w g t #[.int .i64 P.f, .int .i64 P.k, .int .u32 P.p0, .int .u32 P.p1, .int .u32 P.p2, .int .u32 P.p3, .int .i64 P.u, .int .u32 P.l0, .int .u32 P.l1, .int .u32 P.l2]) : (results fn tmps).run Tryz.prog w = .ok (.tuple #[.agg #[.int .i64 P.f, .int .i64 P.k, .int .u32 P.p0, .int .u32 P.p1, .int .u32 P.p2, .int .u32 P.p3, .int .i64 P.u, .int .u32 P.l0, .int .u32 P.l1, .int .u32 P.l2], .int .i64 x]) w := by
  simp [results, h, hp, hq, asAddr, loaded hw Tryz.underlying53 rfl size_path]
theorem two_pathR {fn : Func} {p q : Tmp} (h : fn.results = #[.cell p 102, .tmp q]) {tmps : Array Value} {w : World} {g : Nat} {t : TypeId} {P : Pa} {x : Int}
    (hp : tmps[p]?.getD undef = .pointer (some ⟨g, 0, none⟩)) (hq : tmps[q]?.getD undef = .int .i64 x) (hw : Whole w g t #[.int .i64 P.f, .int .i64 P.k, .int .u32 P.p0, .int .u32 P.p1, .int .u32 P.p2, .int .u32 P.p3, .int .i64 P.u, .int .u32 P.l0, .int .u32 P.l1, .int .u32 P.l2]) : (results fn tmps).run Tryz.prog w = .ok (.tuple #[.agg #[.int .i64 P.f, .int .i64 P.k, .int .u32 P.p0, .int .u32 P.p1, .int .u32 P.p2, .int .u32 P.p3, .int .i64 P.u, .int .u32 P.l0, .int .u32 P.l1, .int .u32 P.l2], .int .i64 x]) w := by
  simp [results, h, hp, hq, asAddr, loaded hw Tryz.underlying102 rfl size_pathR]
end Go.Proofs.YtpblpjopinllcaaGreatDoor.path
