/-
  The contract of watershedref05.Then, at any two paths.
-/
import Derived.Test.YtilkdpobkcocoaaThR1
import Derived.Test.YtilkdpobkcocoaaApR
namespace Go.Proofs.Ytilkdpobkcocoaa.path
open Go.ChangeShapes Go.WideShapes Go.ChangeAt Go.RowKit
open Go.Proofs.Ytilkdpobkcocoaa.tm Go.Proofs.Ytilkdpobkcocoaa.opened Go.Proofs.Ytilkdpobkcocoaa.block Go.Proofs.Ytilkdpobkcocoaa.stamp Go.Proofs.Ytilkdpobkcocoaa.pa

theorem thM0 (f k p0 p1 p2 p3 u l0 l1 l2 qf qk q0 q1 q2 q3 qu r0 r1 r2 : Int) (hp : chkP ⟨f, k, p0, p1, p2, p3, u, l0, l1, l2⟩ = 0) (hq : chkP ⟨qf, qk, q0, q1, q2, q3, qu, r0, r1, r2⟩ = 0) (hd : k + u = qf) : (k = 0 → 0 < qk → l0 + q1 = nth (rawT ⟨qf, qk, q0, q1, q2, q3, qu, r0, r1, r2⟩ (fstT ⟨f, k, p0, p1, p2, p3, u, l0, l1, l2⟩)) (minI' k qk + 0)) := by
  obtain ⟨⟨a1, a2, a3, a4, a5, a6⟩, -, -, ⟨d1, d2, d3⟩, e1, e2, e3⟩ := chkP_open hp
  obtain ⟨⟨f1, f2, f3, f4, f5, f6⟩, -, -, ⟨g1, g2, g3⟩, h1, h2, h3⟩ := chkP_open hq
  clear hp hq
  dsimp only at *
  intro x y
  rcases four a3 (by omega) with rfl | rfl | rfl | rfl <;> rcases four f3 (by omega) with rfl | rfl | rfl | rfl
  all_goals first | omega | (simp [nth, minI', rawT, fstT]; done) | (simp [nth, minI', rawT, fstT]; omega)
theorem thM1 (f k p0 p1 p2 p3 u l0 l1 l2 qf qk q0 q1 q2 q3 qu r0 r1 r2 : Int) (hp : chkP ⟨f, k, p0, p1, p2, p3, u, l0, l1, l2⟩ = 0) (hq : chkP ⟨qf, qk, q0, q1, q2, q3, qu, r0, r1, r2⟩ = 0) (hd : k + u = qf) : (k = 0 → 1 < qk → l1 + q2 = nth (rawT ⟨qf, qk, q0, q1, q2, q3, qu, r0, r1, r2⟩ (fstT ⟨f, k, p0, p1, p2, p3, u, l0, l1, l2⟩)) (minI' k qk + 1)) := by
  obtain ⟨⟨a1, a2, a3, a4, a5, a6⟩, -, -, ⟨d1, d2, d3⟩, e1, e2, e3⟩ := chkP_open hp
  obtain ⟨⟨f1, f2, f3, f4, f5, f6⟩, -, -, ⟨g1, g2, g3⟩, h1, h2, h3⟩ := chkP_open hq
  clear hp hq
  dsimp only at *
  intro x y
  rcases four a3 (by omega) with rfl | rfl | rfl | rfl <;> rcases four f3 (by omega) with rfl | rfl | rfl | rfl
  all_goals first | omega | (simp [nth, minI', rawT, fstT]; done) | (simp [nth, minI', rawT, fstT]; omega)
theorem thM2 (f k p0 p1 p2 p3 u l0 l1 l2 qf qk q0 q1 q2 q3 qu r0 r1 r2 : Int) (hp : chkP ⟨f, k, p0, p1, p2, p3, u, l0, l1, l2⟩ = 0) (hq : chkP ⟨qf, qk, q0, q1, q2, q3, qu, r0, r1, r2⟩ = 0) (hd : k + u = qf) : (k = 0 → 2 < qk → l2 + q3 = nth (rawT ⟨qf, qk, q0, q1, q2, q3, qu, r0, r1, r2⟩ (fstT ⟨f, k, p0, p1, p2, p3, u, l0, l1, l2⟩)) (minI' k qk + 2)) := by
  obtain ⟨⟨a1, a2, a3, a4, a5, a6⟩, -, -, ⟨d1, d2, d3⟩, e1, e2, e3⟩ := chkP_open hp
  obtain ⟨⟨f1, f2, f3, f4, f5, f6⟩, -, -, ⟨g1, g2, g3⟩, h1, h2, h3⟩ := chkP_open hq
  clear hp hq
  dsimp only at *
  intro x y
  rcases four a3 (by omega) with rfl | rfl | rfl | rfl <;> rcases four f3 (by omega) with rfl | rfl | rfl | rfl
  all_goals first | omega | (simp [nth, minI', rawT, fstT]; done) | (simp [nth, minI', rawT, fstT]; omega)
theorem thM3 (f k p0 p1 p2 p3 u l0 l1 l2 qf qk q0 q1 q2 q3 qu r0 r1 r2 : Int) (hp : chkP ⟨f, k, p0, p1, p2, p3, u, l0, l1, l2⟩ = 0) (hq : chkP ⟨qf, qk, q0, q1, q2, q3, qu, r0, r1, r2⟩ = 0) (hd : k + u = qf) : (k = 1 → 1 < qk → l0 + q2 = nth (rawT ⟨qf, qk, q0, q1, q2, q3, qu, r0, r1, r2⟩ (fstT ⟨f, k, p0, p1, p2, p3, u, l0, l1, l2⟩)) (minI' k qk + 0)) := by
  obtain ⟨⟨a1, a2, a3, a4, a5, a6⟩, -, -, ⟨d1, d2, d3⟩, e1, e2, e3⟩ := chkP_open hp
  obtain ⟨⟨f1, f2, f3, f4, f5, f6⟩, -, -, ⟨g1, g2, g3⟩, h1, h2, h3⟩ := chkP_open hq
  clear hp hq
  dsimp only at *
  intro x y
  rcases four a3 (by omega) with rfl | rfl | rfl | rfl <;> rcases four f3 (by omega) with rfl | rfl | rfl | rfl
  all_goals first | omega | (simp [nth, minI', rawT, fstT]; done) | (simp [nth, minI', rawT, fstT]; omega)
theorem thM4 (f k p0 p1 p2 p3 u l0 l1 l2 qf qk q0 q1 q2 q3 qu r0 r1 r2 : Int) (hp : chkP ⟨f, k, p0, p1, p2, p3, u, l0, l1, l2⟩ = 0) (hq : chkP ⟨qf, qk, q0, q1, q2, q3, qu, r0, r1, r2⟩ = 0) (hd : k + u = qf) : (k = 1 → 2 < qk → l1 + q3 = nth (rawT ⟨qf, qk, q0, q1, q2, q3, qu, r0, r1, r2⟩ (fstT ⟨f, k, p0, p1, p2, p3, u, l0, l1, l2⟩)) (minI' k qk + 1)) := by
  obtain ⟨⟨a1, a2, a3, a4, a5, a6⟩, -, -, ⟨d1, d2, d3⟩, e1, e2, e3⟩ := chkP_open hp
  obtain ⟨⟨f1, f2, f3, f4, f5, f6⟩, -, -, ⟨g1, g2, g3⟩, h1, h2, h3⟩ := chkP_open hq
  clear hp hq
  dsimp only at *
  intro x y
  rcases four a3 (by omega) with rfl | rfl | rfl | rfl <;> rcases four f3 (by omega) with rfl | rfl | rfl | rfl
  all_goals first | omega | (simp [nth, minI', rawT, fstT]; done) | (simp [nth, minI', rawT, fstT]; omega)
theorem thM5 (f k p0 p1 p2 p3 u l0 l1 l2 qf qk q0 q1 q2 q3 qu r0 r1 r2 : Int) (hp : chkP ⟨f, k, p0, p1, p2, p3, u, l0, l1, l2⟩ = 0) (hq : chkP ⟨qf, qk, q0, q1, q2, q3, qu, r0, r1, r2⟩ = 0) (hd : k + u = qf) : (k = 2 → 2 < qk → l0 + q3 = nth (rawT ⟨qf, qk, q0, q1, q2, q3, qu, r0, r1, r2⟩ (fstT ⟨f, k, p0, p1, p2, p3, u, l0, l1, l2⟩)) (minI' k qk + 0)) := by
  obtain ⟨⟨a1, a2, a3, a4, a5, a6⟩, -, -, ⟨d1, d2, d3⟩, e1, e2, e3⟩ := chkP_open hp
  obtain ⟨⟨f1, f2, f3, f4, f5, f6⟩, -, -, ⟨g1, g2, g3⟩, h1, h2, h3⟩ := chkP_open hq
  clear hp hq
  dsimp only at *
  intro x y
  rcases four a3 (by omega) with rfl | rfl | rfl | rfl <;> rcases four f3 (by omega) with rfl | rfl | rfl | rfl
  all_goals first | omega | (simp [nth, minI', rawT, fstT]; done) | (simp [nth, minI', rawT, fstT]; omega)
theorem thM6 (f k p0 p1 p2 p3 u l0 l1 l2 qf qk q0 q1 q2 q3 qu r0 r1 r2 : Int) (hp : chkP ⟨f, k, p0, p1, p2, p3, u, l0, l1, l2⟩ = 0) (hq : chkP ⟨qf, qk, q0, q1, q2, q3, qu, r0, r1, r2⟩ = 0) (hd : k + u = qf) : (qk ≤ k → 0 < qu → r0 = nth (rawT ⟨qf, qk, q0, q1, q2, q3, qu, r0, r1, r2⟩ (fstT ⟨f, k, p0, p1, p2, p3, u, l0, l1, l2⟩)) (minI' k qk + 0)) := by
  obtain ⟨⟨a1, a2, a3, a4, a5, a6⟩, -, -, ⟨d1, d2, d3⟩, e1, e2, e3⟩ := chkP_open hp
  obtain ⟨⟨f1, f2, f3, f4, f5, f6⟩, -, -, ⟨g1, g2, g3⟩, h1, h2, h3⟩ := chkP_open hq
  clear hp hq
  dsimp only at *
  intro x y
  rcases four a3 (by omega) with rfl | rfl | rfl | rfl <;> rcases four f3 (by omega) with rfl | rfl | rfl | rfl
  all_goals first | omega | (simp [nth, minI', rawT, fstT]; done) | (simp [nth, minI', rawT, fstT]; omega)
theorem thM7 (f k p0 p1 p2 p3 u l0 l1 l2 qf qk q0 q1 q2 q3 qu r0 r1 r2 : Int) (hp : chkP ⟨f, k, p0, p1, p2, p3, u, l0, l1, l2⟩ = 0) (hq : chkP ⟨qf, qk, q0, q1, q2, q3, qu, r0, r1, r2⟩ = 0) (hd : k + u = qf) : (qk ≤ k → 1 < qu → r1 = nth (rawT ⟨qf, qk, q0, q1, q2, q3, qu, r0, r1, r2⟩ (fstT ⟨f, k, p0, p1, p2, p3, u, l0, l1, l2⟩)) (minI' k qk + 1)) := by
  obtain ⟨⟨a1, a2, a3, a4, a5, a6⟩, -, -, ⟨d1, d2, d3⟩, e1, e2, e3⟩ := chkP_open hp
  obtain ⟨⟨f1, f2, f3, f4, f5, f6⟩, -, -, ⟨g1, g2, g3⟩, h1, h2, h3⟩ := chkP_open hq
  clear hp hq
  dsimp only at *
  intro x y
  rcases four a3 (by omega) with rfl | rfl | rfl | rfl <;> rcases four f3 (by omega) with rfl | rfl | rfl | rfl
  all_goals first | omega | (simp [nth, minI', rawT, fstT]; done) | (simp [nth, minI', rawT, fstT]; omega)
theorem thM8 (f k p0 p1 p2 p3 u l0 l1 l2 qf qk q0 q1 q2 q3 qu r0 r1 r2 : Int) (hp : chkP ⟨f, k, p0, p1, p2, p3, u, l0, l1, l2⟩ = 0) (hq : chkP ⟨qf, qk, q0, q1, q2, q3, qu, r0, r1, r2⟩ = 0) (hd : k + u = qf) : (qk ≤ k → 2 < qu → r2 = nth (rawT ⟨qf, qk, q0, q1, q2, q3, qu, r0, r1, r2⟩ (fstT ⟨f, k, p0, p1, p2, p3, u, l0, l1, l2⟩)) (minI' k qk + 2)) := by
  obtain ⟨⟨a1, a2, a3, a4, a5, a6⟩, -, -, ⟨d1, d2, d3⟩, e1, e2, e3⟩ := chkP_open hp
  obtain ⟨⟨f1, f2, f3, f4, f5, f6⟩, -, -, ⟨g1, g2, g3⟩, h1, h2, h3⟩ := chkP_open hq
  clear hp hq
  dsimp only at *
  intro x y
  rcases four a3 (by omega) with rfl | rfl | rfl | rfl <;> rcases four f3 (by omega) with rfl | rfl | rfl | rfl
  all_goals first | omega | (simp [nth, minI', rawT, fstT]; done) | (simp [nth, minI', rawT, fstT]; omega)
theorem thM9 (f k p0 p1 p2 p3 u l0 l1 l2 qf qk q0 q1 q2 q3 qu r0 r1 r2 : Int) (hp : chkP ⟨f, k, p0, p1, p2, p3, u, l0, l1, l2⟩ = 0) (hq : chkP ⟨qf, qk, q0, q1, q2, q3, qu, r0, r1, r2⟩ = 0) (hd : k + u = qf) : (qk = k + 1 → 0 < qu → r0 = nth (rawT ⟨qf, qk, q0, q1, q2, q3, qu, r0, r1, r2⟩ (fstT ⟨f, k, p0, p1, p2, p3, u, l0, l1, l2⟩)) (minI' k qk + 1)) := by
  obtain ⟨⟨a1, a2, a3, a4, a5, a6⟩, -, -, ⟨d1, d2, d3⟩, e1, e2, e3⟩ := chkP_open hp
  obtain ⟨⟨f1, f2, f3, f4, f5, f6⟩, -, -, ⟨g1, g2, g3⟩, h1, h2, h3⟩ := chkP_open hq
  clear hp hq
  dsimp only at *
  intro x y
  rcases four a3 (by omega) with rfl | rfl | rfl | rfl <;> rcases four f3 (by omega) with rfl | rfl | rfl | rfl
  all_goals first | omega | (simp [nth, minI', rawT, fstT]; done) | (simp [nth, minI', rawT, fstT]; omega)
theorem thM10 (f k p0 p1 p2 p3 u l0 l1 l2 qf qk q0 q1 q2 q3 qu r0 r1 r2 : Int) (hp : chkP ⟨f, k, p0, p1, p2, p3, u, l0, l1, l2⟩ = 0) (hq : chkP ⟨qf, qk, q0, q1, q2, q3, qu, r0, r1, r2⟩ = 0) (hd : k + u = qf) : (qk = k + 1 → 1 < qu → r1 = nth (rawT ⟨qf, qk, q0, q1, q2, q3, qu, r0, r1, r2⟩ (fstT ⟨f, k, p0, p1, p2, p3, u, l0, l1, l2⟩)) (minI' k qk + 2)) := by
  obtain ⟨⟨a1, a2, a3, a4, a5, a6⟩, -, -, ⟨d1, d2, d3⟩, e1, e2, e3⟩ := chkP_open hp
  obtain ⟨⟨f1, f2, f3, f4, f5, f6⟩, -, -, ⟨g1, g2, g3⟩, h1, h2, h3⟩ := chkP_open hq
  clear hp hq
  dsimp only at *
  intro x y
  rcases four a3 (by omega) with rfl | rfl | rfl | rfl <;> rcases four f3 (by omega) with rfl | rfl | rfl | rfl
  all_goals first | omega | (simp [nth, minI', rawT, fstT]; done) | (simp [nth, minI', rawT, fstT]; omega)
theorem thM11 (f k p0 p1 p2 p3 u l0 l1 l2 qf qk q0 q1 q2 q3 qu r0 r1 r2 : Int) (hp : chkP ⟨f, k, p0, p1, p2, p3, u, l0, l1, l2⟩ = 0) (hq : chkP ⟨qf, qk, q0, q1, q2, q3, qu, r0, r1, r2⟩ = 0) (hd : k + u = qf) : (qk = k + 2 → 0 < qu → r0 = nth (rawT ⟨qf, qk, q0, q1, q2, q3, qu, r0, r1, r2⟩ (fstT ⟨f, k, p0, p1, p2, p3, u, l0, l1, l2⟩)) (minI' k qk + 2)) := by
  obtain ⟨⟨a1, a2, a3, a4, a5, a6⟩, -, -, ⟨d1, d2, d3⟩, e1, e2, e3⟩ := chkP_open hp
  obtain ⟨⟨f1, f2, f3, f4, f5, f6⟩, -, -, ⟨g1, g2, g3⟩, h1, h2, h3⟩ := chkP_open hq
  clear hp hq
  dsimp only at *
  intro x y
  rcases four a3 (by omega) with rfl | rfl | rfl | rfl <;> rcases four f3 (by omega) with rfl | rfl | rfl | rfl
  all_goals first | omega | (simp [nth, minI', rawT, fstT]; done) | (simp [nth, minI', rawT, fstT]; omega)
set_option maxHeartbeats 4000000 in
theorem thV (f k p0 p1 p2 p3 u l0 l1 l2 qf qk q0 q1 q2 q3 qu r0 r1 r2 : Int) (hp : chkP ⟨f, k, p0, p1, p2, p3, u, l0, l1, l2⟩ = 0) (hq : chkP ⟨qf, qk, q0, q1, q2, q3, qu, r0, r1, r2⟩ = 0) (hd : k + u = qf) (N : Nat) (hN : (N : Int) = (if k ≤ qk then qk - k else 0) + qu) :
    S2 f (minI' k qk) (p0 + q0) (if 1 ≤ minI' k qk then p1 + q1 else 0) (if 2 ≤ minI' k qk then p2 + q2 else 0) (if 3 ≤ minI' k qk then p3 + q3 else 0) (nth (rawT ⟨qf, qk, q0, q1, q2, q3, qu, r0, r1, r2⟩ (fstT ⟨f, k, p0, p1, p2, p3, u, l0, l1, l2⟩)) (minI' k qk + 0)) (nth (rawT ⟨qf, qk, q0, q1, q2, q3, qu, r0, r1, r2⟩ (fstT ⟨f, k, p0, p1, p2, p3, u, l0, l1, l2⟩)) (minI' k qk + 1)) (nth (rawT ⟨qf, qk, q0, q1, q2, q3, qu, r0, r1, r2⟩ (fstT ⟨f, k, p0, p1, p2, p3, u, l0, l1, l2⟩)) (minI' k qk + 2)) N = #[.int .i64 (cutP f (minI' k qk) (rawT ⟨qf, qk, q0, q1, q2, q3, qu, r0, r1, r2⟩ (fstT ⟨f, k, p0, p1, p2, p3, u, l0, l1, l2⟩))).f, .int .i64 (cutP f (minI' k qk) (rawT ⟨qf, qk, q0, q1, q2, q3, qu, r0, r1, r2⟩ (fstT ⟨f, k, p0, p1, p2, p3, u, l0, l1, l2⟩))).k, .int .u32 (cutP f (minI' k qk) (rawT ⟨qf, qk, q0, q1, q2, q3, qu, r0, r1, r2⟩ (fstT ⟨f, k, p0, p1, p2, p3, u, l0, l1, l2⟩))).p0, .int .u32 (cutP f (minI' k qk) (rawT ⟨qf, qk, q0, q1, q2, q3, qu, r0, r1, r2⟩ (fstT ⟨f, k, p0, p1, p2, p3, u, l0, l1, l2⟩))).p1, .int .u32 (cutP f (minI' k qk) (rawT ⟨qf, qk, q0, q1, q2, q3, qu, r0, r1, r2⟩ (fstT ⟨f, k, p0, p1, p2, p3, u, l0, l1, l2⟩))).p2, .int .u32 (cutP f (minI' k qk) (rawT ⟨qf, qk, q0, q1, q2, q3, qu, r0, r1, r2⟩ (fstT ⟨f, k, p0, p1, p2, p3, u, l0, l1, l2⟩))).p3, .int .i64 (cutP f (minI' k qk) (rawT ⟨qf, qk, q0, q1, q2, q3, qu, r0, r1, r2⟩ (fstT ⟨f, k, p0, p1, p2, p3, u, l0, l1, l2⟩))).u, .int .u32 (cutP f (minI' k qk) (rawT ⟨qf, qk, q0, q1, q2, q3, qu, r0, r1, r2⟩ (fstT ⟨f, k, p0, p1, p2, p3, u, l0, l1, l2⟩))).l0, .int .u32 (cutP f (minI' k qk) (rawT ⟨qf, qk, q0, q1, q2, q3, qu, r0, r1, r2⟩ (fstT ⟨f, k, p0, p1, p2, p3, u, l0, l1, l2⟩))).l1, .int .u32 (cutP f (minI' k qk) (rawT ⟨qf, qk, q0, q1, q2, q3, qu, r0, r1, r2⟩ (fstT ⟨f, k, p0, p1, p2, p3, u, l0, l1, l2⟩))).l2] := by
  obtain ⟨⟨a1, a2, a3, a4, a5, a6⟩, -, -, ⟨d1, d2, d3⟩, e1, e2, e3⟩ := chkP_open hp
  obtain ⟨⟨f1, f2, f3, f4, f5, f6⟩, -, -, ⟨g1, g2, g3⟩, h1, h2, h3⟩ := chkP_open hq
  clear hp hq
  dsimp only at *
  have hN3 : N ≤ 3 := by split at hN <;> omega
  obtain rfl | rfl | rfl | rfl : N = 0 ∨ N = 1 ∨ N = 2 ∨ N = 3 := by omega
  all_goals rcases four a3 (by omega) with rfl | rfl | rfl | rfl <;> rcases four f3 (by omega) with rfl | rfl | rfl | rfl
  all_goals simp at hN
  all_goals first | (exfalso; omega) | (simp [S2, cutP, nth, minI', rawT, fstT]; done) | (simp [S2, cutP, nth, minI', rawT, fstT]; omega)
theorem cut_over {f K : Int} {t : Tm} (h0 : 0 ≤ K) (h3 : K ≤ 3) (h : overT t) : chkP (cutP f K t) ≠ 0 := by
  intro hc
  obtain ⟨-, ⟨b1, b2, b3, b4⟩, ⟨c1, c2, c3⟩, -⟩ := chkP_open hc
  clear hc
  unfold overT at h
  unfold cutP at *
  dsimp only at *
  rcases four h0 h3 with rfl | rfl | rfl | rfl
  all_goals simp [nth] at *
  all_goals omega
theorem in_cut {f K : Int} {t : Tm} (i : t.In) (a0 : 0 ≤ f) (a3 : f ≤ 3) (h0 : 0 ≤ K) (h3 : K ≤ 3) (d0 : 0 ≤ t.d) (d3 : t.d ≤ 3) : (cutP f K t).In := by
  have e0 := i.e0
  have e1 := i.e1
  have a0' := i.a0
  have a1 := i.a1
  have b0 := i.b0
  have b1 := i.b1
  have c0 := i.c0
  have c1 := i.c1
  clear i
  unfold cutP nth
  constructor <;> dsimp only <;> (try split) <;> (try split) <;> (try split) <;> omega
theorem start_ok {p q : Pa} (hp : chkP p = 0) (hq : chkP q = 0) (hd : p.k + p.u = q.f) : startE q (fstT p) = 0 := by
  unfold startE
  rw [if_pos hq, if_pos (fst_chk hp), if_pos (by rw [fst_d]; exact hd)]
theorem thenR_good (p q : Pa) (i : p.In) (j : q.In) (hp : chkP p = 0) (hq : chkP q = 0) (hd : p.k + p.u = q.f) (G : Int) (VV : Pa)
    (hc : (chkP (cutP p.f (minI' p.k q.k) (rawT q (fstT p))) = 0 ∧ G = 0 ∧ VV = cutP p.f (minI' p.k q.k) (rawT q (fstT p))) ∨ (chkP (cutP p.f (minI' p.k q.k) (rawT q (fstT p))) ≠ 0 ∧ G = 9 ∧ VV = P0)) (w : World) :
    Calls Try.prog 12 #[.agg #[.int .i64 p.f, .int .i64 p.k, .int .u32 p.p0, .int .u32 p.p1, .int .u32 p.p2, .int .u32 p.p3, .int .i64 p.u, .int .u32 p.l0, .int .u32 p.l1, .int .u32 p.l2], .agg #[.int .i64 q.f, .int .i64 q.k, .int .u32 q.p0, .int .u32 q.p1, .int .u32 q.p2, .int .u32 q.p3, .int .i64 q.u, .int .u32 q.l0, .int .u32 q.l1, .int .u32 q.l2]] w (Gives VV G w) := by
  have A := Lib.hid (chkPR_any p i)
  rw [hp] at A
  have B := Lib.hid (chkPR_any q j)
  rw [hq] at B
  have T := Lib.hid (toR_any p i)
  rw [show toV p = p.k + p.u by unfold toV; rw [if_pos hp]] at T
  have bp := chkP_open hp
  have bq := chkP_open hq
  have hm := min_le p.k q.k
  have hI := raw_in j (in_fst i hp) (start_ok hp hq hd)
  have X := Lib.hid (chkPR_any (cutP p.f (minI' p.k q.k) (rawT q (fstT p))) (in_cut hI (by omega) (by omega) (by omega) (by omega) (by show 0 ≤ q.k + q.u; omega) (by show q.k + q.u ≤ 3; omega)))
  have hv := @thV p.f p.k p.p0 p.p1 p.p2 p.p3 p.u p.l0 p.l1 p.l2 q.f q.k q.p0 q.p1 q.p2 q.p3 q.u q.l0 q.l1 q.l2 hp hq hd
  have m0 := thM0 p.f p.k p.p0 p.p1 p.p2 p.p3 p.u p.l0 p.l1 p.l2 q.f q.k q.p0 q.p1 q.p2 q.p3 q.u q.l0 q.l1 q.l2 hp hq hd
  have m1 := thM1 p.f p.k p.p0 p.p1 p.p2 p.p3 p.u p.l0 p.l1 p.l2 q.f q.k q.p0 q.p1 q.p2 q.p3 q.u q.l0 q.l1 q.l2 hp hq hd
  have m2 := thM2 p.f p.k p.p0 p.p1 p.p2 p.p3 p.u p.l0 p.l1 p.l2 q.f q.k q.p0 q.p1 q.p2 q.p3 q.u q.l0 q.l1 q.l2 hp hq hd
  have m3 := thM3 p.f p.k p.p0 p.p1 p.p2 p.p3 p.u p.l0 p.l1 p.l2 q.f q.k q.p0 q.p1 q.p2 q.p3 q.u q.l0 q.l1 q.l2 hp hq hd
  have m4 := thM4 p.f p.k p.p0 p.p1 p.p2 p.p3 p.u p.l0 p.l1 p.l2 q.f q.k q.p0 q.p1 q.p2 q.p3 q.u q.l0 q.l1 q.l2 hp hq hd
  have m5 := thM5 p.f p.k p.p0 p.p1 p.p2 p.p3 p.u p.l0 p.l1 p.l2 q.f q.k q.p0 q.p1 q.p2 q.p3 q.u q.l0 q.l1 q.l2 hp hq hd
  have m6 := thM6 p.f p.k p.p0 p.p1 p.p2 p.p3 p.u p.l0 p.l1 p.l2 q.f q.k q.p0 q.p1 q.p2 q.p3 q.u q.l0 q.l1 q.l2 hp hq hd
  have m7 := thM7 p.f p.k p.p0 p.p1 p.p2 p.p3 p.u p.l0 p.l1 p.l2 q.f q.k q.p0 q.p1 q.p2 q.p3 q.u q.l0 q.l1 q.l2 hp hq hd
  have m8 := thM8 p.f p.k p.p0 p.p1 p.p2 p.p3 p.u p.l0 p.l1 p.l2 q.f q.k q.p0 q.p1 q.p2 q.p3 q.u q.l0 q.l1 q.l2 hp hq hd
  have m9 := thM9 p.f p.k p.p0 p.p1 p.p2 p.p3 p.u p.l0 p.l1 p.l2 q.f q.k q.p0 q.p1 q.p2 q.p3 q.u q.l0 q.l1 q.l2 hp hq hd
  have m10 := thM10 p.f p.k p.p0 p.p1 p.p2 p.p3 p.u p.l0 p.l1 p.l2 q.f q.k q.p0 q.p1 q.p2 q.p3 q.u q.l0 q.l1 q.l2 hp hq hd
  have m11 := thM11 p.f p.k p.p0 p.p1 p.p2 p.p3 p.u p.l0 p.l1 p.l2 q.f q.k q.p0 q.p1 q.p2 q.p3 q.u q.l0 q.l1 q.l2 hp hq hd
  exact thenR_walk p.f p.k p.p0 p.p1 p.p2 p.p3 p.u p.l0 p.l1 p.l2 q.f q.k q.p0 q.p1 q.p2 q.p3 q.u q.l0 q.l1 q.l2 (minI' p.k q.k) _ _ _ (p.k + p.u) _ _ G VV A B T X
    (Lib.hid m0) (Lib.hid m1) (Lib.hid m2) (Lib.hid m3) (Lib.hid m4) (Lib.hid m5)
    (Lib.hid m6) (Lib.hid m7) (Lib.hid m8) (Lib.hid m9) (Lib.hid m10) (Lib.hid m11)
    (by simp [hd]) (min_min _ _) (Lib.hid (min_min _ _).symm) (by omega) (by omega) (by omega) (by omega) (by omega) (by omega)
    i.p00 (by omega) i.p10 (by omega) i.p20 (by omega) i.p30 (by omega)
    i.l00 (by omega) i.l10 (by omega) i.l20 (by omega)
    j.p00 (by omega) j.p10 (by omega) j.p20 (by omega) j.p30 (by omega)
    j.l00 (by omega) j.l10 (by omega) j.l20 (by omega)
    (Lib.hid hv) (Lib.hid hc) w
theorem thenR_any (p q : Pa) (i : p.In) (j : q.In) (w : World) : Calls Try.prog 12 #[.agg #[.int .i64 p.f, .int .i64 p.k, .int .u32 p.p0, .int .u32 p.p1, .int .u32 p.p2, .int .u32 p.p3, .int .i64 p.u, .int .u32 p.l0, .int .u32 p.l1, .int .u32 p.l2], .agg #[.int .i64 q.f, .int .i64 q.k, .int .u32 q.p0, .int .u32 q.p1, .int .u32 q.p2, .int .u32 q.p3, .int .i64 q.u, .int .u32 q.l0, .int .u32 q.l1, .int .u32 q.l2]] w (Gives (thenV p q) (thenE p q) w) := by
  by_cases hp : chkP p = 0
  · by_cases hq : chkP q = 0
    · by_cases hd : p.k + p.u = q.f
      · have bp := chkP_open hp
        have bq := chkP_open hq
        have hm := min_le p.k q.k
        by_cases ov : overT (rawT q (fstT p))
        · rw [show thenE p q = 9 by unfold thenE; rw [if_pos hp, if_pos hq, if_pos hd, if_pos ov], show thenV p q = P0 by unfold thenV thenE; rw [if_pos hp, if_pos hq, if_pos hd, if_pos ov, if_neg (by omega)]]
          exact thenR_good p q i j hp hq hd _ _ (.inr ⟨cut_over (by omega) (by omega) ov, rfl, rfl⟩) w
        · have he : thenE p q = 0 := by unfold thenE; rw [if_pos hp, if_pos hq, if_pos hd, if_neg ov]
          have hc := then_chk he
          have hv := then_val he
          rw [hv] at hc
          rw [he, hv]
          exact thenR_good p q i j hp hq hd _ _ (.inl ⟨hc, rfl, rfl⟩) w
      · rw [show thenE p q = 10 by unfold thenE; rw [if_pos hp, if_pos hq, if_neg hd], show thenV p q = P0 by unfold thenV thenE; rw [if_pos hp, if_pos hq, if_neg hd, if_neg (by omega)]]
        exact thenR_bad3 p q i j hp hq hd w
    · rw [show thenE p q = chkP q by unfold thenE; rw [if_pos hp, if_neg hq], show thenV p q = P0 by unfold thenV thenE; rw [if_pos hp, if_neg hq, if_neg hq]]
      exact thenR_bad2 p q i j hp hq w
  · rw [show thenE p q = chkP p by unfold thenE; rw [if_neg hp], show thenV p q = P0 by unfold thenV thenE; rw [if_neg hp, if_neg hp]]
    exact thenR_bad1 p q i hp w
end Go.Proofs.Ytilkdpobkcocoaa.path
