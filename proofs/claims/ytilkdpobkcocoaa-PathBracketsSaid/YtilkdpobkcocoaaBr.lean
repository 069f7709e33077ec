/-
  Three paths, one behind the other, do not hang on brackets; a path that changes nothing changes none; no condition.
-/
import Derived.Test.YtilkdpobkcocoaaBr1
import Derived.Test.YtilkdpobkcocoaaBr2
namespace Go.Proofs.Ytilkdpobkcocoaa.pathBrackets
open Go.ChangeShapes Go.WideShapes Go.ChangeAt Go.RowKit
open Go.Proofs.Ytilkdpobkcocoaa.tm Go.Proofs.Ytilkdpobkcocoaa.opened Go.Proofs.Ytilkdpobkcocoaa.block Go.Proofs.Ytilkdpobkcocoaa.stamp Go.Proofs.Ytilkdpobkcocoaa.pa Go.Proofs.Ytilkdpobkcocoaa.path Go.Proofs.Ytilkdpobkcocoaa.region

theorem walk (p q s : Pa) (i : p.In) (j : q.In) (k : s.In) (w : World) : Calls Try.prog 4 #[.agg #[.int .i64 p.f, .int .i64 p.k, .int .u32 p.p0, .int .u32 p.p1, .int .u32 p.p2, .int .u32 p.p3, .int .i64 p.u, .int .u32 p.l0, .int .u32 p.l1, .int .u32 p.l2], .agg #[.int .i64 q.f, .int .i64 q.k, .int .u32 q.p0, .int .u32 q.p1, .int .u32 q.p2, .int .u32 q.p3, .int .i64 q.u, .int .u32 q.l0, .int .u32 q.l1, .int .u32 q.l2], .agg #[.int .i64 s.f, .int .i64 s.k, .int .u32 s.p0, .int .u32 s.p1, .int .u32 s.p2, .int .u32 s.p3, .int .i64 s.u, .int .u32 s.l0, .int .u32 s.l1, .int .u32 s.l2]] w fun e w' => e = .returned (.bool true) ∧ Below w.heap.size w w' := by
  by_cases z : chkP p = 0
  · by_cases a : thenE p q = 0
    · by_cases b : thenE q s = 0
      · by_cases c : thenE (thenV p q) s = 0
        · by_cases d : thenE p (thenV q s) = 0
          · exact walk5 p q s i j k z ⟨a, b, c, d⟩ w
          · exact walk4 p q s i j k z ⟨a, b, c, d⟩ w
        · exact walk3 p q s i j k z ⟨a, b, c⟩ w
      · exact walk2 p q s i j k z ⟨a, b⟩ w
    · exact walk1 p q s i j k z a w
  · exact walk0 p q s i j k z w
set_option maxRecDepth 100000 in
theorem told (W : World) (args : Array Value) (h : Fed Try.prog W [26, 26, 26] args) : Calls Try.prog 4 args W fun e W' => e = .returned (.bool true) ∧ Below W.heap.size W W' := by
  obtain ⟨v0, v1, v2, rfl⟩ := args3 h.count
  obtain ⟨⟨_, o0⟩, r0⟩ := h.each 0 26 v0 rfl rfl
  obtain ⟨⟨_, o1⟩, r1⟩ := h.each 1 26 v1 rfl rfl
  obtain ⟨⟨_, o2⟩, r2⟩ := h.each 2 26 v2 rfl rfl
  obtain ⟨a0, q0⟩ := r0 opens_path
  obtain ⟨t0, i0, rfl⟩ := top_path o0 q0
  obtain ⟨a1, q1⟩ := r1 opens_path
  obtain ⟨t1, i1, rfl⟩ := top_path o1 q1
  obtain ⟨a2, q2⟩ := r2 opens_path
  obtain ⟨t2, i2, rfl⟩ := top_path o2 q2
  exact walk t0 t1 t2 i0 i1 i2 W

/-! ### The row -/
theorem own : ownKnob Try.prog.godebug = none := by kernel_rfl
theorem laidOut : laidOutB Try.prog = true := by kernel_rfl
set_option maxRecDepth 100000 in
theorem lifted (os : Os) (started : os.Started) (H : Type) (enc : TypeId × Value → H) :
    ReturnsInHanded {} Try.checked os 4 .any (Rows.pathBracketsSpec.pre6 enc Try.prog Try.f4 Rows.pathBracketsRow.domain false) (Rows.pathBracketsSpec.post enc Try.prog Try.f4 false true false false) :=
  lift (C := Try.checked) (fn := Try.f4) (tb := 4) (ts := [26, 26, 26]) own started (by kernel_rfl) Try.func4 laidOut (by kernel_rfl) (by kernel_rfl) (by kernel_rfl) Try.underlying4 rfl
    (fun ds h => by
      match ds, h with
      | [_, _, _], _ => rfl)
    (ChangeSpec.witness6 (enc := enc) (C := Try.checked) false ⟨#[], #[.agg #[.int .i64 0, .int .i64 0, .int .u32 0, .int .u32 0, .int .u32 0, .int .u32 0, .int .i64 0, .int .u32 0, .int .u32 0, .int .u32 0], .agg #[.int .i64 0, .int .i64 0, .int .u32 0, .int .u32 0, .int .u32 0, .int .u32 0, .int .i64 0, .int .u32 0, .int .u32 0, .int .u32 0], .agg #[.int .i64 0, .int .i64 0, .int .u32 0, .int .u32 0, .int .u32 0, .int .u32 0, .int .i64 0, .int .u32 0, .int .u32 0, .int .u32 0]], []⟩ 8 (by kernel_rfl) (by kernel_rfl) (by kernel_rfl) (by kernel_rfl)) told

theorem over : Rows.pathBracketsRow.holds Try.pinned (OpenSpec.ofChange Rows.pathBracketsSpec) :=
  OpenClaim.holds_of_wide 4 Try.f4 rfl rfl rfl rfl rfl rfl rfl ⟨rfl, rfl, rfl, rfl, rfl⟩ rfl rfl rfl rfl rfl (by kernel_rfl) Try.func4 (by kernel_rfl)
    (of_decide_eq_true (by kernel_rfl)) (by unfold Func.isWrapper; first | (rw [if_pos (by decide +kernel)]; kernel_rfl) | (rw [if_neg (by decide +kernel)]; exact ⟨rfl, rfl⟩))
    (fun os started H enc _ => lifted os started H enc)

theorem proved : Rows.PathBracketsSaid := over
#print axioms proved
end Go.Proofs.Ytilkdpobkcocoaa.pathBrackets
