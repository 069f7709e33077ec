/-
  Two paths are not the same: the model's '!=', off its '=='.
-/
import Derived.Test.YtilkdpobkcocoaaEqP
namespace Go.Proofs.Ytilkdpobkcocoaa.path
open Go.ChangeShapes Go.WideShapes Go.ChangeAt Go.RowKit
open Go.Proofs.Ytilkdpobkcocoaa.tm Go.Proofs.Ytilkdpobkcocoaa.opened Go.Proofs.Ytilkdpobkcocoaa.block Go.Proofs.Ytilkdpobkcocoaa.stamp Go.Proofs.Ytilkdpobkcocoaa.pa

theorem run_ne_agg {P : Program} {t : TypeId} {x y : Array Value} {b : Bool} {w : World} (h : (binOp .eql t (.agg x) (.agg y)).run P w = .ok (.bool b) w) : (binOp .neq t (.agg x) (.agg y)).run P w = .ok (.bool (!b)) w := by
  simp only [binOp, Sem.run_bind, Sem.run_pure] at h ⊢
  cases hr : (Op.equal t (.agg x) (.agg y)).run P w with
  | ok v w2 =>
    rw [hr] at h
    simp only [Result.andThen_ok] at h ⊢
    injection h with h1 h2
    injection h1 with h1
    rw [h1, h2]
  | _ => rw [hr] at h; simp [Result.andThen] at h
theorem run_neP (p q : Pa) (w : World) : (binOp .neq 32 (.agg #[.int .i64 p.f, .int .i64 p.k, .int .u32 p.p0, .int .u32 p.p1, .int .u32 p.p2, .int .u32 p.p3, .int .i64 p.u, .int .u32 p.l0, .int .u32 p.l1, .int .u32 p.l2]) (.agg #[.int .i64 q.f, .int .i64 q.k, .int .u32 q.p0, .int .u32 q.p1, .int .u32 q.p2, .int .u32 q.p3, .int .i64 q.u, .int .u32 q.l0, .int .u32 q.l1, .int .u32 q.l2])).run Try.prog w = .ok (.bool (!eqP p q)) w := run_ne_agg (run_eqP p q w)
theorem run_nePR (p q : Pa) (w : World) : (binOp .neq 26 (.agg #[.int .i64 p.f, .int .i64 p.k, .int .u32 p.p0, .int .u32 p.p1, .int .u32 p.p2, .int .u32 p.p3, .int .i64 p.u, .int .u32 p.l0, .int .u32 p.l1, .int .u32 p.l2]) (.agg #[.int .i64 q.f, .int .i64 q.k, .int .u32 q.p0, .int .u32 q.p1, .int .u32 q.p2, .int .u32 q.p3, .int .i64 q.u, .int .u32 q.l0, .int .u32 q.l1, .int .u32 q.l2])).run Try.prog w = .ok (.bool (!eqP p q)) w := run_ne_agg (run_eqPR p q w)
end Go.Proofs.Ytilkdpobkcocoaa.path
