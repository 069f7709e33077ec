/-
  The laws' own conversions of a path: all cells stay.
-/
import Derived.Test.YtlbphlhbofjfgaaDoorJKn
namespace Go.Proofs.YtlbphlhbofjfgaaDoor.path
open Go.ChangeShapes Go.WideShapes Go.ChangeAt Go.RowKit
open Go.Proofs.YtlbphlhbofjfgaaDoor.tm Go.Proofs.YtlbphlhbofjfgaaDoor.opened Go.Proofs.YtlbphlhbofjfgaaDoor.block Go.Proofs.YtlbphlhbofjfgaaDoor.stamp Go.Proofs.YtlbphlhbofjfgaaDoor.pa

theorem from_any (p : Pa) (w : World) : Calls Tryd.prog 20 #[.agg #[.int .i64 p.f, .int .i64 p.k, .int .u32 p.p0, .int .u32 p.p1, .int .u32 p.p2, .int .u32 p.p3, .int .i64 p.u, .int .u32 p.l0, .int .u32 p.l1, .int .u32 p.l2]] w fun e w' => e = .returned (.agg #[.int .i64 p.f, .int .i64 p.k, .int .u32 p.p0, .int .u32 p.p1, .int .u32 p.p2, .int .u32 p.p3, .int .i64 p.u, .int .u32 p.l0, .int .u32 p.l1, .int .u32 p.l2]) ∧ Below w.heap.size w w' := by
  go_enter Tryd.func20, Tryd.ntmps20
  go_wp2
  exact bodyPost_ret (v := .agg #[.int .i64 p.f, .int .i64 p.k, .int .u32 p.p0, .int .u32 p.p1, .int .u32 p.p2, .int .u32 p.p3, .int .i64 p.u, .int .u32 p.l0, .int .u32 p.l1, .int .u32 p.l2]) (by simp [results, Tryd.results20, go_sem]) rfl ⟨rfl, fresh2 _ _ _⟩
end Go.Proofs.YtlbphlhbofjfgaaDoor.path
