/-
  A time and what is wrong, handed back; what a block that is known whole holds.
-/
import Derived.Test.YtilkdpobkcocoaaDoorWrt
import Derived.Test.YtilkdpobkcocoaaDoorWh
namespace Go.Proofs.YtilkdpobkcocoaaDoor.stamp
open Go.ChangeShapes Go.WideShapes Go.ChangeAt Go.RowKit
open Go.Proofs.YtilkdpobkcocoaaDoor.tm Go.Proofs.YtilkdpobkcocoaaDoor.opened Go.Proofs.YtilkdpobkcocoaaDoor.block

theorem all_of {w : World} {g : Nat} {t : TypeId} {cs : Array Value} (h : Whole w g t cs) : (∀ i, w.cell? ⟨g, i, none⟩ = cs[i]?) ∧ (∀ i, w.frozen? ⟨g, i, none⟩ = false) := ⟨h.read, h.soft⟩
/-- A time and what is wrong, handed back. -/
def GivesT (t : Tm) (x : Int) (w : World) (e : Ending) (w' : World) : Prop := e = .returned (.tuple #[.agg #[.int .u32 t.e, .int .i64 t.d, .int .u32 t.a, .int .u32 t.b, .int .u32 t.c], .int .i64 x]) ∧ Below w.heap.size w w'
theorem givesT {s t : Tm} {x y : Int} {w w' : World} (hb : Below w.heap.size w w') (h : s = t) (k : y = x) : GivesT t x w (.returned (.tuple #[.agg #[.int .u32 s.e, .int .i64 s.d, .int .u32 s.a, .int .u32 s.b, .int .u32 s.c], .int .i64 y])) w' := by rw [h, k]; exact ⟨rfl, hb⟩
theorem size_time : (Tryd.prog.info? 25).map (·.size) = some 5 := by kernel_rfl
theorem two_time {fn : Func} {p q : Tmp} (h : fn.results = #[.cell p 25, .tmp q]) {tmps : Array Value} {w : World} {g : Nat} {ty : TypeId} {t : Tm} {x : Int}
    (hp : tmps[p]?.getD undef = .pointer (some ⟨g, 0, none⟩)) (hq : tmps[q]?.getD undef = .int .i64 x) (hw : Whole w g ty #[.int .u32 t.e, .int .i64 t.d, .int .u32 t.a, .int .u32 t.b, .int .u32 t.c]) : (results fn tmps).run Tryd.prog w = .ok (.tuple #[.agg #[.int .u32 t.e, .int .i64 t.d, .int .u32 t.a, .int .u32 t.b, .int .u32 t.c], .int .i64 x]) w := by
  simp [results, h, hp, hq, asAddr, loaded hw Tryd.underlying25 rfl size_time]
end Go.Proofs.YtilkdpobkcocoaaDoor.stamp
