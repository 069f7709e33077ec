/-
  Blocks that are known whole, as a walk wants them; a path and what is wrong, handed back.
-/
import Derived.Test.YtlbphlhbofjfgaaDoorJChk
import Derived.Test.YtlbphlhbofjfgaaDoorJLe
import Derived.Test.YtlbphlhbofjfgaaDoorJPa
import Derived.Test.YtlbphlhbofjfgaaDoorJBlock
namespace Go.Proofs.YtlbphlhbofjfgaaDoor.path
open Go.ChangeShapes Go.WideShapes Go.ChangeAt Go.RowKit
open Go.Proofs.YtlbphlhbofjfgaaDoor.tm Go.Proofs.YtlbphlhbofjfgaaDoor.opened Go.Proofs.YtlbphlhbofjfgaaDoor.block Go.Proofs.YtlbphlhbofjfgaaDoor.stamp Go.Proofs.YtlbphlhbofjfgaaDoor.pa

theorem over1 {w w1 : World} {o : Obj} (b1 : Below (w.alloc o).heap.size (w.alloc o) w1) : Below w.heap.size w w1 := (fresh1 _ _).trans (b1.mono (by simp))
/-- What a block that is known whole holds, and that it may be written. -/
theorem all_of {w : World} {g : Nat} {t : TypeId} {cs : Array Value} (h : Whole w g t cs) : (∀ i, w.cell? ⟨g, i, none⟩ = cs[i]?) ∧ (∀ i, w.frozen? ⟨g, i, none⟩ = false) := ⟨h.read, h.soft⟩
/-- Behind a call, a block that was made ahead of it. -/
theorem res_of {w w1 : World} {t : TypeId} {cs : Array Value} (b : Below (w.alloc (.cells cs t)).heap.size (w.alloc (.cells cs t)) w1) : Whole w1 w.heap.size t cs ∧ Below w.heap.size w w1 ∧ w.heap.size < w1.heap.size :=
  ⟨(Whole.fresh w t cs).below b (by simp), (fresh1 _ _).trans (b.mono (by simp)), by have := b.size; simp at this; omega⟩
theorem ten {w : World} {g : Nat} {t : TypeId} {a b c d e f h i j k : Value} (hw : Whole w g t #[a, b, c, d, e, f, h, i, j, k]) (v0 v1 v2 v3 v4 v5 v6 v7 v8 v9 : Value) :
    Whole ((((((((((w.setCell ⟨g, 0, none⟩ v0).setCell ⟨g, 1, none⟩ v1).setCell ⟨g, 2, none⟩ v2).setCell ⟨g, 3, none⟩ v3).setCell ⟨g, 4, none⟩ v4).setCell ⟨g, 5, none⟩ v5).setCell ⟨g, 6, none⟩ v6).setCell ⟨g, 7, none⟩ v7).setCell ⟨g, 8, none⟩ v8).setCell ⟨g, 9, none⟩ v9) g t #[v0, v1, v2, v3, v4, v5, v6, v7, v8, v9] := by
  have h := (((((((((hw.store 0 v0).store 1 v1).store 2 v2).store 3 v3).store 4 v4).store 5 v5).store 6 v6).store 7 v7).store 8 v8).store 9 v9
  simpa using h
/-- A path and what is wrong, handed back. -/
def Gives (p : Pa) (x : Int) (w : World) (e : Ending) (w' : World) : Prop := e = .returned (.tuple #[.agg #[.int .i64 p.f, .int .i64 p.k, .int .u32 p.p0, .int .u32 p.p1, .int .u32 p.p2, .int .u32 p.p3, .int .i64 p.u, .int .u32 p.l0, .int .u32 p.l1, .int .u32 p.l2], .int .i64 x]) ∧ Below w.heap.size w w'
theorem gives {p q : Pa} {x y : Int} {w w' : World} (hb : Below w.heap.size w w') (h : q = p) (k : y = x) : Gives p x w (.returned (.tuple #[.agg #[.int .i64 q.f, .int .i64 q.k, .int .u32 q.p0, .int .u32 q.p1, .int .u32 q.p2, .int .u32 q.p3, .int .i64 q.u, .int .u32 q.l0, .int .u32 q.l1, .int .u32 q.l2], .int .i64 y])) w' := by rw [h, k]; exact ⟨rfl, hb⟩
theorem gives_at {p q : Pa} {x y : Int} {w w' : World} {g : Nat} (hg : Hid (w.heap.size = g)) (hb : Below g w w') (h : q = p) (k : y = x) : Gives p x w (.returned (.tuple #[.agg #[.int .i64 q.f, .int .i64 q.k, .int .u32 q.p0, .int .u32 q.p1, .int .u32 q.p2, .int .u32 q.p3, .int .i64 q.u, .int .u32 q.l0, .int .u32 q.l1, .int .u32 q.l2], .int .i64 y])) w' := gives (hg.out ▸ hb) h k
theorem size_path : (Tryd.prog.info? 57).map (·.size) = some 10 := by kernel_rfl
theorem size_pathR : (Tryd.prog.info? 60).map (·.size) = some 10 := by kernel_rfl
/-- The two results of a function that hands back a path and what is wrong. -/
theorem two_path {fn : Func} {p q : Tmp} (h : fn.results = #[.cell p 57, .tmp q]) {tmps : Array Value} {w : World} {g : Nat} {t : TypeId} {P : Pa} {x : Int}
    (hp : tmps[p]?.getD undef = .pointer (some ⟨g, 0, none⟩)) (hq : tmps[q]?.getD undef = .int .i64 x) (hw : Whole w g t #[.int .i64 P.f, .int .i64 P.k, .int .u32 P.p0, .int .u32 P.p1, .int .u32 P.p2, .int .u32 P.p3, .int .i64 P.u, .int .u32 P.l0, .int .u32 P.l1, .int .u32 P.l2]) : (results fn tmps).run Tryd.prog w = .ok (.tuple #[.agg #[.int .i64 P.f, .int .i64 P.k, .int .u32 P.p0, .int .u32 P.p1, .int .u32 P.p2, .int .u32 P.p3, .int .i64 P.u, .int .u32 P.l0, .int .u32 P.l1, .int .u32 P.l2], .int .i64 x]) w := by
  simp [results, h, hp, hq, asAddr, loaded hw Tryd.underlying57 rfl size_path]
theorem two_pathR {fn : Func} {p q : Tmp} (h : fn.results = #[.cell p 60, .tmp q]) {tmps : Array Value} {w : World} {g : Nat} {t : TypeId} {P : Pa} {x : Int}
    (hp : tmps[p]?.getD undef = .pointer (some ⟨g, 0, none⟩)) (hq : tmps[q]?.getD undef = .int .i64 x) (hw : Whole w g t #[.int .i64 P.f, .int .i64 P.k, .int .u32 P.p0, .int .u32 P.p1, .int .u32 P.p2, .int .u32 P.p3, .int .i64 P.u, .int .u32 P.l0, .int .u32 P.l1, .int .u32 P.l2]) : (results fn tmps).run Tryd.prog w = .ok (.tuple #[.agg #[.int .i64 P.f, .int .i64 P.k, .int .u32 P.p0, .int .u32 P.p1, .int .u32 P.p2, .int .u32 P.p3, .int .i64 P.u, .int .u32 P.l0, .int .u32 P.l1, .int .u32 P.l2], .int .i64 x]) w := by
  simp [results, h, hp, hq, asAddr, loaded hw Tryd.underlying60 rfl size_pathR]
end Go.Proofs.YtlbphlhbofjfgaaDoor.path
