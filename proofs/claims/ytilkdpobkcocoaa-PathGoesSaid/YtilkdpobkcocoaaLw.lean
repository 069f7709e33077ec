/-
  What the laws' walks share: two paths and a time that came in, known in each world behind.
-/
import Derived.Test.YtilkdpobkcocoaaWk
import Derived.Test.YtilkdpobkcocoaaConv
import Derived.Test.YtilkdpobkcocoaaOpenP
import Derived.Test.YtilkdpobkcocoaaOpenT
import Derived.Test.YtilkdpobkcocoaaPl
import Derived.Deep.RegionHeld3
import Derived.Deep.RegionHeld
import Derived.Deep.Cut
import Derived.Deep.CutRange
namespace Go.Proofs.Ytilkdpobkcocoaa.path
open Go.ChangeShapes Go.WideShapes Go.ChangeAt Go.RowKit
open Go.Proofs.Ytilkdpobkcocoaa.tm Go.Proofs.Ytilkdpobkcocoaa.opened Go.Proofs.Ytilkdpobkcocoaa.block Go.Proofs.Ytilkdpobkcocoaa.stamp Go.Proofs.Ytilkdpobkcocoaa.pa

/-- Three blocks are known; nothing older has turned. -/
structure Tri (w wr : World) (g : Nat) (ta tb tc : TypeId) (a b c : Array Value) : Prop where
  one : Whole wr g ta a
  two : Whole wr (g + 1) tb b
  tre : Whole wr (g + 1 + 1) tc c
  old : Below w.heap.size w wr
  base : w.heap.size = g
theorem Tri.below {w wr w1 : World} {g : Nat} {ta tb tc : TypeId} {a b c : Array Value} (h : Tri w wr g ta tb tc a b c) (k : Below wr.heap.size wr w1) : Tri w w1 g ta tb tc a b c :=
  ⟨h.one.below k h.one.inside, h.two.below k h.two.inside, h.tre.below k h.tre.inside, h.old.trans (k.mono h.old.size), h.base⟩
theorem Tri.fresh (w : World) (ta tb tc : TypeId) (a b c : Array Value) : Tri w (((w.alloc (.cells a ta)).alloc (.cells b tb)).alloc (.cells c tc)) w.heap.size ta tb tc a b c := by
  refine ⟨((Whole.fresh w ta _).alloc _).alloc _, ?_, ?_, (fresh2 _ _ _).alloc (by simp; omega) _, rfl⟩
  · have k := Whole.fresh (w.alloc (.cells a ta)) tb b
    rw [World.size_alloc] at k
    exact k.alloc _
  · have k := Whole.fresh ((w.alloc (.cells a ta)).alloc (.cells b tb)) tc c
    rw [World.size_alloc, World.size_alloc] at k
    exact k
theorem Tri.alloc {w wr : World} {g : Nat} {ta tb tc : TypeId} {a b c : Array Value} (h : Tri w wr g ta tb tc a b c) (o : Obj) : Tri w (wr.alloc o) g ta tb tc a b c :=
  ⟨h.one.alloc o, h.two.alloc o, h.tre.alloc o, h.old.alloc h.old.size _, h.base⟩
theorem Tri.drew {w wr : World} {g : Nat} {ta tb tc : TypeId} {a b c : Array Value} (h : Tri w wr g ta tb tc a b c) : Tri w wr.drew g ta tb tc a b c := ⟨h.one, h.two, h.tre, h.old.drew, h.base⟩
/-- What three known blocks hold, in one world behind. -/
theorem Tri.reads {w wr : World} {g : Nat} {ta tb tc : TypeId} {a b c : Array Value} (h : Tri w wr g ta tb tc a b c) : (∀ i, wr.cell? ⟨g, i, none⟩ = a[i]?) ∧ (∀ i, wr.cell? ⟨g + 1, i, none⟩ = b[i]?) ∧ (∀ i, wr.cell? ⟨g + 1 + 1, i, none⟩ = c[i]?) := ⟨h.one.read, h.two.read, h.tre.read⟩
theorem Tri.since {w W : World} {g : Nat} {ta tb tc : TypeId} {a b c : Array Value} (h : Tri w W g ta tb tc a b c) : (∀ (x : Since W) (i : Nat), x.1.cell? ⟨g, i, none⟩ = a[i]?) ∧ (∀ (x : Since W) (i : Nat), x.1.cell? ⟨g + 1, i, none⟩ = b[i]?) ∧ (∀ (x : Since W) (i : Nat), x.1.cell? ⟨g + 1 + 1, i, none⟩ = c[i]?) :=
  ⟨fun x i => (h.one.below x.2 h.one.inside).read i, fun x i => (h.two.below x.2 h.two.inside).read i, fun x i => (h.tre.below x.2 h.tre.inside).read i⟩
/-- What three blocks hold. -/
theorem reads_alloc {W : World} {g : Nat} {a b c : Array Value} (h : (∀ i, W.cell? ⟨g, i, none⟩ = a[i]?) ∧ (∀ i, W.cell? ⟨g + 1, i, none⟩ = b[i]?) ∧ (∀ i, W.cell? ⟨g + 1 + 1, i, none⟩ = c[i]?)) (hg : g + 1 + 1 < W.heap.size) (o : Obj) :
    (∀ i, (W.alloc o).cell? ⟨g, i, none⟩ = a[i]?) ∧ (∀ i, (W.alloc o).cell? ⟨g + 1, i, none⟩ = b[i]?) ∧ (∀ i, (W.alloc o).cell? ⟨g + 1 + 1, i, none⟩ = c[i]?) :=
  ⟨fun i => (World.cell?_alloc_past o g i (by omega)).trans (h.1 i), fun i => (World.cell?_alloc_past o (g + 1) i (by omega)).trans (h.2.1 i), fun i => (World.cell?_alloc_past o (g + 1 + 1) i hg).trans (h.2.2 i)⟩
theorem reads_set {W : World} {g n j : Nat} {v : Value} {a b c : Array Value} (h : (∀ i, W.cell? ⟨g, i, none⟩ = a[i]?) ∧ (∀ i, W.cell? ⟨g + 1, i, none⟩ = b[i]?) ∧ (∀ i, W.cell? ⟨g + 1 + 1, i, none⟩ = c[i]?)) (hg : g + 1 + 1 < n) :
    (∀ i, (W.setCell ⟨n, j, none⟩ v).cell? ⟨g, i, none⟩ = a[i]?) ∧ (∀ i, (W.setCell ⟨n, j, none⟩ v).cell? ⟨g + 1, i, none⟩ = b[i]?) ∧ (∀ i, (W.setCell ⟨n, j, none⟩ v).cell? ⟨g + 1 + 1, i, none⟩ = c[i]?) :=
  ⟨fun i => (World.cell?_setCell_far W ⟨n, j, none⟩ ⟨g, i, none⟩ v (by simp; omega)).trans (h.1 i), fun i => (World.cell?_setCell_far W ⟨n, j, none⟩ ⟨g + 1, i, none⟩ v (by simp; omega)).trans (h.2.1 i), fun i => (World.cell?_setCell_far W ⟨n, j, none⟩ ⟨g + 1 + 1, i, none⟩ v (by simp; omega)).trans (h.2.2 i)⟩
theorem Tri.aside {w wr : World} {g n j : Nat} {ta tb tc : TypeId} {a b c : Array Value} (h : Tri w wr g ta tb tc a b c) (hn : g + 1 + 1 < n) (v : Value) : Tri w (wr.setCell ⟨n, j, none⟩ v) g ta tb tc a b c :=
  ⟨h.one.aside (by simp; omega) v, h.two.aside (by simp; omega) v, h.tre.aside (by simp; omega) v, h.old.setCell (by have := h.base; simp; omega) v, h.base⟩
theorem five {w : World} {g : Nat} {t : TypeId} {a b c d e : Value} (h : Whole w g t #[a, b, c, d, e]) (v0 v1 v2 v3 v4 : Value) :
    Whole (((((w.setCell ⟨g, 0, none⟩ v0).setCell ⟨g, 1, none⟩ v1).setCell ⟨g, 2, none⟩ v2).setCell ⟨g, 3, none⟩ v3).setCell ⟨g, 4, none⟩ v4) g t #[v0, v1, v2, v3, v4] := by
  have k := ((((h.store 0 v0).store 1 v1).store 2 v2).store 3 v3).store 4 v4
  simpa using k
/-- A time has been laid into a block of its own; the three are known still. -/
def LaidT (w : World) (g : Nat) (ta tb tc : TypeId) (a b c : Array Value) (t : Tm) (x : Int) (p e : Value) (wx : World) : Prop :=
  ∃ n : Nat, p = .pointer (some ⟨n, 0, none⟩) ∧ e = .int .i64 x ∧ Tri w wx g ta tb tc a b c ∧ Whole wx n 28 #[.int .u32 t.e, .int .i64 t.d, .int .u32 t.a, .int .u32 t.b, .int .u32 t.c] ∧ g + 1 + 1 < n
end Go.Proofs.Ytilkdpobkcocoaa.path
