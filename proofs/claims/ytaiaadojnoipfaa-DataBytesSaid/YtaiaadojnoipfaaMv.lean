/-
  The contracts of what makes one time of another.
-/
import Derived.Test.YtaiaadojnoipfaaChk
namespace Go.Proofs.Ytaiaadojnoipfaa.stamp
open Go.ChangeShapes Go.WideShapes Go.ChangeAt Go.RowKit
open Go.Proofs.Ytaiaadojnoipfaa.tm Go.Proofs.Ytaiaadojnoipfaa.opened Go.Proofs.Ytaiaadojnoipfaa.block

theorem fresh2 (w : World) (o o' : Obj) : Below w.heap.size w ((w.alloc o).alloc o') := ((Below.refl _ _).alloc (Nat.le_refl _) _).alloc (by simp) _
theorem over2 {w w1 : World} {o o' : Obj} (b1 : Below ((w.alloc o).alloc o').heap.size ((w.alloc o).alloc o') w1) : Below w.heap.size w w1 := (fresh2 _ _ _).trans (b1.mono (by simp; omega))
theorem over1 {w w1 : World} {o : Obj} (b1 : Below (w.alloc o).heap.size (w.alloc o) w1) : Below w.heap.size w w1 := (fresh1 _ _).trans (b1.mono (by simp))
theorem bcell {W w1 : World} (hb : Below W.heap.size W w1) : (∀ b o, b < W.heap.size → w1.cell? ⟨b, o, none⟩ = W.cell? ⟨b, o, none⟩) ∧ (∀ b o, b < W.heap.size → w1.frozen? ⟨b, o, none⟩ = W.frozen? ⟨b, o, none⟩) :=
  ⟨fun b o h => hb.cell (p := ⟨b, o, none⟩) h, fun b o h => hb.frozen (p := ⟨b, o, none⟩) h⟩
theorem tup {a b : Tm} {x y : Int} (h : a = b) (k : x = y) : Ending.returned (.tuple #[.agg #[.int .u32 a.e, .int .i64 a.d, .int .u32 a.a, .int .u32 a.b, .int .u32 a.c], .int .i64 x]) = .returned (.tuple #[.agg #[.int .u32 b.e, .int .i64 b.d, .int .u32 b.a, .int .u32 b.b, .int .u32 b.c], .int .i64 y]) := by rw [h, k]
theorem check_is (t : Tm) (i : t.In) {E : Int} (h : chk t = E) (w : World) : Calls Try.prog 44 #[.agg #[.int .u32 t.e, .int .i64 t.d, .int .u32 t.a, .int .u32 t.b, .int .u32 t.c]] w fun e w' => e = .returned (.int .i64 E) ∧ Below w.heap.size w w' := by
  have k := check_any t i w
  rw [h] at k
  exact k
theorem checkR_is (t : Tm) (i : t.In) {E : Int} (h : chk t = E) (w : World) : Calls Try.prog 45 #[.agg #[.int .u32 t.e, .int .i64 t.d, .int .u32 t.a, .int .u32 t.b, .int .u32 t.c]] w fun e w' => e = .returned (.int .i64 E) ∧ Below w.heap.size w w' := by
  have k := checkR_any t i w
  rw [h] at k
  exact k
end Go.Proofs.Ytaiaadojnoipfaa.stamp
