/-
  From: the document's letter of the program's.
-/
import Derived.Test.YtbomlapmoiamgaaWv1
set_option linter.unusedSimpArgs false
set_option linter.unusedVariables false
namespace Go.Proofs.Ytbomlapmoiamgaa.wan
open Go.ChangeShapes Go.WideShapes Go.ChangeAt Go.RowKit
open Go.Proofs.Ytbomlapmoiamgaa.opened Go.Proofs.Ytbomlapmoiamgaa.block Go.Proofs.Ytbomlapmoiamgaa.words Go.Proofs.Ytbomlapmoiamgaa.region
theorem one_letter {fn : Func} {p : Tmp} {tl : TypeId} {fs} (h : fn.results = #[.cell p tl]) {tmps : Array Value} {w : World} {g : Nat} {ty : TypeId} {e : Lt}
    (hp : tmps[p]?.getD undef = .pointer (some ⟨g, 0, none⟩)) (hw : Whole w g ty (cL e).toArray) (hu : Try.prog.underlying tl = some (.struct fs)) (hi : (Try.prog.info? tl).map (·.size) = some 3) : (results fn tmps).run Try.prog w = .ok e.val w := by
  simp [results, h, hp, asAddr, loaded hw hu rfl hi, cL]
section
variable {w : World}
set_option maxRecDepth 100000 in
theorem from_any (l : Lt) (w : World) : Calls Try.prog 13 #[l.val] w fun e w' => e = .returned l.val ∧ Below w.heap.size w w' := by
  have B2 : Hid (Below w.heap.size w ((w.alloc (.cells (cL l).toArray 34)).alloc (.cells zL 36))) := Lib.hid (then_below (fresh1 w _) (fresh1 _ _))
  have R1 : Hid (Whole ((w.alloc (.cells (cL l).toArray 34)).alloc (.cells zL 36)) w.heap.size 34 (cL l).toArray) := Lib.hid ((Whole.fresh w 34 (cL l).toArray).alloc _)
  have hsz : (w.alloc (.cells (cL l).toArray 34)).heap.size = w.heap.size + 1 := Array.size_push ..
  have R2 : Hid (Whole ((w.alloc (.cells (cL l).toArray 34)).alloc (.cells zL 36)) (w.heap.size + 1) 36 zL) := Lib.hid (by
    have := Whole.fresh (w.alloc (.cells (cL l).toArray 34)) 36 zL
    rwa [hsz] at this)
  clear hsz
  go_enter Try.func13, Try.ntmps13
  go_upto_region 1 with fail
  change Code.wp _ _ _ _ ((w.alloc (.cells (cL l).toArray 34)).alloc (.cells zL 36))
  generalize (w.alloc (.cells (cL l).toArray 34)).alloc (.cells zL 36) = w2 at B2 R1 R2 ⊢
  have k0 : w2.cell? ⟨w.heap.size, 0, none⟩ = some (.int .i64 l.f) := R1.out.read 0
  have k1 : w2.cell? ⟨w.heap.size, 1, none⟩ = some (.int .i64 l.t) := R1.out.read 1
  have k2 : w2.cell? ⟨w.heap.size, 2, none⟩ = some (sV l.s) := R1.out.read 2
  go_wp2_with (refine put rfl 36 (.tmp 2) _ rfl (g := w.heap.size + 1) rfl rfl R2.out (by kernel_rfl) rfl (by simp [Value.oneCell']) B2.out (by omega) ?_; intro w9 hR9 hB9 hs9 ho9)
  exact bodyPost_ret (one_letter Try.results13 rfl (e := l) hR9 Try.underlying36 infoR3) rfl ⟨rfl, hB9⟩
end
end Go.Proofs.Ytbomlapmoiamgaa.wan
