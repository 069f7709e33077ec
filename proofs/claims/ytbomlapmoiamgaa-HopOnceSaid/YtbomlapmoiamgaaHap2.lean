/-
  A row of one frame is made; a frame of the walk as a letter.
-/
import Derived.Test.YtbomlapmoiamgaaHap
import Derived.Great.BuildSlice
set_option linter.unusedSimpArgs false
set_option linter.unusedVariables false
namespace Go.Proofs.Ytbomlapmoiamgaa.hop
open Go.ChangeShapes Go.WideShapes Go.ChangeAt Go.RowKit
open Go.Proofs.Ytbomlapmoiamgaa.opened Go.Proofs.Ytbomlapmoiamgaa.block Go.Proofs.Ytbomlapmoiamgaa.words Go.Proofs.Ytbomlapmoiamgaa.region
set_option maxRecDepth 100000 in
theorem wpSliceF {ops : Array Oper} {rest : List Oper} {o : Oper} {a : Act} {w : World} {Q : Exit → Act → World → Prop} (hg : o.guard = none) (x : Operand) (ho : o.op = .buildSlice 81 1 #[(0, x)]) (y : Fr) (hx : a.eval x = .agg (cF y).toArray)
    (h : wpList Try.prog ops Q rest (a.put o.dst (.slice (some ⟨w.heap.size, 0, none⟩) 1 1)) (w.alloc (.cells (cF y).toArray 88))) : wpList Try.prog ops Q (o :: rest) a w := by
  obtain ⟨i0, hi0, hz0, hz1, hz2⟩ := infoF
  refine wpList_buildSlice hg 81 88 1 #[(0, x)] ho (cF y).toArray i0 _ Try.underlying81 hi0 hz0 (by rw [hz1]; decide) (by rw [hz1]; decide) ?_ h
  rw [hz1]
  simp only [List.map_toArray, List.map_cons, List.map_nil, hx]
  kernel_rfl
end Go.Proofs.Ytbomlapmoiamgaa.hop
