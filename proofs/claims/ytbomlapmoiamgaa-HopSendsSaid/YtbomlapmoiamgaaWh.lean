/-
  A whole struct into a block that is known whole, and out of one: one step of the walk each, over any program.
-/
import Derived.Test.YtbomlapmoiamgaaBlock
import Derived.Laws.Tables
import Derived.Laws.Rows
set_option linter.unusedSimpArgs false
set_option linter.unusedVariables false
namespace Go.Proofs.Ytbomlapmoiamgaa.block
open Go.RowKit

section
variable {P : Program} {w : World} {g : Nat} {t : TypeId} {cs : Array Value}
theorem Whole.setRow (h : Whole w g t cs) (ds : Array Value) : Whole (w.setRow g ds) g t ds := setRow_heap w g cs ds t (0, 0) h
theorem Whole.past {k : Nat} (h : Whole w k t cs) (hk : k ≠ g) (ds : Array Value) : Whole (w.setRow g ds) k t cs := (setRow_other w g k ds hk).trans h
theorem below_setRow {B : Nat} {a : World} (h : Below B a w) (hg : B ≤ g) (ds : Array Value) : Below B a (w.setRow g ds) :=
  ⟨h.os, h.tape, h.output, by rw [setRow_size]; exact h.size, fun i hi => (setRow_other w g i ds (by omega)).trans (h.block i hi)⟩
/-- The cells of a block are laid anew, all of them; the others stay. -/
theorem put {ops : Array Oper} {rest : List Oper} {o : Oper} {a : Act} {Q : Exit → Act → World → Prop} (hgd : o.guard = none) (ty : TypeId) (x y : Operand) (ho : o.op = .store ty x y)
    {cells : Array Value} (hx : a.eval x = .pointer (some ⟨g, 0, none⟩)) (hy : a.eval y = .agg cells) (hw : Whole w g t cs) (hi : (P.info? ty).map (·.size) = some cells.size)
    (hold : cs.size = cells.size) (h1 : cells.all (·.oneCell') = true) {B : Nat} {w0 : World} (hB : Below B w0 w) (hg : B ≤ g)
    (h : ∀ w', Whole w' g t cells → Below B w0 w' → w'.heap.size = w.heap.size → (∀ {k : Nat} {tk : TypeId} {ck : Array Value}, Whole w k tk ck → k ≠ g → Whole w' k tk ck) → wpList P ops Q rest (a.put o.dst undef) w') : wpList P ops Q (o :: rest) a w :=
  wpList_store_row hgd ty x y ho g cells hx hy t cs hw hi hold h1 (h _ (hw.setRow cells) (below_setRow hB hg cells) (setRow_size w g cells) (fun hk hne => hk.past hne cells))
/-- The whole struct out of a block. -/
theorem get {ops : Array Oper} {rest : List Oper} {o : Oper} {a : Act} {Q : Exit → Act → World → Prop} (hgd : o.guard = none) (ty : TypeId) (x : Operand) (ho : o.op = .load ty x)
    (hx : a.eval x = .pointer (some ⟨g, 0, none⟩)) (hw : Whole w g t cs) {d : TypeDesc}
    (hu : P.underlying ty = some d) (hd : (match d with | .struct _ | .array _ _ => true | _ => false) = true) (hi : (P.info? ty).map (·.size) = some cs.size)
    (h : wpList P ops Q rest (a.put o.dst (.agg cs)) w) : wpList P ops Q (o :: rest) a w :=
  wpList_load_row hgd ty x ho g hx t cs (0, 0) d hw hu hd hi h
theorem loaded {ty : TypeId} {d : TypeDesc} (hw : Whole w g t cs) (hu : P.underlying ty = some d) (hd : (match d with | .struct _ | .array _ _ => true | _ => false) = true) (hi : (P.info? ty).map (·.size) = some cs.size) :
    (loadVar ty ⟨g, 0, none⟩).run P w = .ok (.agg cs) w := run_loadVar_row w g t ty cs (0, 0) d hw hu hd hi
end
end Go.Proofs.Ytbomlapmoiamgaa.block
