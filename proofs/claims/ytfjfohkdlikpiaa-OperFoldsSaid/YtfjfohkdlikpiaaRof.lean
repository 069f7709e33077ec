/-
  OperFolds: what becomes of any records together, by any kind, is as the document says; the list stays as it is. No condition.
-/
import Derived.Test.YtfjfohkdlikpiaaRows
import Derived.Test.YtfjfohkdlikpiaaWo2
import Derived.Test.YtfjfohkdlikpiaaOop
import Derived.ProofKit
namespace Go.Proofs.Ytfjfohkdlikpiaa.operFolds
open Go.ChangeShapes Go.WideShapes Go.ChangeAt Go.RowKit
open Go.Proofs.Ytfjfohkdlikpiaa.tm Go.Proofs.Ytfjfohkdlikpiaa.opened Go.Proofs.Ytfjfohkdlikpiaa.block Go.Proofs.Ytfjfohkdlikpiaa.data Go.Proofs.Ytfjfohkdlikpiaa.oper

set_option maxRecDepth 100000 in
theorem told (W : World) (args : Array Value) (h : Fed Try.prog W [23, 26] args) : Calls Try.prog 4 args W fun e W' => e = .returned (.bool true) ∧ Below W.heap.size W W' := by
  obtain ⟨v0, v1, rfl⟩ := args2 h.count
  obtain ⟨⟨_, o0⟩, r0⟩ := h.each 0 23 v0 rfl rfl
  obtain ⟨⟨_, o1⟩, r1⟩ := h.each 1 26 v1 rfl rfl
  obtain ⟨a0, q0⟩ := r0 opens_od
  obtain ⟨O0, rfl, iO0⟩ := top_od o0 q0
  obtain ⟨a1, q1⟩ := r1 opens_recs
  obtain ⟨A1, c1, L1, rfl, iL1, hL1, mL1⟩ := top_recs o1 q1
  exact walkFolds O0 iO0 A1 c1 L1 iL1 W hL1

/-! ### The row -/
theorem own : ownKnob Try.prog.godebug = none := by kernel_rfl
theorem laidOut : laidOutB Try.prog = true := by kernel_rfl
set_option maxRecDepth 100000 in
theorem lifted (os : Os) (started : os.Started) (H : Type) (enc : TypeId × Value → H) :
    ReturnsInHanded {} Try.checked os 4 .any (Rows.operFoldsSpec.pre6 enc Try.prog Try.f4 Rows.operFoldsRow.domain false) (Rows.operFoldsSpec.post enc Try.prog Try.f4 false true false false) :=
  lift (C := Try.checked) (fn := Try.f4) (tb := 4) (ts := [23, 26]) own started (by kernel_rfl) Try.func4 laidOut (by kernel_rfl) (by kernel_rfl) (by kernel_rfl) Try.underlying4 rfl
    (fun ds h => by
      match ds, h with
      | [_, _], _ => rfl)
    (ChangeSpec.witness6 (enc := enc) (C := Try.checked) false ⟨#[], #[.agg #[.string ByteArray.empty, .int .i64 0, .int .i64 0, .int .i64 0, .int .i64 0, .int .i64 0], .slice none 0 0], []⟩ 8 (by kernel_rfl) (by kernel_rfl) (by kernel_rfl) (by kernel_rfl)) told

theorem over : Rows.operFoldsRow.holds Try.pinned (OpenSpec.ofChange Rows.operFoldsSpec) :=
  OpenClaim.holds_of_wide 4 Try.f4 rfl rfl rfl rfl rfl rfl rfl ⟨rfl, rfl, rfl, rfl, rfl⟩ rfl rfl rfl rfl rfl (by kernel_rfl) Try.func4 (by kernel_rfl)
    (of_decide_eq_true (by kernel_rfl)) (by unfold Func.isWrapper; first | (rw [if_pos (by decide +kernel)]; kernel_rfl) | (rw [if_neg (by decide +kernel)]; exact ⟨rfl, rfl⟩))
    (fun os started H enc _ => lifted os started H enc)

theorem proved : Rows.OperFoldsSaid := over
#print axioms proved
end Go.Proofs.Ytfjfohkdlikpiaa.operFolds
