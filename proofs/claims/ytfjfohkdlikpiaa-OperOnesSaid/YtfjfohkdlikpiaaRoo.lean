/-
  OperOnes: what becomes of any record, and of any records one by one, by any operator, and whether its kind keeps, are as the document says. No condition.
-/
import Derived.Test.YtfjfohkdlikpiaaRows
import Derived.Test.YtfjfohkdlikpiaaWo1
import Derived.Test.YtfjfohkdlikpiaaOop
import Derived.ProofKit
namespace Go.Proofs.Ytfjfohkdlikpiaa.operOnes
open Go.ChangeShapes Go.WideShapes Go.ChangeAt Go.RowKit
open Go.Proofs.Ytfjfohkdlikpiaa.tm Go.Proofs.Ytfjfohkdlikpiaa.opened Go.Proofs.Ytfjfohkdlikpiaa.block Go.Proofs.Ytfjfohkdlikpiaa.data Go.Proofs.Ytfjfohkdlikpiaa.oper

set_option maxRecDepth 100000 in
theorem told (W : World) (args : Array Value) (h : Fed Try.prog W [23, 25, 26] args) : Calls Try.prog 3 args W fun e W' => e = .returned (.bool true) ∧ Below W.heap.size W W' := by
  obtain ⟨v0, v1, v2, rfl⟩ := args3 h.count
  obtain ⟨⟨_, o0⟩, r0⟩ := h.each 0 23 v0 rfl rfl
  obtain ⟨⟨_, o1⟩, r1⟩ := h.each 1 25 v1 rfl rfl
  obtain ⟨⟨_, o2⟩, r2⟩ := h.each 2 26 v2 rfl rfl
  obtain ⟨a0, q0⟩ := r0 opens_od
  obtain ⟨O0, rfl, iO0⟩ := top_od o0 q0
  obtain ⟨a1, q1⟩ := r1 opens_rc
  obtain ⟨X1, rfl, iX1⟩ := top_rc o1 q1
  obtain ⟨a2, q2⟩ := r2 opens_recs
  obtain ⟨A2, c2, L2, rfl, iL2, hL2, mL2⟩ := top_recs o2 q2
  exact walkOnes O0 iO0 X1 iX1 A2 c2 L2 iL2 W hL2

/-! ### The row -/
theorem own : ownKnob Try.prog.godebug = none := by kernel_rfl
theorem laidOut : laidOutB Try.prog = true := by kernel_rfl
set_option maxRecDepth 100000 in
theorem lifted (os : Os) (started : os.Started) (H : Type) (enc : TypeId × Value → H) :
    ReturnsInHanded {} Try.checked os 3 .any (Rows.operOnesSpec.pre6 enc Try.prog Try.f3 Rows.operOnesRow.domain false) (Rows.operOnesSpec.post enc Try.prog Try.f3 false true false false) :=
  lift (C := Try.checked) (fn := Try.f3) (tb := 4) (ts := [23, 25, 26]) own started (by kernel_rfl) Try.func3 laidOut (by kernel_rfl) (by kernel_rfl) (by kernel_rfl) Try.underlying4 rfl
    (fun ds h => by
      match ds, h with
      | [_, _, _], _ => rfl)
    (ChangeSpec.witness6 (enc := enc) (C := Try.checked) false ⟨#[], #[.agg #[.string ByteArray.empty, .int .i64 0, .int .i64 0, .int .i64 0, .int .i64 0, .int .i64 0], .agg #[.int .i64 0, .int .i64 0], .slice none 0 0], []⟩ 8 (by kernel_rfl) (by kernel_rfl) (by kernel_rfl) (by kernel_rfl)) told

theorem over : Rows.operOnesRow.holds Try.pinned (OpenSpec.ofChange Rows.operOnesSpec) :=
  OpenClaim.holds_of_wide 3 Try.f3 rfl rfl rfl rfl rfl rfl rfl ⟨rfl, rfl, rfl, rfl, rfl⟩ rfl rfl rfl rfl rfl (by kernel_rfl) Try.func3 (by kernel_rfl)
    (of_decide_eq_true (by kernel_rfl)) (by unfold Func.isWrapper; first | (rw [if_pos (by decide +kernel)]; kernel_rfl) | (rw [if_neg (by decide +kernel)]; exact ⟨rfl, rfl⟩))
    (fun os started H enc _ => lifted os started H enc)

theorem proved : Rows.OperOnesSaid := over
#print axioms proved
end Go.Proofs.Ytfjfohkdlikpiaa.operOnes
