/-
  The row of HopOnce.
-/
import Derived.Test.YtbomlapmoiamgaaRows
import Derived.Test.YtbomlapmoiamgaaHor
import Derived.Test.YtbomlapmoiamgaaOn2
import Derived.ProofKit
set_option linter.unusedSimpArgs false
set_option linter.unusedVariables false
namespace Go.Proofs.Ytbomlapmoiamgaa.hopOnce
open Go.ChangeShapes Go.WideShapes Go.ChangeAt Go.RowKit
open Go.Proofs.Ytbomlapmoiamgaa.words Go.Proofs.Ytbomlapmoiamgaa.opened Go.Proofs.Ytbomlapmoiamgaa.block Go.Proofs.Ytbomlapmoiamgaa.hop

set_option maxRecDepth 100000 in
theorem told (W : World) (args : Array Value) (h : Fed Try.prog W [77, 3, 3] args) : Calls Try.prog 6 args W fun e W' => e = .returned (.bool true) ∧ Below W.heap.size W W' := by
  obtain ⟨v0, v1, v2, rfl⟩ := args3 h.count
  obtain ⟨⟨_, o0⟩, r0⟩ := h.each 0 77 v0 rfl rfl
  obtain ⟨⟨_, o1⟩, r1⟩ := h.each 1 3 v1 rfl rfl
  obtain ⟨⟨_, o2⟩, r2⟩ := h.each 2 3 v2 rfl rfl
  obtain ⟨a0, q0⟩ := r0 opens_lnks
  obtain ⟨A0, c0, L0, rfl, hL0, mL0⟩ := top_lnks o0 q0
  obtain ⟨a1, q1⟩ := r1 (opens_int Try.underlying3)
  obtain ⟨rfl, w1⟩ := top_int Try.underlying3 o1 q1
  obtain ⟨a2, q2⟩ := r2 (opens_int Try.underlying3)
  obtain ⟨rfl, w2⟩ := top_int Try.underlying3 o2 q2
  exact walkOnce A0 c0 L0 mL0 hL0 a1 a2

/-! ### The row -/
theorem own : ownKnob Try.prog.godebug = none := by kernel_rfl
theorem laidOut : laidOutB Try.prog = true := by kernel_rfl
set_option maxRecDepth 100000 in
theorem lifted (os : Os) (started : os.Started) (H : Type) (enc : TypeId × Value → H) :
    ReturnsInHanded {} Try.checked os 6 .any (Rows.hopOnceSpec.pre6 enc Try.prog Try.f6 Rows.hopOnceRow.domain false) (Rows.hopOnceSpec.post enc Try.prog Try.f6 false true false false) :=
  lift (C := Try.checked) (fn := Try.f6) (tb := 4) (ts := [77, 3, 3]) own started (by kernel_rfl) Try.func6 laidOut (by kernel_rfl) (by kernel_rfl) (by kernel_rfl) Try.underlying4 rfl
    (fun ds h => by
      match ds, h with
      | [_, _, _], _ => rfl)
    (ChangeSpec.witness6 (enc := enc) (C := Try.checked) false ⟨#[], #[.slice none 0 0, .int .i64 0, .int .i64 0], []⟩ 8 (by kernel_rfl) (by kernel_rfl) (by kernel_rfl) (by kernel_rfl)) told

theorem over : Rows.hopOnceRow.holds Try.pinned (OpenSpec.ofChange Rows.hopOnceSpec) :=
  OpenClaim.holds_of_wide 6 Try.f6 rfl rfl rfl rfl rfl rfl rfl ⟨rfl, rfl, rfl, rfl, rfl⟩ rfl rfl rfl rfl rfl (by kernel_rfl) Try.func6 (by kernel_rfl)
    (of_decide_eq_true (by kernel_rfl)) (by unfold Func.isWrapper; first | (rw [if_pos (by decide +kernel)]; kernel_rfl) | (rw [if_neg (by decide +kernel)]; exact ⟨rfl, rfl⟩))
    (fun os started H enc _ => lifted os started H enc)

theorem proved : Rows.HopOnceSaid := over
#print axioms proved
end Go.Proofs.Ytbomlapmoiamgaa.hopOnce
