/-
  The row of HopSends.
-/
import Derived.Test.YtbomlapmoiamgaaRows
import Derived.Test.YtbomlapmoiamgaaHor
import Derived.Test.YtbomlapmoiamgaaSws
import Derived.ProofKit
set_option linter.unusedSimpArgs false
set_option linter.unusedVariables false
namespace Go.Proofs.Ytbomlapmoiamgaa.hopSends
open Go.ChangeShapes Go.WideShapes Go.ChangeAt Go.RowKit
open Go.Proofs.Ytbomlapmoiamgaa.words Go.Proofs.Ytbomlapmoiamgaa.opened Go.Proofs.Ytbomlapmoiamgaa.block Go.Proofs.Ytbomlapmoiamgaa.hop

set_option maxRecDepth 100000 in
theorem told (W : World) (args : Array Value) (h : Fed Try.prog W [3, 3, 3, 3, 55] args) : Calls Try.prog 5 args W fun e W' => e = .returned (.bool true) ∧ Below W.heap.size W W' := by
  obtain ⟨v0, v1, v2, v3, v4, rfl⟩ := args5 h.count
  obtain ⟨⟨_, o0⟩, r0⟩ := h.each 0 3 v0 rfl rfl
  obtain ⟨⟨_, o1⟩, r1⟩ := h.each 1 3 v1 rfl rfl
  obtain ⟨⟨_, o2⟩, r2⟩ := h.each 2 3 v2 rfl rfl
  obtain ⟨⟨_, o3⟩, r3⟩ := h.each 3 3 v3 rfl rfl
  obtain ⟨⟨_, o4⟩, r4⟩ := h.each 4 55 v4 rfl rfl
  obtain ⟨a0, q0⟩ := r0 (opens_int Try.underlying3)
  obtain ⟨rfl, w0⟩ := top_int Try.underlying3 o0 q0
  obtain ⟨a1, q1⟩ := r1 (opens_int Try.underlying3)
  obtain ⟨rfl, w1⟩ := top_int Try.underlying3 o1 q1
  obtain ⟨a2, q2⟩ := r2 (opens_int Try.underlying3)
  obtain ⟨rfl, w2⟩ := top_int Try.underlying3 o2 q2
  obtain ⟨a3, q3⟩ := r3 (opens_int Try.underlying3)
  obtain ⟨rfl, w3⟩ := top_int Try.underlying3 o3 q3
  obtain ⟨a4, q4⟩ := r4 opens_acths
  obtain ⟨A4, c4, L4, rfl, hL4, mL4⟩ := top_acths o4 q4
  exact walkSends a0 a1 a2 a3 A4 c4 L4 mL4 hL4

/-! ### The row -/
theorem own : ownKnob Try.prog.godebug = none := by kernel_rfl
theorem laidOut : laidOutB Try.prog = true := by kernel_rfl
set_option maxRecDepth 100000 in
theorem lifted (os : Os) (started : os.Started) (H : Type) (enc : TypeId × Value → H) :
    ReturnsInHanded {} Try.checked os 5 .any (Rows.hopSendsSpec.pre6 enc Try.prog Try.f5 Rows.hopSendsRow.domain false) (Rows.hopSendsSpec.post enc Try.prog Try.f5 false true false false) :=
  lift (C := Try.checked) (fn := Try.f5) (tb := 4) (ts := [3, 3, 3, 3, 55]) own started (by kernel_rfl) Try.func5 laidOut (by kernel_rfl) (by kernel_rfl) (by kernel_rfl) Try.underlying4 rfl
    (fun ds h => by
      match ds, h with
      | [_, _, _, _, _], _ => rfl)
    (ChangeSpec.witness6 (enc := enc) (C := Try.checked) false ⟨#[], #[.int .i64 0, .int .i64 0, .int .i64 0, .int .i64 0, .slice none 0 0], []⟩ 8 (by kernel_rfl) (by kernel_rfl) (by kernel_rfl) (by kernel_rfl)) told

theorem over : Rows.hopSendsRow.holds Try.pinned (OpenSpec.ofChange Rows.hopSendsSpec) :=
  OpenClaim.holds_of_wide 5 Try.f5 rfl rfl rfl rfl rfl rfl rfl ⟨rfl, rfl, rfl, rfl, rfl⟩ rfl rfl rfl rfl rfl (by kernel_rfl) Try.func5 (by kernel_rfl)
    (of_decide_eq_true (by kernel_rfl)) (by unfold Func.isWrapper; first | (rw [if_pos (by decide +kernel)]; kernel_rfl) | (rw [if_neg (by decide +kernel)]; exact ⟨rfl, rfl⟩))
    (fun os started H enc _ => lifted os started H enc)

theorem proved : Rows.HopSendsSaid := over
#print axioms proved
end Go.Proofs.Ytbomlapmoiamgaa.hopSends
