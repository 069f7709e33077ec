/-
  The row of HopTakes.
-/
import Derived.Test.YtkofocnifncagaaRows
import Derived.Test.YtkofocnifncagaaHor
import Derived.Test.YtkofocnifncagaaHp2
import Derived.ProofKit
set_option linter.unusedSimpArgs false
set_option linter.unusedVariables false
namespace Go.Proofs.Ytkofocnifncagaa.hopTakes
open Go.ChangeShapes Go.WideShapes Go.ChangeAt Go.RowKit
open Go.Proofs.Ytkofocnifncagaa.words Go.Proofs.Ytkofocnifncagaa.opened Go.Proofs.Ytkofocnifncagaa.block Go.Proofs.Ytkofocnifncagaa.hop

set_option maxRecDepth 100000 in
theorem told (W : World) (args : Array Value) (h : Fed Try.prog W [3, 89, 89] args) : Calls Try.prog 7 args W fun e W' => e = .returned (.bool true) ∧ Below W.heap.size W W' := by
  obtain ⟨v0, v1, v2, rfl⟩ := args3 h.count
  obtain ⟨⟨_, o0⟩, r0⟩ := h.each 0 3 v0 rfl rfl
  obtain ⟨⟨_, o1⟩, r1⟩ := h.each 1 89 v1 rfl rfl
  obtain ⟨⟨_, o2⟩, r2⟩ := h.each 2 89 v2 rfl rfl
  obtain ⟨a0, q0⟩ := r0 (opens_int Try.underlying3)
  obtain ⟨rfl, w0⟩ := top_int Try.underlying3 o0 q0
  obtain ⟨a1, q1⟩ := r1 opens_ints
  obtain ⟨A1, c1, L1, rfl, iL1, mL1, hL1⟩ := top_ints o1 q1
  obtain ⟨a2, q2⟩ := r2 opens_ints
  obtain ⟨A2, c2, L2, rfl, iL2, mL2, hL2⟩ := top_ints o2 q2
  exact walkTakes a0 A1 c1 L1 iL1 mL1 A2 c2 L2 iL2 mL2 hL1 hL2

/-! ### The row -/
theorem own : ownKnob Try.prog.godebug = none := by kernel_rfl
theorem laidOut : laidOutB Try.prog = true := by kernel_rfl
set_option maxRecDepth 100000 in
theorem lifted (os : Os) (started : os.Started) (H : Type) (enc : TypeId × Value → H) :
    ReturnsInHanded {} Try.checked os 7 .any (Rows.hopTakesSpec.pre6 enc Try.prog Try.f7 Rows.hopTakesRow.domain false) (Rows.hopTakesSpec.post enc Try.prog Try.f7 false true false false) :=
  lift (C := Try.checked) (fn := Try.f7) (tb := 4) (ts := [3, 89, 89]) own started (by kernel_rfl) Try.func7 laidOut (by kernel_rfl) (by kernel_rfl) (by kernel_rfl) Try.underlying4 rfl
    (fun ds h => by
      match ds, h with
      | [_, _, _], _ => rfl)
    (ChangeSpec.witness6 (enc := enc) (C := Try.checked) false ⟨#[], #[.int .i64 0, .slice none 0 0, .slice none 0 0], []⟩ 8 (by kernel_rfl) (by kernel_rfl) (by kernel_rfl) (by kernel_rfl)) told

theorem over : Rows.hopTakesRow.holds Try.pinned (OpenSpec.ofChange Rows.hopTakesSpec) :=
  OpenClaim.holds_of_wide 7 Try.f7 rfl rfl rfl rfl rfl rfl rfl ⟨rfl, rfl, rfl, rfl, rfl⟩ rfl rfl rfl rfl rfl (by kernel_rfl) Try.func7 (by kernel_rfl)
    (of_decide_eq_true (by kernel_rfl)) (by unfold Func.isWrapper; first | (rw [if_pos (by decide +kernel)]; kernel_rfl) | (rw [if_neg (by decide +kernel)]; exact ⟨rfl, rfl⟩))
    (fun os started H enc _ => lifted os started H enc)

theorem proved : Rows.HopTakesSaid := over
#print axioms proved
end Go.Proofs.Ytkofocnifncagaa.hopTakes
