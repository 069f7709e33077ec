/-
  The row of HopFrames.
-/
import Derived.Test.YtkofocnifncagaaRows
import Derived.Test.YtkofocnifncagaaHor
import Derived.Test.YtkofocnifncagaaHfr
import Derived.ProofKit
set_option linter.unusedSimpArgs false
set_option linter.unusedVariables false
namespace Go.Proofs.Ytkofocnifncagaa.hopFrames
open Go.ChangeShapes Go.WideShapes Go.ChangeAt Go.RowKit
open Go.Proofs.Ytkofocnifncagaa.words Go.Proofs.Ytkofocnifncagaa.opened Go.Proofs.Ytkofocnifncagaa.block Go.Proofs.Ytkofocnifncagaa.hop

set_option maxRecDepth 100000 in
theorem told (W : World) (args : Array Value) (h : Fed Try.prog W [56, 9] args) : Calls Try.prog 5 args W fun e W' => e = .returned (.bool true) ∧ Below W.heap.size W W' := by
  obtain ⟨v0, v1, rfl⟩ := args2 h.count
  obtain ⟨⟨_, o0⟩, r0⟩ := h.each 0 56 v0 rfl rfl
  obtain ⟨⟨_, o1⟩, r1⟩ := h.each 1 9 v1 rfl rfl
  obtain ⟨a0, q0⟩ := r0 opens_fra
  obtain ⟨f0, i0, rfl⟩ := top_fra o0 q0
  obtain ⟨a1, q1⟩ := r1 (opens_str Try.underlying9)
  obtain ⟨rfl, w1⟩ := top_str Try.underlying9 o1 q1
  obtain ⟨s1, rfl, l1⟩ := str_list a1 w1
  exact walkFrames f0 i0 s1 l1

/-! ### The row -/
theorem own : ownKnob Try.prog.godebug = none := by kernel_rfl
theorem laidOut : laidOutB Try.prog = true := by kernel_rfl
set_option maxRecDepth 100000 in
theorem lifted (os : Os) (started : os.Started) (H : Type) (enc : TypeId × Value → H) :
    ReturnsInHanded {} Try.checked os 5 .any (Rows.hopFramesSpec.pre6 enc Try.prog Try.f5 Rows.hopFramesRow.domain false) (Rows.hopFramesSpec.post enc Try.prog Try.f5 false true false false) :=
  lift (C := Try.checked) (fn := Try.f5) (tb := 4) (ts := [56, 9]) own started (by kernel_rfl) Try.func5 laidOut (by kernel_rfl) (by kernel_rfl) (by kernel_rfl) Try.underlying4 rfl
    (fun ds h => by
      match ds, h with
      | [_, _], _ => rfl)
    (ChangeSpec.witness6 (enc := enc) (C := Try.checked) false ⟨#[], #[.agg #[.int .i64 0, .int .i64 0, .int .i64 0, .int .i64 0, .string ByteArray.empty], .string ByteArray.empty], []⟩ 8 (by kernel_rfl) (by kernel_rfl) (by kernel_rfl) (by kernel_rfl)) told

theorem over : Rows.hopFramesRow.holds Try.pinned (OpenSpec.ofChange Rows.hopFramesSpec) :=
  OpenClaim.holds_of_wide 5 Try.f5 rfl rfl rfl rfl rfl rfl rfl ⟨rfl, rfl, rfl, rfl, rfl⟩ rfl rfl rfl rfl rfl (by kernel_rfl) Try.func5 (by kernel_rfl)
    (of_decide_eq_true (by kernel_rfl)) (by unfold Func.isWrapper; first | (rw [if_pos (by decide +kernel)]; kernel_rfl) | (rw [if_neg (by decide +kernel)]; exact ⟨rfl, rfl⟩))
    (fun os started H enc _ => lifted os started H enc)

theorem proved : Rows.HopFramesSaid := over
#print axioms proved
end Go.Proofs.Ytkofocnifncagaa.hopFrames
