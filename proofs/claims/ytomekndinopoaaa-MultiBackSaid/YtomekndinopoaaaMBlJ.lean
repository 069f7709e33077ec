/-
  MultiBack: the row.
-/
import Derived.Test.YtomekndinopoaaaJMRd2
import Derived.Test.YtomekndinopoaaaJMuX
import Derived.ProofKit
namespace Go.Proofs.Ytomekndinopoaaa.multiBack
open Go.ChangeShapes Go.WideShapes Go.ChangeAt Go.RowKit
open Go.Proofs.Ytomekndinopoaaa.tm Go.Proofs.Ytomekndinopoaaa.opened Go.Proofs.Ytomekndinopoaaa.block Go.Proofs.Ytomekndinopoaaa.stamp Go.Proofs.Ytomekndinopoaaa.chain Go.Proofs.Ytomekndinopoaaa.multi

set_option maxRecDepth 100000 in
theorem told (W : World) (args : Array Value) (h : Fed Try.prog W [22, 9] args) : Calls Try.prog 7 args W fun e W' => e = .returned (.bool true) ∧ Below W.heap.size W W' := by
  obtain ⟨v0, v1, rfl⟩ := args2 h.count
  obtain ⟨⟨_, o0⟩, r0⟩ := h.each 0 22 v0 rfl rfl
  obtain ⟨⟨_, o1⟩, r1⟩ := h.each 1 9 v1 rfl rfl
  obtain ⟨a0, q0⟩ := r0 opens_acs
  obtain ⟨A0, c0, L0, rfl, iL0, hL0, hc0, mL0⟩ := top_acs o0 q0
  obtain ⟨a1, q1⟩ := r1 (opens_str Try.underlying9)
  obtain ⟨rfl, w1⟩ := top_str Try.underlying9 o1 q1
  obtain ⟨l, rfl⟩ : ∃ l : List UInt8, a1 = ⟨l.toArray⟩ := ⟨a1.data.toList, (Lib.mk_data a1).symm⟩
  exact walkBk A0 c0 L0 iL0 mL0 l W hL0

/-! ### The row -/
theorem own : ownKnob Try.prog.godebug = none := by kernel_rfl
theorem laidOut : laidOutB Try.prog = true := by kernel_rfl
set_option maxRecDepth 100000 in
theorem lifted (os : Os) (started : os.Started) (H : Type) (enc : TypeId × Value → H) :
    ReturnsInHanded {} Try.checked os 7 .any (Rows.multiBackSpec.pre6 enc Try.prog Try.f7 Rows.multiBackRow.domain false) (Rows.multiBackSpec.post enc Try.prog Try.f7 false true false false) :=
  lift (C := Try.checked) (fn := Try.f7) (tb := 4) (ts := [22, 9]) own started (by kernel_rfl) Try.func7 laidOut (by kernel_rfl) (by kernel_rfl) (by kernel_rfl) Try.underlying4 rfl
    (fun ds h => by
      match ds, h with
      | [_, _], _ => rfl)
    (ChangeSpec.witness6 (enc := enc) (C := Try.checked) false ⟨#[], #[.slice none 0 0, .string ByteArray.empty], []⟩ 8 (by kernel_rfl) (by kernel_rfl) (by kernel_rfl) (by kernel_rfl)) told

theorem over : Rows.multiBackRow.holds Try.pinned (OpenSpec.ofChange Rows.multiBackSpec) :=
  OpenClaim.holds_of_wide 7 Try.f7 rfl rfl rfl rfl rfl rfl rfl ⟨rfl, rfl, rfl, rfl, rfl⟩ rfl rfl rfl rfl rfl (by kernel_rfl) Try.func7 (by kernel_rfl)
    (of_decide_eq_true (by kernel_rfl)) (by unfold Func.isWrapper; first | (rw [if_pos (by decide +kernel)]; kernel_rfl) | (rw [if_neg (by decide +kernel)]; exact ⟨rfl, rfl⟩))
    (fun os started H enc _ => lifted os started H enc)

theorem proved : Rows.MultiBackSaid := over
#print axioms proved
end Go.Proofs.Ytomekndinopoaaa.multiBack
