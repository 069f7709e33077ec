/-
  DiskAlone: whatever is done to files of other names, a file keeps its bytes and how many of them last. No condition.
-/
import Derived.Test.YtkfjgmfokpgcbaaRows
import Derived.Test.YtkfjgmfokpgcbaaKal
import Derived.ProofKit
namespace Go.Proofs.Ytkfjgmfokpgcbaa.diskAlone
open Go.ChangeShapes Go.WideShapes Go.ChangeAt Go.RowKit
open Go.Proofs.Ytkfjgmfokpgcbaa.words Go.Proofs.Ytkfjgmfokpgcbaa.opened Go.Proofs.Ytkfjgmfokpgcbaa.block Go.Proofs.Ytkfjgmfokpgcbaa.disk

set_option maxRecDepth 100000 in
theorem told (W : World) (args : Array Value) (h : Fed Try.prog W [22, 9, 9] args) : Calls Try.prog 6 args W fun e W' => e = .returned (.bool true) ∧ Below W.heap.size W W' := by
  obtain ⟨v0, v1, v2, rfl⟩ := args3 h.count
  obtain ⟨⟨_, o0⟩, r0⟩ := h.each 0 22 v0 rfl rfl
  obtain ⟨⟨_, o1⟩, r1⟩ := h.each 1 9 v1 rfl rfl
  obtain ⟨⟨_, o2⟩, r2⟩ := h.each 2 9 v2 rfl rfl
  obtain ⟨a0, q0⟩ := r0 opens_acts
  obtain ⟨A0, c0, L0, rfl, hL0, mL0⟩ := top_acts o0 q0
  obtain ⟨a1, q1⟩ := r1 (opens_str Try.underlying9)
  obtain ⟨rfl, w1⟩ := top_str Try.underlying9 o1 q1
  obtain ⟨s1, rfl, l1⟩ := str_list a1 w1
  obtain ⟨a2, q2⟩ := r2 (opens_str Try.underlying9)
  obtain ⟨rfl, w2⟩ := top_str Try.underlying9 o2 q2
  obtain ⟨s2, rfl, l2⟩ := str_list a2 w2
  exact walkAlone A0 c0 L0 mL0 s1 l1 s2 l2 W hL0

/-! ### The row -/
theorem own : ownKnob Try.prog.godebug = none := by kernel_rfl
theorem laidOut : laidOutB Try.prog = true := by kernel_rfl
set_option maxRecDepth 100000 in
theorem lifted (os : Os) (started : os.Started) (H : Type) (enc : TypeId × Value → H) :
    ReturnsInHanded {} Try.checked os 6 .any (Rows.diskAloneSpec.pre6 enc Try.prog Try.f6 Rows.diskAloneRow.domain false) (Rows.diskAloneSpec.post enc Try.prog Try.f6 false true false false) :=
  lift (C := Try.checked) (fn := Try.f6) (tb := 4) (ts := [22, 9, 9]) own started (by kernel_rfl) Try.func6 laidOut (by kernel_rfl) (by kernel_rfl) (by kernel_rfl) Try.underlying4 rfl
    (fun ds h => by
      match ds, h with
      | [_, _, _], _ => rfl)
    (ChangeSpec.witness6 (enc := enc) (C := Try.checked) false ⟨#[], #[.slice none 0 0, .string ByteArray.empty, .string ByteArray.empty], []⟩ 8 (by kernel_rfl) (by kernel_rfl) (by kernel_rfl) (by kernel_rfl)) told

theorem over : Rows.diskAloneRow.holds Try.pinned (OpenSpec.ofChange Rows.diskAloneSpec) :=
  OpenClaim.holds_of_wide 6 Try.f6 rfl rfl rfl rfl rfl rfl rfl ⟨rfl, rfl, rfl, rfl, rfl⟩ rfl rfl rfl rfl rfl (by kernel_rfl) Try.func6 (by kernel_rfl)
    (of_decide_eq_true (by kernel_rfl)) (by unfold Func.isWrapper; first | (rw [if_pos (by decide +kernel)]; kernel_rfl) | (rw [if_neg (by decide +kernel)]; exact ⟨rfl, rfl⟩))
    (fun os started H enc _ => lifted os started H enc)

theorem proved : Rows.DiskAloneSaid := over
#print axioms proved
end Go.Proofs.Ytkfjgmfokpgcbaa.diskAlone
