/-
  MultiBytes: the row.
-/
import Derived.Test.YtomekndinopoaaaJMBt
import Derived.Test.YtomekndinopoaaaJMuX
import Derived.ProofKit
namespace Go.Proofs.Ytomekndinopoaaa.multiBytes
open Go.ChangeShapes Go.WideShapes Go.ChangeAt Go.RowKit
open Go.Proofs.Ytomekndinopoaaa.tm Go.Proofs.Ytomekndinopoaaa.opened Go.Proofs.Ytomekndinopoaaa.block Go.Proofs.Ytomekndinopoaaa.stamp Go.Proofs.Ytomekndinopoaaa.chain Go.Proofs.Ytomekndinopoaaa.multi

set_option maxRecDepth 100000 in
theorem told (W : World) (args : Array Value) (h : Fed Try.prog W [3, 22, 9] args) : Calls Try.prog 4 args W fun e W' => e = .returned (.bool true) ∧ Below W.heap.size W W' := by
  obtain ⟨v0, v1, v2, rfl⟩ := args3 h.count
  obtain ⟨⟨_, o0⟩, r0⟩ := h.each 0 3 v0 rfl rfl
  obtain ⟨⟨_, o1⟩, r1⟩ := h.each 1 22 v1 rfl rfl
  obtain ⟨⟨_, o2⟩, r2⟩ := h.each 2 9 v2 rfl rfl
  obtain ⟨a0, q0⟩ := r0 (opens_int Try.underlying3)
  obtain ⟨rfl, w0⟩ := top_int Try.underlying3 o0 q0
  obtain ⟨a1, q1⟩ := r1 opens_acs
  obtain ⟨A1, c1, L1, rfl, iL1, hL1, hc1, mL1⟩ := top_acs o1 q1
  obtain ⟨a2, q2⟩ := r2 (opens_str Try.underlying9)
  obtain ⟨rfl, w2⟩ := top_str Try.underlying9 o2 q2
  obtain ⟨l, rfl⟩ : ∃ l : List UInt8, a2 = ⟨l.toArray⟩ := ⟨a2.data.toList, (Lib.mk_data a2).symm⟩
  exact walkBt a0 A1 c1 L1 iL1 mL1 l W hL1

/-! ### The row -/
theorem own : ownKnob Try.prog.godebug = none := by kernel_rfl
theorem laidOut : laidOutB Try.prog = true := by kernel_rfl
set_option maxRecDepth 100000 in
theorem lifted (os : Os) (started : os.Started) (H : Type) (enc : TypeId × Value → H) :
    ReturnsInHanded {} Try.checked os 4 .any (Rows.multiBytesSpec.pre6 enc Try.prog Try.f4 Rows.multiBytesRow.domain false) (Rows.multiBytesSpec.post enc Try.prog Try.f4 false true false false) :=
  lift (C := Try.checked) (fn := Try.f4) (tb := 4) (ts := [3, 22, 9]) own started (by kernel_rfl) Try.func4 laidOut (by kernel_rfl) (by kernel_rfl) (by kernel_rfl) Try.underlying4 rfl
    (fun ds h => by
      match ds, h with
      | [_, _, _], _ => rfl)
    (ChangeSpec.witness6 (enc := enc) (C := Try.checked) false ⟨#[], #[.int .i64 0, .slice none 0 0, .string ByteArray.empty], []⟩ 8 (by kernel_rfl) (by kernel_rfl) (by kernel_rfl) (by kernel_rfl)) told

theorem over : Rows.multiBytesRow.holds Try.pinned (OpenSpec.ofChange Rows.multiBytesSpec) :=
  OpenClaim.holds_of_wide 4 Try.f4 rfl rfl rfl rfl rfl rfl rfl ⟨rfl, rfl, rfl, rfl, rfl⟩ rfl rfl rfl rfl rfl (by kernel_rfl) Try.func4 (by kernel_rfl)
    (of_decide_eq_true (by kernel_rfl)) (by unfold Func.isWrapper; first | (rw [if_pos (by decide +kernel)]; kernel_rfl) | (rw [if_neg (by decide +kernel)]; exact ⟨rfl, rfl⟩))
    (fun os started H enc _ => lifted os started H enc)

theorem proved : Rows.MultiBytesSaid := over
#print axioms proved
end Go.Proofs.Ytomekndinopoaaa.multiBytes
