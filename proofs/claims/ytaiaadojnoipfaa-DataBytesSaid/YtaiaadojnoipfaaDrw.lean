/-
  DataBytes: what is wrong with any batch, its bytes, and the batches of any bytes are as the document says. No condition.
-/
import Derived.Test.YtaiaadojnoipfaaRows
import Derived.Test.YtaiaadojnoipfaaDwb
import Derived.Test.YtaiaadojnoipfaaDob
import Derived.ProofKit
namespace Go.Proofs.Ytaiaadojnoipfaa.dataBytes
open Go.ChangeShapes Go.WideShapes Go.ChangeAt Go.RowKit
open Go.Proofs.Ytaiaadojnoipfaa.tm Go.Proofs.Ytaiaadojnoipfaa.opened Go.Proofs.Ytaiaadojnoipfaa.block Go.Proofs.Ytaiaadojnoipfaa.data

set_option maxRecDepth 100000 in
theorem told (W : World) (args : Array Value) (h : Fed Try.prog W [37, 9] args) : Calls Try.prog 4 args W fun e W' => e = .returned (.bool true) ∧ Below W.heap.size W W' := by
  obtain ⟨v0, v1, rfl⟩ := args2 h.count
  obtain ⟨⟨_, o0⟩, r0⟩ := h.each 0 37 v0 rfl rfl
  obtain ⟨⟨_, o1⟩, r1⟩ := h.each 1 9 v1 rfl rfl
  obtain ⟨a0, q0⟩ := r0 opens_bt
  obtain ⟨l0, t0, A0, c0, L0, rfl, il0, it0, iL0, hL0⟩ := top_bt o0 q0
  obtain ⟨a1, q1⟩ := r1 (opens_str Try.underlying9)
  obtain ⟨rfl, w1⟩ := top_str Try.underlying9 o1 q1
  exact walkB l0 il0 t0 it0 A0 c0 L0 iL0 a1 w1 W hL0

/-! ### The row -/
theorem own : ownKnob Try.prog.godebug = none := by kernel_rfl
theorem laidOut : laidOutB Try.prog = true := by kernel_rfl
set_option maxRecDepth 100000 in
theorem lifted (os : Os) (started : os.Started) (H : Type) (enc : TypeId × Value → H) :
    ReturnsInHanded {} Try.checked os 4 .any (Rows.dataBytesSpec.pre6 enc Try.prog Try.f4 Rows.dataBytesRow.domain false) (Rows.dataBytesSpec.post enc Try.prog Try.f4 false true false false) :=
  lift (C := Try.checked) (fn := Try.f4) (tb := 4) (ts := [37, 9]) own started (by kernel_rfl) Try.func4 laidOut (by kernel_rfl) (by kernel_rfl) (by kernel_rfl) Try.underlying4 rfl
    (fun ds h => by
      match ds, h with
      | [_, _], _ => rfl)
    (ChangeSpec.witness6 (enc := enc) (C := Try.checked) false ⟨#[], #[.agg #[.int .i64 0, .int .u32 0, .int .i64 0, .int .u32 0, .int .u32 0, .int .u32 0, .slice none 0 0], .string ByteArray.empty], []⟩ 8 (by kernel_rfl) (by kernel_rfl) (by kernel_rfl) (by kernel_rfl)) told

theorem over : Rows.dataBytesRow.holds Try.pinned (OpenSpec.ofChange Rows.dataBytesSpec) :=
  OpenClaim.holds_of_wide 4 Try.f4 rfl rfl rfl rfl rfl rfl rfl ⟨rfl, rfl, rfl, rfl, rfl⟩ rfl rfl rfl rfl rfl (by kernel_rfl) Try.func4 (by kernel_rfl)
    (of_decide_eq_true (by kernel_rfl)) (by unfold Func.isWrapper; first | (rw [if_pos (by decide +kernel)]; kernel_rfl) | (rw [if_neg (by decide +kernel)]; exact ⟨rfl, rfl⟩))
    (fun os started H enc _ => lifted os started H enc)

theorem proved : Rows.DataBytesSaid := over
#print axioms proved
end Go.Proofs.Ytaiaadojnoipfaa.dataBytes
