/-
  DataOrders: any records in order, by parts and in pieces, and whether two lists have the same, are as the document says; the lists stay as they are. No condition.
-/
import Derived.Test.YtaiaadojnoipfaaRows
import Derived.Test.YtaiaadojnoipfaaDwo
import Derived.Test.YtaiaadojnoipfaaDop
import Derived.ProofKit
namespace Go.Proofs.Ytaiaadojnoipfaa.dataOrders
open Go.ChangeShapes Go.WideShapes Go.ChangeAt Go.RowKit
open Go.Proofs.Ytaiaadojnoipfaa.tm Go.Proofs.Ytaiaadojnoipfaa.opened Go.Proofs.Ytaiaadojnoipfaa.block Go.Proofs.Ytaiaadojnoipfaa.data

set_option maxRecDepth 100000 in
theorem told (W : World) (args : Array Value) (h : Fed Try.prog W [22, 22, 3] args) : Calls Try.prog 3 args W fun e W' => e = .returned (.bool true) ∧ Below W.heap.size W W' := by
  obtain ⟨v0, v1, v2, rfl⟩ := args3 h.count
  obtain ⟨⟨_, o0⟩, r0⟩ := h.each 0 22 v0 rfl rfl
  obtain ⟨⟨_, o1⟩, r1⟩ := h.each 1 22 v1 rfl rfl
  obtain ⟨⟨_, o2⟩, r2⟩ := h.each 2 3 v2 rfl rfl
  obtain ⟨a0, q0⟩ := r0 opens_recs
  obtain ⟨A0, c0, L0, rfl, iL0, hL0, mL0⟩ := top_recs o0 q0
  obtain ⟨a1, q1⟩ := r1 opens_recs
  obtain ⟨A1, c1, L1, rfl, iL1, hL1, mL1⟩ := top_recs o1 q1
  obtain ⟨a2, q2⟩ := r2 (opens_int Try.underlying3)
  obtain ⟨rfl, w2⟩ := top_int Try.underlying3 o2 q2
  exact walkO A0 c0 L0 A1 c1 L1 a2 W hL0 hL1

/-! ### The row -/
theorem own : ownKnob Try.prog.godebug = none := by kernel_rfl
theorem laidOut : laidOutB Try.prog = true := by kernel_rfl
set_option maxRecDepth 100000 in
theorem lifted (os : Os) (started : os.Started) (H : Type) (enc : TypeId × Value → H) :
    ReturnsInHanded {} Try.checked os 3 .any (Rows.dataOrdersSpec.pre6 enc Try.prog Try.f3 Rows.dataOrdersRow.domain false) (Rows.dataOrdersSpec.post enc Try.prog Try.f3 false true false false) :=
  lift (C := Try.checked) (fn := Try.f3) (tb := 4) (ts := [22, 22, 3]) own started (by kernel_rfl) Try.func3 laidOut (by kernel_rfl) (by kernel_rfl) (by kernel_rfl) Try.underlying4 rfl
    (fun ds h => by
      match ds, h with
      | [_, _, _], _ => rfl)
    (ChangeSpec.witness6 (enc := enc) (C := Try.checked) false ⟨#[], #[.slice none 0 0, .slice none 0 0, .int .i64 0], []⟩ 8 (by kernel_rfl) (by kernel_rfl) (by kernel_rfl) (by kernel_rfl)) told

theorem over : Rows.dataOrdersRow.holds Try.pinned (OpenSpec.ofChange Rows.dataOrdersSpec) :=
  OpenClaim.holds_of_wide 3 Try.f3 rfl rfl rfl rfl rfl rfl rfl ⟨rfl, rfl, rfl, rfl, rfl⟩ rfl rfl rfl rfl rfl (by kernel_rfl) Try.func3 (by kernel_rfl)
    (of_decide_eq_true (by kernel_rfl)) (by unfold Func.isWrapper; first | (rw [if_pos (by decide +kernel)]; kernel_rfl) | (rw [if_neg (by decide +kernel)]; exact ⟨rfl, rfl⟩))
    (fun os started H enc _ => lifted os started H enc)

theorem proved : Rows.DataOrdersSaid := over
#print axioms proved
end Go.Proofs.Ytaiaadojnoipfaa.dataOrders
