import Derived.Test.YthebpgnloejodaaRows
import Derived.WalkKit
import Derived.ProofKit
import Derived.OpenShut
import Derived.Lib.Hide
import Derived.Deep.QuietTactic
import Derived.BigQuiet
import Derived.Laws.BitsAllLaws
import Derived.WalkSpells
import Derived.Laws.IdiomStrings
import Derived.Test.YthebpgnloejodaaWorks
import Derived.Test.YthebpgnloejodaaOpen
import Derived.Test.YthebpgnloejodaaBlock
namespace Go.Proofs.Ythebpgnloejodaa.crcSums
open Go.ChangeShapes Go.WideShapes Go.ChangeAt Go.RowKit
open Go.Proofs.Ythebpgnloejodaa.crc Go.Proofs.Ythebpgnloejodaa.crcm Go.Proofs.Ythebpgnloejodaa.block Go.Proofs.Ythebpgnloejodaa.opened


theorem walk (n : Int) (s : ByteArray) (wn : (Lit.int .u32 n).wf = true) (hs : s.size ≤ 140737488351232) (w : World) :
    Calls Try.prog 3 #[.int .u32 n, .string s] w fun e w' => e = .returned (.bool true) ∧ Below w.heap.size w w' := by
  obtain ⟨l0, h0⟩ := bounds_u32 wn
  clear wn
  obtain ⟨m, rfl⟩ : ∃ m : Nat, n = (m : Int) := ⟨n.toNat, by omega⟩
  obtain ⟨l, rfl⟩ : ∃ l : List UInt8, s = ⟨l.toArray⟩ := ⟨s.data.toList, by simp⟩
  have hl : l.length ≤ 140737488351232 := hs
  clear hs
  by_cases hc : 5000 < l.length
  · go_enter Try.func3, Try.ntmps3
    go_wp2
    go_ret
    exact ⟨rfl, Below.refl _ _⟩
  · go_enter Try.func3, Try.ntmps3
    go_wp2_with fail
    refine (open_any l hl _).mono ?_
    rintro e w1 ⟨rfl, b1⟩
    unfold opened
    go_wp2_with fail
    refine (openR_any l hl _).mono ?_
    rintro e w2 ⟨rfl, b2⟩
    unfold opened
    go_wp2_with fail
    refine (sum_any l hl _).mono ?_
    rintro e w' ⟨rfl, rfl⟩
    go_wp2_with fail
    refine (sumR_any l hl _).mono ?_
    rintro e w' ⟨rfl, rfl⟩
    go_wp2_with fail
    refine (more_any m l (by omega) hl _).mono ?_
    rintro e w' ⟨rfl, rfl⟩
    go_wp2_with fail
    refine (moreR_any m l (by omega) hl _).mono ?_
    rintro e w' ⟨rfl, rfl⟩
    go_wp2_with fail
    refine (seal_any l hl _).mono ?_
    rintro e w3 ⟨rfl, b3⟩
    go_wp2_with fail
    refine (sealR_any l hl _).mono ?_
    rintro e w4 ⟨rfl, b4⟩
    go_wp2
    go_ret
    exact ⟨rfl, then_below (then_below (then_below b1 b2) b3) b4⟩

theorem told (W : World) (args : Array Value) (h : Fed Try.prog W [22, 9] args) : Calls Try.prog 3 args W fun e W' => e = .returned (.bool true) ∧ Below W.heap.size W W' := by
  obtain ⟨v0, v1, rfl⟩ := args2 h.count
  obtain ⟨⟨_, o0⟩, r0⟩ := h.each 0 22 v0 rfl rfl
  obtain ⟨⟨_, o1⟩, r1⟩ := h.each 1 9 v1 rfl rfl
  obtain ⟨a0, q0⟩ := r0 (opens_int Try.underlying22)
  obtain ⟨rfl, w0⟩ := top_int Try.underlying22 o0 q0
  obtain ⟨a1, q1⟩ := r1 (opens_str Try.underlying9)
  obtain ⟨rfl, w1⟩ := top_str Try.underlying9 o1 q1
  exact walk a0 a1 w0 w1 W

/-! ### The row -/
theorem own : ownKnob Try.prog.godebug = none := by kernel_rfl
theorem laidOut : laidOutB Try.prog = true := by kernel_rfl
set_option maxRecDepth 100000 in
theorem lifted (os : Os) (started : os.Started) (H : Type) (enc : TypeId × Value → H) :
    ReturnsInHanded {} Try.checked os 3 .any (Rows.crcSumsSpec.pre6 enc Try.prog Try.f3 Rows.crcSumsRow.domain false) (Rows.crcSumsSpec.post enc Try.prog Try.f3 false true false false) :=
  lift (C := Try.checked) (fn := Try.f3) (tb := 4) (ts := [22, 9]) own started (by kernel_rfl) Try.func3 laidOut (by kernel_rfl) (by kernel_rfl) (by kernel_rfl) Try.underlying4 rfl
    (fun ds h => by
      match ds, h with
      | [_, _], _ => rfl)
    (ChangeSpec.witness6 (enc := enc) (C := Try.checked) false ⟨#[], #[.int .u32 0, .string ByteArray.empty], []⟩ 8 (by kernel_rfl) (by kernel_rfl) (by kernel_rfl) (by kernel_rfl)) told

theorem over : Rows.crcSumsRow.holds Try.pinned (OpenSpec.ofChange Rows.crcSumsSpec) :=
  OpenClaim.holds_of_wide 3 Try.f3 rfl rfl rfl rfl rfl rfl rfl ⟨rfl, rfl, rfl, rfl, rfl⟩ rfl rfl rfl rfl rfl (by kernel_rfl) Try.func3 (by kernel_rfl)
    (of_decide_eq_true (by kernel_rfl)) (by unfold Func.isWrapper; first | (rw [if_pos (by decide +kernel)]; kernel_rfl) | (rw [if_neg (by decide +kernel)]; exact ⟨rfl, rfl⟩))
    (fun os started H enc _ => lifted os started H enc)

theorem proved : Rows.CrcSumsSaid := over
#print axioms proved
end Go.Proofs.Ythebpgnloejodaa.crcSums
