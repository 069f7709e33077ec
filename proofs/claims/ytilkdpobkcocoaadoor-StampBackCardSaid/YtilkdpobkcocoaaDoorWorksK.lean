/-
  The contract of the law's example: each call at the times of the chapter's examples.
-/
import Derived.Test.YtilkdpobkcocoaaDoorParse
import Derived.Test.YtilkdpobkcocoaaDoorRead
import Derived.Test.YtilkdpobkcocoaaDoorMv3
import Derived.Test.YtilkdpobkcocoaaDoorLe
import Derived.Test.YtilkdpobkcocoaaDoorCmp
namespace Go.Proofs.YtilkdpobkcocoaaDoor.stamp
open Go.ChangeShapes Go.WideShapes Go.ChangeAt Go.RowKit
open Go.Proofs.YtilkdpobkcocoaaDoor.tm Go.Proofs.YtilkdpobkcocoaaDoor.opened Go.Proofs.YtilkdpobkcocoaaDoor.block Go.Proofs.YtilkdpobkcocoaaDoor.code Go.Proofs.YtilkdpobkcocoaaDoor.enc

theorem at_any (x y : Int) (w : World) : Calls Tryd.prog 46 #[.int .u32 x, .int .u32 y] w fun e w' => e = .returned (.agg #[.int .u32 x, .int .i64 1, .int .u32 y, .int .u32 0, .int .u32 0]) ∧ Below w.heap.size w w' := by
  go_enter Tryd.func46, Tryd.ntmps46
  go_wp2
  exact bodyPost_ret (v := .agg #[.int .u32 x, .int .i64 1, .int .u32 y, .int .u32 0, .int .u32 0]) (by simp [results, Tryd.results46, go_sem]) rfl ⟨rfl, by
    repeat (with_reducible refine Below.setCell ?_ (by simp) _)
    exact fresh1 _ _⟩
theorem in_a : ((⟨3, 1, 1, 0, 0⟩ : Tm)).In := ⟨by decide, by decide, by decide, by decide, by decide, by decide, by decide, by decide, by decide, by decide⟩
theorem in_b : ((⟨3, 1, 2, 0, 0⟩ : Tm)).In := ⟨by decide, by decide, by decide, by decide, by decide, by decide, by decide, by decide, by decide, by decide⟩
theorem in_c : ((⟨4, 1, 0, 0, 0⟩ : Tm)).In := ⟨by decide, by decide, by decide, by decide, by decide, by decide, by decide, by decide, by decide, by decide⟩
theorem in_d : ((⟨3, 2, 1, 0, 0⟩ : Tm)).In := ⟨by decide, by decide, by decide, by decide, by decide, by decide, by decide, by decide, by decide, by decide⟩
theorem in_f : ((⟨3, 2, 1, 1, 0⟩ : Tm)).In := ⟨by decide, by decide, by decide, by decide, by decide, by decide, by decide, by decide, by decide, by decide⟩
theorem in_z : ((⟨0, 0, 0, 0, 0⟩ : Tm)).In := ⟨by decide, by decide, by decide, by decide, by decide, by decide, by decide, by decide, by decide, by decide⟩
theorem enterK (w : World) : Calls Tryd.prog 15 #[.agg #[.int .u32 3, .int .i64 1, .int .u32 1, .int .u32 0, .int .u32 0]] w fun e w' => e = .returned (.tuple #[.agg #[.int .u32 3, .int .i64 2, .int .u32 1, .int .u32 0, .int .u32 0], .int .i64 0]) ∧ Below w.heap.size w w' := by
  have k := enter_any (⟨3, 1, 1, 0, 0⟩ : Tm) in_a w
  rw [show enterV (⟨3, 1, 1, 0, 0⟩ : Tm) = (⟨3, 2, 1, 0, 0⟩ : Tm) by decide, show enterE (⟨3, 1, 1, 0, 0⟩ : Tm) = 0 by decide] at k
  exact k
theorem nextK (w : World) : Calls Tryd.prog 17 #[.agg #[.int .u32 3, .int .i64 2, .int .u32 1, .int .u32 0, .int .u32 0]] w fun e w' => e = .returned (.tuple #[.agg #[.int .u32 3, .int .i64 2, .int .u32 1, .int .u32 1, .int .u32 0], .int .i64 0]) ∧ Below w.heap.size w w' := by
  have k := next_any (⟨3, 2, 1, 0, 0⟩ : Tm) in_d w
  rw [show nextV (⟨3, 2, 1, 0, 0⟩ : Tm) = (⟨3, 2, 1, 1, 0⟩ : Tm) by decide, show nextE (⟨3, 2, 1, 0, 0⟩ : Tm) = 0 by decide] at k
  exact k
theorem leaveK (w : World) : Calls Tryd.prog 16 #[.agg #[.int .u32 3, .int .i64 2, .int .u32 1, .int .u32 1, .int .u32 0]] w fun e w' => e = .returned (.tuple #[.agg #[.int .u32 3, .int .i64 1, .int .u32 1, .int .u32 0, .int .u32 0], .int .i64 0]) ∧ Below w.heap.size w w' := by
  have k := leave_any (⟨3, 2, 1, 1, 0⟩ : Tm) in_f w
  rw [show leaveV (⟨3, 2, 1, 1, 0⟩ : Tm) = (⟨3, 1, 1, 0, 0⟩ : Tm) by decide, show inn (⟨3, 2, 1, 1, 0⟩ : Tm) = 0 by decide] at k
  exact k
theorem leaveZ (w : World) : Calls Tryd.prog 16 #[.agg #[.int .u32 0, .int .i64 0, .int .u32 0, .int .u32 0, .int .u32 0]] w fun e w' => e = .returned (.tuple #[.agg #[.int .u32 0, .int .i64 0, .int .u32 0, .int .u32 0, .int .u32 0], .int .i64 10]) ∧ Below w.heap.size w w' := by
  have k := leave_any (⟨0, 0, 0, 0, 0⟩ : Tm) in_z w
  rw [show leaveV (⟨0, 0, 0, 0, 0⟩ : Tm) = (⟨0, 0, 0, 0, 0⟩ : Tm) by decide, show inn (⟨0, 0, 0, 0, 0⟩ : Tm) = 10 by decide] at k
  exact k
theorem txtK : txtL (⟨3, 2, 1, 1, 0⟩ : Tm) = [51, 46, 49, 46, 49] := by
  simp [txtL, cnt, decI, Lib.decDigits_one, Lib.join_cons, Lib.joinTail]
theorem textK (w : World) (hE : Env w) : Calls Tryd.prog 9 #[.agg #[.int .u32 3, .int .i64 2, .int .u32 1, .int .u32 1, .int .u32 0]] w fun e w' => e = .returned (.tuple #[.string ⟨#[51, 46, 49, 46, 49]⟩, .int .i64 0]) ∧ Below w.heap.size w w' := by
  have k := text_any (⟨3, 2, 1, 1, 0⟩ : Tm) in_f w hE
  rw [show txtV (⟨3, 2, 1, 1, 0⟩ : Tm) = [51, 46, 49, 46, 49] by unfold txtV; rw [if_pos (by decide), txtK], show chk (⟨3, 2, 1, 1, 0⟩ : Tm) = 0 by decide] at k
  exact k
theorem cutK : cut [51, 46, 49, 46, 49] = [[51], [49], [49]] := by decide +kernel
theorem parseK (w : World) (hE : Env w) : Calls Tryd.prog 11 #[.string ⟨#[51, 46, 49, 46, 49]⟩] w fun e w' => e = .returned (.tuple #[.agg #[.int .u32 3, .int .i64 2, .int .u32 1, .int .u32 1, .int .u32 0], .int .i64 0]) ∧ Below w.heap.size w w' := by
  have k := parse_any [51, 46, 49, 46, 49] (by decide) w hE
  have hv : vals [[51], [49], [49]] = some [3, 1, 1] := by decide +kernel
  have hp : ppV (cut [51, 46, 49, 46, 49]) = (⟨3, 2, 1, 1, 0⟩ : Tm) := by rw [cutK, ppV_some (by decide) hv]; rfl
  have hi : isTxt [51, 46, 49, 46, 49] := ⟨by rw [cutK]; exact ppB_some (by decide) hv, by rw [hp]; decide, by rw [hp, txtK]⟩
  rw [show parseV [51, 46, 49, 46, 49] = (⟨3, 2, 1, 1, 0⟩ : Tm) by unfold parseV; rw [if_pos hi, hp], show parseE [51, 46, 49, 46, 49] = 0 by unfold parseE; rw [if_pos hi]] at k
  exact k
theorem writeK (w : World) : Calls Tryd.prog 20 #[.agg #[.int .u32 3, .int .i64 1, .int .u32 2, .int .u32 0, .int .u32 0]] w fun e w' => e = .returned (.tuple #[.string ⟨#[1, 3, 2]⟩, .int .i64 0]) ∧ Below w.heap.size w w' := by
  have k := write_any (⟨3, 1, 2, 0, 0⟩ : Tm) in_b w
  rw [show wrtV (⟨3, 1, 2, 0, 0⟩ : Tm) = [1, 3, 2] by decide +kernel, show chk (⟨3, 1, 2, 0, 0⟩ : Tm) = 0 by decide] at k
  exact k
theorem readK (g : Nat) (w : World) (h : QA w g ([1, 3, 2], 0)) : Calls Tryd.prog 22 #[.pointer (some ⟨g, 0, none⟩)] w fun r w' => r = .returned (.agg #[.int .u32 3, .int .i64 1, .int .u32 2, .int .u32 0, .int .u32 0]) ∧ w.grownBy w' (some g) := by
  have k := readA g ([1, 3, 2], 0) (by decide) w h
  rw [show rdT ([1, 3, 2], 0) = (⟨3, 1, 2, 0, 0⟩ : Tm) by decide +kernel] at k
  exact k.mono fun _ _ ⟨h1, _, h2⟩ => ⟨h1, h2⟩
theorem leAB (w : World) : Calls Tryd.prog 18 #[.agg #[.int .u32 3, .int .i64 1, .int .u32 1, .int .u32 0, .int .u32 0], .agg #[.int .u32 3, .int .i64 1, .int .u32 2, .int .u32 0, .int .u32 0]] w fun e w' => e = .returned (.bool true) ∧ Below w.heap.size w w' := by
  have k := le_any (⟨3, 1, 1, 0, 0⟩ : Tm) (⟨3, 1, 2, 0, 0⟩ : Tm) in_a in_b w
  rw [show leB (⟨3, 1, 1, 0, 0⟩ : Tm) (⟨3, 1, 2, 0, 0⟩ : Tm) = true by decide] at k
  exact k
theorem leBA (w : World) : Calls Tryd.prog 18 #[.agg #[.int .u32 3, .int .i64 1, .int .u32 2, .int .u32 0, .int .u32 0], .agg #[.int .u32 3, .int .i64 1, .int .u32 1, .int .u32 0, .int .u32 0]] w fun e w' => e = .returned (.bool false) ∧ Below w.heap.size w w' := by
  have k := le_any (⟨3, 1, 2, 0, 0⟩ : Tm) (⟨3, 1, 1, 0, 0⟩ : Tm) in_b in_a w
  rw [show leB (⟨3, 1, 2, 0, 0⟩ : Tm) (⟨3, 1, 1, 0, 0⟩ : Tm) = false by decide] at k
  exact k
theorem leAC (w : World) : Calls Tryd.prog 18 #[.agg #[.int .u32 3, .int .i64 1, .int .u32 1, .int .u32 0, .int .u32 0], .agg #[.int .u32 4, .int .i64 1, .int .u32 0, .int .u32 0, .int .u32 0]] w fun e w' => e = .returned (.bool false) ∧ Below w.heap.size w w' := by
  have k := le_any (⟨3, 1, 1, 0, 0⟩ : Tm) (⟨4, 1, 0, 0, 0⟩ : Tm) in_a in_c w
  rw [show leB (⟨3, 1, 1, 0, 0⟩ : Tm) (⟨4, 1, 0, 0, 0⟩ : Tm) = false by decide] at k
  exact k
theorem leCA (w : World) : Calls Tryd.prog 18 #[.agg #[.int .u32 4, .int .i64 1, .int .u32 0, .int .u32 0, .int .u32 0], .agg #[.int .u32 3, .int .i64 1, .int .u32 1, .int .u32 0, .int .u32 0]] w fun e w' => e = .returned (.bool false) ∧ Below w.heap.size w w' := by
  have k := le_any (⟨4, 1, 0, 0, 0⟩ : Tm) (⟨3, 1, 1, 0, 0⟩ : Tm) in_c in_a w
  rw [show leB (⟨4, 1, 0, 0, 0⟩ : Tm) (⟨3, 1, 1, 0, 0⟩ : Tm) = false by decide] at k
  exact k
theorem compareAC (w : World) : Calls Tryd.prog 47 #[.agg #[.int .u32 3, .int .i64 1, .int .u32 1, .int .u32 0, .int .u32 0], .agg #[.int .u32 4, .int .i64 1, .int .u32 0, .int .u32 0, .int .u32 0]] w fun e w' => e = .returned (.int .i64 (-1)) ∧ Below w.heap.size w w' := by
  have k := compare_any (⟨3, 1, 1, 0, 0⟩ : Tm) (⟨4, 1, 0, 0, 0⟩ : Tm) in_a in_c w
  rw [show cmpT (⟨3, 1, 1, 0, 0⟩ : Tm) (⟨4, 1, 0, 0, 0⟩ : Tm) = -1 by decide] at k
  exact k
end Go.Proofs.YtilkdpobkcocoaaDoor.stamp
