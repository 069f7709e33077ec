/-
  Are two lists of records the same: the contract of watershedref11.Alike.
-/
import Derived.Test.YtkfjgmfokpgcbaaGreatDoorJDe
import Derived.Deep.QuietTactic
import Derived.BigQuiet
import Derived.WalkKit
import Derived.Deep.DeepCutAuto
namespace Go.Proofs.YtkfjgmfokpgcbaaGreatDoor.data
open Go.ChangeShapes Go.WideShapes Go.ChangeAt Go.RowKit
open Go.Proofs.YtkfjgmfokpgcbaaGreatDoor.opened Go.Proofs.YtkfjgmfokpgcbaaGreatDoor.block Go.Proofs.YtkfjgmfokpgcbaaGreatDoor.region

theorem same_more {N M : List Rc} {k : Nat} {x y : Rc} (h : N.take k = M.take k) (hx : N[k]? = some x) (hy : M[k]? = some y) (e : x = y) : N.take (k + 1) = M.take (k + 1) := by
  rw [List.take_add_one, List.take_add_one, h, hx, hy, e]
theorem same_not {N M : List Rc} {k : Nat} {x y : Rc} (hx : N[k]? = some x) (hy : M[k]? = some y) (e : x ≠ y) : N ≠ M := by
  rintro rfl
  rw [hx] at hy
  exact e (Option.some.inj hy)
set_option maxRecDepth 100000 in
theorem alike_any (A B : Option Addr) (c d : Nat) (N M : List Rc) (hM : M.length ≤ 1000000) (w : World) (h1 : Lr w A N) (h2 : Lr w B M) :
    Calls Tryz.prog 12 #[.slice A N.length c, .slice B M.length d] w fun e w' => e = .returned (.bool (decide (N = M))) ∧ Below w.heap.size w w' := by
  have H1 := Lib.hid h1
  have H2 := Lib.hid h2
  clear h1 h2
  by_cases hl : N.length = M.length
  · have HL := Lib.hid hl
    generalize hn : M.length = n at hl hM
    have HM := Lib.hid hn
    rw [hl]
    clear hn hl
    go_enter Tryz.func12, Tryz.ntmps12
    go_wp2_with fail
    go_loopw [5] (fun i wr => ∃ k : Nat, k ≤ n ∧ i = .int .i64 k ∧ Hid (N.take k = M.take k) ∧ Below w.heap.size w wr) (fun i _ => n - (intOf i).toNat)
    case atStart => exact ⟨0, Nat.zero_le _, rfl, Lib.hid (by simp), Below.refl _ _⟩
    case round =>
      obtain ⟨k, hk, rfl, HT, hb⟩ := hrel
      by_cases hlt : k < n
      · obtain ⟨x, hx⟩ : ∃ x, N[k]? = some x := ⟨_, List.getElem?_eq_getElem (by have := HL.out; have := HM.out; omega)⟩
        obtain ⟨y, hy⟩ : ∃ y, M[k]? = some y := ⟨_, List.getElem?_eq_getElem (by have := HM.out; omega)⟩
        obtain ⟨b1, o1, rfl, hb1, c1, c2⟩ := at_rc (H1.out.below hb) hx
        obtain ⟨b2, o2, rfl, hb2, c3, c4⟩ := at_rc (H2.out.below hb) hy
        have HX := Lib.hid hx
        have HY := Lib.hid hy
        have hq := run_neR x y
        clear hx hy
        by_cases hv : x = y
        · have HR := Lib.hid (same_more HT.out HX.out HY.out hv)
          rw [decide_eq_true hv] at hq
          clear hv
          go_upto_region 6 with fail
          go_quiet (fail)
          go_wp2_with fail
          go_roundw
          case rel => exact ⟨k + 1, by omega, by go_num, HR, below_drewN hb _⟩
          case measure => simp [intOf]; omega
        · have HR : Hid (N ≠ M) := Lib.hid (same_not HX.out HY.out hv)
          rw [decide_eq_false hv] at hq
          clear hv
          go_upto_region 6 with fail
          go_quiet (fail)
          go_wp2_with fail
          go_ret
          rw [decide_eq_false HR.out]
          exact ⟨rfl, below_drewN hb _⟩
      · have HR : Hid (N = M) := Lib.hid (by
          have e := HT.out
          have := HL.out
          have := HM.out
          rwa [List.take_of_length_le (by omega), List.take_of_length_le (by omega)] at e)
        go_wp2_with fail
        go_ret
        rw [decide_eq_true HR.out]
        exact ⟨rfl, hb⟩
  · have HR : Hid (N ≠ M) := Lib.hid (fun e => hl (congrArg List.length e))
    generalize N.length = n at hl
    generalize M.length = m at hl hM
    have hne : ((n : Int) == (m : Int)) = false := by rw [beq_eq_false_iff_ne]; omega
    go_enter Tryz.func12, Tryz.ntmps12
    go_wp2_with fail
    go_ret
    rw [decide_eq_false HR.out]
    exact ⟨rfl, Below.refl _ _⟩
end Go.Proofs.YtkfjgmfokpgcbaaGreatDoor.data
