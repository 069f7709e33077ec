/-
  The contracts at the constants of works(), and of works itself: it returns true. No condition.
-/
import Derived.Test.YtmbjnoikfleioaaRdA2
import Derived.Test.YtmbjnoikfleioaaOpen
namespace Go.Proofs.Ytmbjnoikfleioaa.code
open Go.ChangeShapes Go.WideShapes Go.ChangeAt Go.RowKit
open Go.Proofs.Ytmbjnoikfleioaa.enc Go.Proofs.Ytmbjnoikfleioaa.block Go.Proofs.Ytmbjnoikfleioaa.opened

theorem newK (w : World) : Calls Try.prog 14 #[.string ⟨#[172, 2, 3, 2, 97, 98]⟩] w fun e w' => e = .returned (.pointer (some ⟨w.heap.size, 0, none⟩)) ∧ RdA w' w.heap.size [172, 2, 3, 2, 97, 98] 0 ∧ w.grownBy w' none := new_l [172, 2, 3, 2, 97, 98] w
theorem newK2 (w : World) : Calls Try.prog 14 #[.string ⟨#[128, 0]⟩] w fun e w' => e = .returned (.pointer (some ⟨w.heap.size, 0, none⟩)) ∧ RdA w' w.heap.size [128, 0] 0 ∧ w.grownBy w' none := new_l [128, 0] w
theorem e1 : rNum [172, 2, 3, 2, 97, 98] 0 = (300, 2, 0) := by decide +kernel
theorem e2 : rNum [3, 2, 97, 98] 0 = (3, 1, 0) := by decide +kernel
theorem e3 : rTxt [2, 97, 98] 0 2 = ([97, 98], 3, 0) := by decide +kernel
theorem e4 : rNum [128, 0] 0 = (0, 0, 6) := by decide +kernel
theorem numK (g : Nat) (w : World) (h : RdA w g [172, 2, 3, 2, 97, 98] 0) : Calls Try.prog 15 #[.pointer (some ⟨g, 0, none⟩)] w fun r w' => r = .returned (.int .u64 300) ∧ RdA w' g [3, 2, 97, 98] 0 ∧ w.grownBy w' (some g) := by
  have k := numA g _ 0 (by simp) w h
  rw [e1] at k; exact k
theorem signedK (g : Nat) (w : World) (h : RdA w g [3, 2, 97, 98] 0) : Calls Try.prog 19 #[.pointer (some ⟨g, 0, none⟩)] w fun r w' => r = .returned (.int .i64 (-2)) ∧ RdA w' g [2, 97, 98] 0 ∧ w.grownBy w' (some g) := by
  have k := signedA g _ 0 (by simp) w h
  rw [e2] at k; exact k
theorem txtK (g : Nat) (w : World) (h : RdA w g [2, 97, 98] 0) : Calls Try.prog 21 #[.pointer (some ⟨g, 0, none⟩), .int .i64 2] w fun r w' => r = .returned (.string ⟨#[97, 98]⟩) ∧ RdA w' g [] 0 ∧ w.grownBy w' (some g) := by
  have k := txtA g _ 0 2 (by simp) (by omega) (by omega) w h
  rw [e3] at k; exact k
theorem numK2 (g : Nat) (w : World) (h : RdA w g [128, 0] 0) : Calls Try.prog 15 #[.pointer (some ⟨g, 0, none⟩)] w fun r w' => r = .returned (.int .u64 0) ∧ RdA w' g [128, 0] 6 ∧ w.grownBy w' (some g) := by
  have k := numA g _ 0 (by simp) w h
  rw [e4] at k; exact k
theorem endK (g : Nat) (w : World) (h : RdA w g [] 0) : Calls Try.prog 25 #[.pointer (some ⟨g, 0, none⟩)] w fun r w' => r = .returned (.int .i64 0) ∧ RdA w' g [] 0 ∧ w.grownBy w' (some g) := endA g [] 0 w h
theorem encK : enc 300 = [172, 2] := by decide +kernel
theorem encK3 : enc (zig (-2)) = [3] := by decide +kernel
theorem numW (w : World) : Calls Try.prog 8 #[.int .u64 300] w fun e w' => e = .returned (.string ⟨#[172, 2]⟩) ∧ Below w.heap.size w w' := by
  have k := num_any 300 (by decide) w
  rw [encK] at k; exact k
theorem signedW (w : World) : Calls Try.prog 10 #[.int .i64 (-2)] w fun e w' => e = .returned (.string ⟨#[3]⟩) ∧ Below w.heap.size w w' := by
  have k := signed_any (-2) (by omega) (by omega) w
  rw [encK3] at k; exact k
theorem textW (w : World) : Calls Try.prog 12 #[.string ⟨#[97, 98]⟩] w fun e w' => e = .returned (.string ⟨#[2, 97, 98]⟩) ∧ Below w.heap.size w w' :=
  text_any ⟨#[97, 98]⟩ (by decide) w

theorem works_any (w : World) : Calls Try.prog 30 #[] w fun e w' => e = .returned (.bool true) ∧ Below w.heap.size w w' := by
  go_enter Try.func30, Try.ntmps30
  go_wp2_with fail
  refine (newK _).mono ?_
  rintro e w1 ⟨rfl, r1, g1⟩
  go_wp2_with fail
  refine (numK _ _ r1).mono ?_
  rintro e w2 ⟨rfl, r2, g2⟩
  go_wp2_with fail
  refine (signedK _ _ r2).mono ?_
  rintro e w3 ⟨rfl, r3, g3⟩
  go_wp2_with fail
  refine (txtK _ _ r3).mono ?_
  rintro e w4 ⟨rfl, r4, g4⟩
  go_wp2_with fail
  have b1 : Below w.heap.size w w1 := (Below.refl _ _).grown g1 (Nat.le_refl _) (by simp)
  have b2 := below_only b1 g2 b1.size (Nat.le_refl _)
  have b3 := below_only b2 g3 b2.size (Nat.le_refl _)
  have b4 := below_only b3 g4 b3.size (Nat.le_refl _)
  have hlt := r4.inside
  clear r1 r2 r3 g1 g2 g3 g4 b1 b2 b3
  refine (newK2 _).mono ?_
  rintro e w5 ⟨rfl, r5, g5⟩
  have s5 : RdA w5 w.heap.size [] 0 := Whole.grown r4 g5 (by simp)
  go_wp2_with fail
  refine (numK2 _ _ r5).mono ?_
  rintro e w6 ⟨rfl, r6, g6⟩
  have s6 : RdA w6 w.heap.size [] 0 := Whole.grown s5 g6 (by simp; omega)
  have b5 : Below w.heap.size w w5 := b4.grown g5 b4.size (by simp)
  have b6 := below_only b5 g6 b5.size b4.size
  clear r4 r5 s5 g5 g6 b5
  go_wp2_with fail
  refine (endK _ _ s6).mono ?_
  rintro e w7 ⟨rfl, _, g7⟩
  have r7 : RdA w7 w4.heap.size [128, 0] 6 := Whole.grown r6 g7 (by simp; omega)
  have b7 := below_only b6 g7 b6.size (Nat.le_refl _)
  clear r6 s6 g7 b6 hlt b4
  go_wp2_with fail
  refine (errA _ _ _ _ r7).mono ?_
  rintro e w' ⟨rfl, rfl⟩
  go_wp2_with fail
  refine (leftA _ _ _ _ r7).mono ?_
  rintro e w' ⟨rfl, rfl⟩
  go_wp2_with fail
  refine (numW _).mono ?_
  rintro e w8 ⟨rfl, b8⟩
  go_wp2_with fail
  refine (signedW _).mono ?_
  rintro e w9 ⟨rfl, b9⟩
  go_wp2_with fail
  refine (textW _).mono ?_
  rintro e w10 ⟨rfl, b10⟩
  go_wp2
  go_ret
  exact ⟨rfl, then_below (then_below (then_below b7 b8) b9) b10⟩
end Go.Proofs.Ytmbjnoikfleioaa.code
