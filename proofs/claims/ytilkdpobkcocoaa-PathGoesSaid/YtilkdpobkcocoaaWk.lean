/-
  The contract of the laws' own works: it answers true.
-/
import Derived.Test.YtilkdpobkcocoaaTh
import Derived.Test.YtilkdpobkcocoaaRi
import Derived.Test.YtilkdpobkcocoaaLe2
import Derived.Test.YtilkdpobkcocoaaEqP
namespace Go.Proofs.Ytilkdpobkcocoaa.path
open Go.ChangeShapes Go.WideShapes Go.ChangeAt Go.RowKit
open Go.Proofs.Ytilkdpobkcocoaa.tm Go.Proofs.Ytilkdpobkcocoaa.opened Go.Proofs.Ytilkdpobkcocoaa.block Go.Proofs.Ytilkdpobkcocoaa.stamp Go.Proofs.Ytilkdpobkcocoaa.pa

theorem inA : Pa.In (Pa.mk 0 0 0 0 0 0 1 0 0 0) := by constructor <;> decide
theorem inB : Pa.In (Pa.mk 1 1 0 1 0 0 0 0 0 0) := by constructor <;> decide
theorem inC : Pa.In (Pa.mk 1 0 0 0 0 0 0 0 0 0) := by constructor <;> decide
theorem inD : Pa.In (Pa.mk 0 0 0 0 0 0 1 1 0 0) := by constructor <;> decide
theorem inX : Pa.In (Pa.mk 0 0 0 0 0 0 1 2 0 0) := by constructor <;> decide
theorem inY : Pa.In (Pa.mk 0 0 0 0 0 0 0 0 0 0) := by constructor <;> decide
theorem inT5 : Tm.In ⟨5, 0, 0, 0, 0⟩ := by constructor <;> decide
set_option maxRecDepth 100000 in
set_option maxHeartbeats 2000000 in
theorem works_any (w : World) : Calls Try.prog 14 #[] w fun e w' => e = .returned (.bool true) ∧ Below w.heap.size w w' := by
  have E0 : Hid (∀ W : World, Calls Try.prog 41 #[.int .i64 0] W (Gives (Pa.mk 0 0 0 0 0 0 1 0 0 0) 0 W)) := Lib.hid (goIn_any 0)
  have E1 : Hid (∀ W : World, Calls Try.prog 42 #[.int .i64 1] W (Gives (Pa.mk 1 1 0 1 0 0 0 0 0 0) 0 W)) := Lib.hid (goOn_any 1)
  have E2 : Hid (∀ W : World, Calls Try.prog 43 #[.int .i64 1] W (Gives (Pa.mk 1 0 0 0 0 0 0 0 0 0) 0 W)) := Lib.hid (goOut_any 1)
  have E3 : Hid (∀ W : World, Calls Try.prog 11 #[.agg #[.int .i64 0, .int .i64 0, .int .u32 0, .int .u32 0, .int .u32 0, .int .u32 0, .int .i64 1, .int .u32 0, .int .u32 0, .int .u32 0], .agg #[.int .i64 1, .int .i64 1, .int .u32 0, .int .u32 1, .int .u32 0, .int .u32 0, .int .i64 0, .int .u32 0, .int .u32 0, .int .u32 0]] W (Gives (Pa.mk 0 0 0 0 0 0 1 1 0 0) 0 W)) := Lib.hid (then_any (Pa.mk 0 0 0 0 0 0 1 0 0 0) (Pa.mk 1 1 0 1 0 0 0 0 0 0) inA inB)
  have E4 : Hid (∀ W : World, Calls Try.prog 11 #[.agg #[.int .i64 0, .int .i64 0, .int .u32 0, .int .u32 0, .int .u32 0, .int .u32 0, .int .i64 1, .int .u32 1, .int .u32 0, .int .u32 0], .agg #[.int .i64 1, .int .i64 1, .int .u32 0, .int .u32 1, .int .u32 0, .int .u32 0, .int .i64 0, .int .u32 0, .int .u32 0, .int .u32 0]] W (Gives (Pa.mk 0 0 0 0 0 0 1 2 0 0) 0 W)) := Lib.hid (then_any (Pa.mk 0 0 0 0 0 0 1 1 0 0) (Pa.mk 1 1 0 1 0 0 0 0 0 0) inD inB)
  have E5 : Hid (∀ W : World, Calls Try.prog 11 #[.agg #[.int .i64 0, .int .i64 0, .int .u32 0, .int .u32 0, .int .u32 0, .int .u32 0, .int .i64 1, .int .u32 1, .int .u32 0, .int .u32 0], .agg #[.int .i64 1, .int .i64 0, .int .u32 0, .int .u32 0, .int .u32 0, .int .u32 0, .int .i64 0, .int .u32 0, .int .u32 0, .int .u32 0]] W (Gives (Pa.mk 0 0 0 0 0 0 0 0 0 0) 0 W)) := Lib.hid (then_any (Pa.mk 0 0 0 0 0 0 1 1 0 0) (Pa.mk 1 0 0 0 0 0 0 0 0 0) inD inC)
  have E6 : Hid (∀ W : World, Calls Try.prog 16 #[.int .i64 0] W (Gives (Pa.mk 0 0 0 0 0 0 0 0 0 0) 0 W)) := Lib.hid (stay_any 0)
  have E7 : Hid (∀ W : World, Calls Try.prog 8 #[.agg #[.int .i64 0, .int .i64 0, .int .u32 0, .int .u32 0, .int .u32 0, .int .u32 0, .int .i64 1, .int .u32 2, .int .u32 0, .int .u32 0], .agg #[.int .u32 5, .int .i64 0, .int .u32 0, .int .u32 0, .int .u32 0]] W (GivesT ⟨5, 1, 2, 0, 0⟩ 0 W)) := Lib.hid (apply_any (Pa.mk 0 0 0 0 0 0 1 2 0 0) ⟨5, 0, 0, 0, 0⟩ inX inT5)
  have E8 : Hid (∀ W : World, Calls Try.prog 44 #[.agg #[.int .i64 1, .int .i64 1, .int .u32 0, .int .u32 1, .int .u32 0, .int .u32 0, .int .i64 0, .int .u32 0, .int .u32 0, .int .u32 0]] W fun e w' => e = .returned (.bool true) ∧ Below W.heap.size W w') := Lib.hid (rises_any (Pa.mk 1 1 0 1 0 0 0 0 0 0) inB)
  have E9 : Hid (∀ W : World, Calls Try.prog 44 #[.agg #[.int .i64 0, .int .i64 0, .int .u32 0, .int .u32 0, .int .u32 0, .int .u32 0, .int .i64 0, .int .u32 0, .int .u32 0, .int .u32 0]] W fun e w' => e = .returned (.bool false) ∧ Below W.heap.size W w') := Lib.hid (rises_any (Pa.mk 0 0 0 0 0 0 0 0 0 0) inY)
  have E10 : Hid (∀ W : World, Calls Try.prog 18 #[.agg #[.int .i64 0, .int .i64 0, .int .u32 0, .int .u32 0, .int .u32 0, .int .u32 0, .int .i64 1, .int .u32 1, .int .u32 0, .int .u32 0], .agg #[.int .i64 0, .int .i64 0, .int .u32 0, .int .u32 0, .int .u32 0, .int .u32 0, .int .i64 1, .int .u32 2, .int .u32 0, .int .u32 0]] W fun e w' => e = .returned (.bool true) ∧ Below W.heap.size W w') := Lib.hid (lep_any (Pa.mk 0 0 0 0 0 0 1 1 0 0) (Pa.mk 0 0 0 0 0 0 1 2 0 0) inD inX)
  have E11 : Hid (∀ W : World, Calls Try.prog 18 #[.agg #[.int .i64 0, .int .i64 0, .int .u32 0, .int .u32 0, .int .u32 0, .int .u32 0, .int .i64 1, .int .u32 2, .int .u32 0, .int .u32 0], .agg #[.int .i64 0, .int .i64 0, .int .u32 0, .int .u32 0, .int .u32 0, .int .u32 0, .int .i64 1, .int .u32 1, .int .u32 0, .int .u32 0]] W fun e w' => e = .returned (.bool false) ∧ Below W.heap.size W w') := Lib.hid (lep_any (Pa.mk 0 0 0 0 0 0 1 2 0 0) (Pa.mk 0 0 0 0 0 0 1 1 0 0) inX inD)
  have Q1 : ∀ W, (binOp .eql 32 (.agg #[.int .i64 0, .int .i64 0, .int .u32 0, .int .u32 0, .int .u32 0, .int .u32 0, .int .i64 0, .int .u32 0, .int .u32 0, .int .u32 0]) (.agg #[.int .i64 0, .int .i64 0, .int .u32 0, .int .u32 0, .int .u32 0, .int .u32 0, .int .i64 0, .int .u32 0, .int .u32 0, .int .u32 0])).run Try.prog W = .ok (.bool true) W := fun W => run_eqP (Pa.mk 0 0 0 0 0 0 0 0 0 0) (Pa.mk 0 0 0 0 0 0 0 0 0 0) W
  have Q2 : ∀ W, (binOp .eql 28 (.agg #[.int .u32 5, .int .i64 1, .int .u32 2, .int .u32 0, .int .u32 0]) (.agg #[.int .u32 5, .int .i64 1, .int .u32 2, .int .u32 0, .int .u32 0])).run Try.prog W = .ok (.bool true) W := fun W => run_eqT ⟨5, 1, 2, 0, 0⟩ ⟨5, 1, 2, 0, 0⟩ W
  have Q1 := Lib.hid Q1
  have Q2 := Lib.hid Q2
  go_enter Try.func14, Try.ntmps14
  go_wp2_with fail
  refine (E0.out _).mono ?_
  rintro e w1 ⟨rfl, b1⟩
  have hB := b1
  clear b1
  go_wp2_with fail
  refine (E1.out _).mono ?_
  rintro e w2 ⟨rfl, b2⟩
  have N := hB.alloc hB.size (.cells #[.int .i64 0, .int .i64 0, .int .u32 0, .int .u32 0, .int .u32 0, .int .u32 0, .int .i64 1, .int .u32 0, .int .u32 0, .int .u32 0] 32)
  have OA := (Whole.fresh w1 32 #[.int .i64 0, .int .i64 0, .int .u32 0, .int .u32 0, .int .u32 0, .int .u32 0, .int .i64 1, .int .u32 0, .int .u32 0, .int .u32 0]).below b2 (by simp)
  have hB := N.trans (b2.mono N.size)
  clear N
  clear b2
  generalize w1.heap.size = nA at *
  go_wp2_with fail
  refine (E2.out _).mono ?_
  rintro e w3 ⟨rfl, b3⟩
  have N := hB.alloc hB.size (.cells #[.int .i64 1, .int .i64 1, .int .u32 0, .int .u32 1, .int .u32 0, .int .u32 0, .int .i64 0, .int .u32 0, .int .u32 0, .int .u32 0] 32)
  have OA := (OA.alloc (.cells #[.int .i64 1, .int .i64 1, .int .u32 0, .int .u32 1, .int .u32 0, .int .u32 0, .int .i64 0, .int .u32 0, .int .u32 0, .int .u32 0] 32)).below b3 (OA.alloc (.cells #[.int .i64 1, .int .i64 1, .int .u32 0, .int .u32 1, .int .u32 0, .int .u32 0, .int .i64 0, .int .u32 0, .int .u32 0, .int .u32 0] 32)).inside
  have OB := (Whole.fresh w2 32 #[.int .i64 1, .int .i64 1, .int .u32 0, .int .u32 1, .int .u32 0, .int .u32 0, .int .i64 0, .int .u32 0, .int .u32 0, .int .u32 0]).below b3 (by simp)
  have hB := N.trans (b3.mono N.size)
  clear N
  clear b3
  generalize w2.heap.size = nB at *
  obtain ⟨cA, dA⟩ := all_of OA
  have gA := OA.inside
  obtain ⟨cB, dB⟩ := all_of OB
  have gB := OB.inside
  go_wp2_with fail
  refine (E3.out _).mono ?_
  rintro e w4 ⟨rfl, b4⟩
  clear cA dA gA cB dB gB
  have N := hB.alloc hB.size (.cells #[.int .i64 1, .int .i64 0, .int .u32 0, .int .u32 0, .int .u32 0, .int .u32 0, .int .i64 0, .int .u32 0, .int .u32 0, .int .u32 0] 32)
  have OA := (OA.alloc (.cells #[.int .i64 1, .int .i64 0, .int .u32 0, .int .u32 0, .int .u32 0, .int .u32 0, .int .i64 0, .int .u32 0, .int .u32 0, .int .u32 0] 32)).below b4 (OA.alloc (.cells #[.int .i64 1, .int .i64 0, .int .u32 0, .int .u32 0, .int .u32 0, .int .u32 0, .int .i64 0, .int .u32 0, .int .u32 0, .int .u32 0] 32)).inside
  have OB := (OB.alloc (.cells #[.int .i64 1, .int .i64 0, .int .u32 0, .int .u32 0, .int .u32 0, .int .u32 0, .int .i64 0, .int .u32 0, .int .u32 0, .int .u32 0] 32)).below b4 (OB.alloc (.cells #[.int .i64 1, .int .i64 0, .int .u32 0, .int .u32 0, .int .u32 0, .int .u32 0, .int .i64 0, .int .u32 0, .int .u32 0, .int .u32 0] 32)).inside
  have OC := (Whole.fresh w3 32 #[.int .i64 1, .int .i64 0, .int .u32 0, .int .u32 0, .int .u32 0, .int .u32 0, .int .i64 0, .int .u32 0, .int .u32 0, .int .u32 0]).below b4 (by simp)
  have hB := N.trans (b4.mono N.size)
  clear N
  clear b4
  generalize w3.heap.size = nC at *
  obtain ⟨cB, dB⟩ := all_of OB
  have gB := OB.inside
  go_wp2_with fail
  refine (E4.out _).mono ?_
  rintro e w5 ⟨rfl, b5⟩
  clear cB dB gB
  have N := hB.alloc hB.size (.cells #[.int .i64 0, .int .i64 0, .int .u32 0, .int .u32 0, .int .u32 0, .int .u32 0, .int .i64 1, .int .u32 1, .int .u32 0, .int .u32 0] 32)
  have OA := (OA.alloc (.cells #[.int .i64 0, .int .i64 0, .int .u32 0, .int .u32 0, .int .u32 0, .int .u32 0, .int .i64 1, .int .u32 1, .int .u32 0, .int .u32 0] 32)).below b5 (OA.alloc (.cells #[.int .i64 0, .int .i64 0, .int .u32 0, .int .u32 0, .int .u32 0, .int .u32 0, .int .i64 1, .int .u32 1, .int .u32 0, .int .u32 0] 32)).inside
  have OB := (OB.alloc (.cells #[.int .i64 0, .int .i64 0, .int .u32 0, .int .u32 0, .int .u32 0, .int .u32 0, .int .i64 1, .int .u32 1, .int .u32 0, .int .u32 0] 32)).below b5 (OB.alloc (.cells #[.int .i64 0, .int .i64 0, .int .u32 0, .int .u32 0, .int .u32 0, .int .u32 0, .int .i64 1, .int .u32 1, .int .u32 0, .int .u32 0] 32)).inside
  have OC := (OC.alloc (.cells #[.int .i64 0, .int .i64 0, .int .u32 0, .int .u32 0, .int .u32 0, .int .u32 0, .int .i64 1, .int .u32 1, .int .u32 0, .int .u32 0] 32)).below b5 (OC.alloc (.cells #[.int .i64 0, .int .i64 0, .int .u32 0, .int .u32 0, .int .u32 0, .int .u32 0, .int .i64 1, .int .u32 1, .int .u32 0, .int .u32 0] 32)).inside
  have OD := (Whole.fresh w4 32 #[.int .i64 0, .int .i64 0, .int .u32 0, .int .u32 0, .int .u32 0, .int .u32 0, .int .i64 1, .int .u32 1, .int .u32 0, .int .u32 0]).below b5 (by simp)
  have hB := N.trans (b5.mono N.size)
  clear N
  clear b5
  generalize w4.heap.size = nD at *
  obtain ⟨cD, dD⟩ := all_of OD
  have gD := OD.inside
  obtain ⟨cC, dC⟩ := all_of OC
  have gC := OC.inside
  go_wp2_with fail
  refine (E5.out _).mono ?_
  rintro e w6 ⟨rfl, b6⟩
  clear cD dD gD cC dC gC
  have N := hB.alloc hB.size (.cells #[.int .i64 0, .int .i64 0, .int .u32 0, .int .u32 0, .int .u32 0, .int .u32 0, .int .i64 1, .int .u32 2, .int .u32 0, .int .u32 0] 32)
  have OA := (OA.alloc (.cells #[.int .i64 0, .int .i64 0, .int .u32 0, .int .u32 0, .int .u32 0, .int .u32 0, .int .i64 1, .int .u32 2, .int .u32 0, .int .u32 0] 32)).below b6 (OA.alloc (.cells #[.int .i64 0, .int .i64 0, .int .u32 0, .int .u32 0, .int .u32 0, .int .u32 0, .int .i64 1, .int .u32 2, .int .u32 0, .int .u32 0] 32)).inside
  have OB := (OB.alloc (.cells #[.int .i64 0, .int .i64 0, .int .u32 0, .int .u32 0, .int .u32 0, .int .u32 0, .int .i64 1, .int .u32 2, .int .u32 0, .int .u32 0] 32)).below b6 (OB.alloc (.cells #[.int .i64 0, .int .i64 0, .int .u32 0, .int .u32 0, .int .u32 0, .int .u32 0, .int .i64 1, .int .u32 2, .int .u32 0, .int .u32 0] 32)).inside
  have OC := (OC.alloc (.cells #[.int .i64 0, .int .i64 0, .int .u32 0, .int .u32 0, .int .u32 0, .int .u32 0, .int .i64 1, .int .u32 2, .int .u32 0, .int .u32 0] 32)).below b6 (OC.alloc (.cells #[.int .i64 0, .int .i64 0, .int .u32 0, .int .u32 0, .int .u32 0, .int .u32 0, .int .i64 1, .int .u32 2, .int .u32 0, .int .u32 0] 32)).inside
  have OD := (OD.alloc (.cells #[.int .i64 0, .int .i64 0, .int .u32 0, .int .u32 0, .int .u32 0, .int .u32 0, .int .i64 1, .int .u32 2, .int .u32 0, .int .u32 0] 32)).below b6 (OD.alloc (.cells #[.int .i64 0, .int .i64 0, .int .u32 0, .int .u32 0, .int .u32 0, .int .u32 0, .int .i64 1, .int .u32 2, .int .u32 0, .int .u32 0] 32)).inside
  have OX := (Whole.fresh w5 32 #[.int .i64 0, .int .i64 0, .int .u32 0, .int .u32 0, .int .u32 0, .int .u32 0, .int .i64 1, .int .u32 2, .int .u32 0, .int .u32 0]).below b6 (by simp)
  have hB := N.trans (b6.mono N.size)
  clear N
  clear b6
  generalize w5.heap.size = nX at *
  go_wp2_with fail
  refine (E6.out _).mono ?_
  rintro e w7 ⟨rfl, b7⟩
  have N := hB.alloc hB.size (.cells #[.int .i64 0, .int .i64 0, .int .u32 0, .int .u32 0, .int .u32 0, .int .u32 0, .int .i64 0, .int .u32 0, .int .u32 0, .int .u32 0] 32)
  have OA := (OA.alloc (.cells #[.int .i64 0, .int .i64 0, .int .u32 0, .int .u32 0, .int .u32 0, .int .u32 0, .int .i64 0, .int .u32 0, .int .u32 0, .int .u32 0] 32)).below b7 (OA.alloc (.cells #[.int .i64 0, .int .i64 0, .int .u32 0, .int .u32 0, .int .u32 0, .int .u32 0, .int .i64 0, .int .u32 0, .int .u32 0, .int .u32 0] 32)).inside
  have OB := (OB.alloc (.cells #[.int .i64 0, .int .i64 0, .int .u32 0, .int .u32 0, .int .u32 0, .int .u32 0, .int .i64 0, .int .u32 0, .int .u32 0, .int .u32 0] 32)).below b7 (OB.alloc (.cells #[.int .i64 0, .int .i64 0, .int .u32 0, .int .u32 0, .int .u32 0, .int .u32 0, .int .i64 0, .int .u32 0, .int .u32 0, .int .u32 0] 32)).inside
  have OC := (OC.alloc (.cells #[.int .i64 0, .int .i64 0, .int .u32 0, .int .u32 0, .int .u32 0, .int .u32 0, .int .i64 0, .int .u32 0, .int .u32 0, .int .u32 0] 32)).below b7 (OC.alloc (.cells #[.int .i64 0, .int .i64 0, .int .u32 0, .int .u32 0, .int .u32 0, .int .u32 0, .int .i64 0, .int .u32 0, .int .u32 0, .int .u32 0] 32)).inside
  have OD := (OD.alloc (.cells #[.int .i64 0, .int .i64 0, .int .u32 0, .int .u32 0, .int .u32 0, .int .u32 0, .int .i64 0, .int .u32 0, .int .u32 0, .int .u32 0] 32)).below b7 (OD.alloc (.cells #[.int .i64 0, .int .i64 0, .int .u32 0, .int .u32 0, .int .u32 0, .int .u32 0, .int .i64 0, .int .u32 0, .int .u32 0, .int .u32 0] 32)).inside
  have OX := (OX.alloc (.cells #[.int .i64 0, .int .i64 0, .int .u32 0, .int .u32 0, .int .u32 0, .int .u32 0, .int .i64 0, .int .u32 0, .int .u32 0, .int .u32 0] 32)).below b7 (OX.alloc (.cells #[.int .i64 0, .int .i64 0, .int .u32 0, .int .u32 0, .int .u32 0, .int .u32 0, .int .i64 0, .int .u32 0, .int .u32 0, .int .u32 0] 32)).inside
  have OY := (Whole.fresh w6 32 #[.int .i64 0, .int .i64 0, .int .u32 0, .int .u32 0, .int .u32 0, .int .u32 0, .int .i64 0, .int .u32 0, .int .u32 0, .int .u32 0]).below b7 (by simp)
  have hB := N.trans (b7.mono N.size)
  clear N
  clear b7
  generalize w6.heap.size = nY at *
  obtain ⟨cX, dX⟩ := all_of OX
  have gX := OX.inside
  go_wp2_with fail
  refine (E7.out _).mono ?_
  rintro e w8 ⟨rfl, b8⟩
  clear cX dX gX
  have N := hB.alloc hB.size (.cells #[.int .i64 0, .int .i64 0, .int .u32 0, .int .u32 0, .int .u32 0, .int .u32 0, .int .i64 0, .int .u32 0, .int .u32 0, .int .u32 0] 32)
  have OA := (OA.alloc (.cells #[.int .i64 0, .int .i64 0, .int .u32 0, .int .u32 0, .int .u32 0, .int .u32 0, .int .i64 0, .int .u32 0, .int .u32 0, .int .u32 0] 32)).below b8 (OA.alloc (.cells #[.int .i64 0, .int .i64 0, .int .u32 0, .int .u32 0, .int .u32 0, .int .u32 0, .int .i64 0, .int .u32 0, .int .u32 0, .int .u32 0] 32)).inside
  have OB := (OB.alloc (.cells #[.int .i64 0, .int .i64 0, .int .u32 0, .int .u32 0, .int .u32 0, .int .u32 0, .int .i64 0, .int .u32 0, .int .u32 0, .int .u32 0] 32)).below b8 (OB.alloc (.cells #[.int .i64 0, .int .i64 0, .int .u32 0, .int .u32 0, .int .u32 0, .int .u32 0, .int .i64 0, .int .u32 0, .int .u32 0, .int .u32 0] 32)).inside
  have OC := (OC.alloc (.cells #[.int .i64 0, .int .i64 0, .int .u32 0, .int .u32 0, .int .u32 0, .int .u32 0, .int .i64 0, .int .u32 0, .int .u32 0, .int .u32 0] 32)).below b8 (OC.alloc (.cells #[.int .i64 0, .int .i64 0, .int .u32 0, .int .u32 0, .int .u32 0, .int .u32 0, .int .i64 0, .int .u32 0, .int .u32 0, .int .u32 0] 32)).inside
  have OD := (OD.alloc (.cells #[.int .i64 0, .int .i64 0, .int .u32 0, .int .u32 0, .int .u32 0, .int .u32 0, .int .i64 0, .int .u32 0, .int .u32 0, .int .u32 0] 32)).below b8 (OD.alloc (.cells #[.int .i64 0, .int .i64 0, .int .u32 0, .int .u32 0, .int .u32 0, .int .u32 0, .int .i64 0, .int .u32 0, .int .u32 0, .int .u32 0] 32)).inside
  have OX := (OX.alloc (.cells #[.int .i64 0, .int .i64 0, .int .u32 0, .int .u32 0, .int .u32 0, .int .u32 0, .int .i64 0, .int .u32 0, .int .u32 0, .int .u32 0] 32)).below b8 (OX.alloc (.cells #[.int .i64 0, .int .i64 0, .int .u32 0, .int .u32 0, .int .u32 0, .int .u32 0, .int .i64 0, .int .u32 0, .int .u32 0, .int .u32 0] 32)).inside
  have OY := (OY.alloc (.cells #[.int .i64 0, .int .i64 0, .int .u32 0, .int .u32 0, .int .u32 0, .int .u32 0, .int .i64 0, .int .u32 0, .int .u32 0, .int .u32 0] 32)).below b8 (OY.alloc (.cells #[.int .i64 0, .int .i64 0, .int .u32 0, .int .u32 0, .int .u32 0, .int .u32 0, .int .i64 0, .int .u32 0, .int .u32 0, .int .u32 0] 32)).inside
  have OZ := (Whole.fresh w7 32 #[.int .i64 0, .int .i64 0, .int .u32 0, .int .u32 0, .int .u32 0, .int .u32 0, .int .i64 0, .int .u32 0, .int .u32 0, .int .u32 0]).below b8 (by simp)
  have hB := N.trans (b8.mono N.size)
  clear N
  clear b8
  generalize w7.heap.size = nZ at *
  obtain ⟨cY, dY⟩ := all_of OY
  have gY := OY.inside
  obtain ⟨cZ, dZ⟩ := all_of OZ
  have gZ := OZ.inside
  obtain ⟨cB, dB⟩ := all_of OB
  have gB := OB.inside
  obtain ⟨cD, dD⟩ := all_of OD
  have gD := OD.inside
  obtain ⟨cX, dX⟩ := all_of OX
  have gX := OX.inside
  have OT := Whole.fresh w8 28 #[.int .u32 5, .int .i64 1, .int .u32 2, .int .u32 0, .int .u32 0]
  have N := hB.alloc hB.size (.cells #[.int .u32 5, .int .i64 1, .int .u32 2, .int .u32 0, .int .u32 0] 28)
  clear cY dY gY cZ dZ gZ cB dB gB cD dD gD cX dX gX
  have OY := OY.alloc (.cells #[.int .u32 5, .int .i64 1, .int .u32 2, .int .u32 0, .int .u32 0] 28)
  have OZ := OZ.alloc (.cells #[.int .u32 5, .int .i64 1, .int .u32 2, .int .u32 0, .int .u32 0] 28)
  have OB := OB.alloc (.cells #[.int .u32 5, .int .i64 1, .int .u32 2, .int .u32 0, .int .u32 0] 28)
  have OD := OD.alloc (.cells #[.int .u32 5, .int .i64 1, .int .u32 2, .int .u32 0, .int .u32 0] 28)
  have OX := OX.alloc (.cells #[.int .u32 5, .int .i64 1, .int .u32 2, .int .u32 0, .int .u32 0] 28)
  clear hB
  have q1 := Q1.out
  have q2 := Q2.out
  go_upto_region 9 with fail
  generalize w8.alloc (.cells #[.int .u32 5, .int .i64 1, .int .u32 2, .int .u32 0, .int .u32 0] 28) = W at *
  generalize w8.heap.size = nT at *
  obtain ⟨cY, dY⟩ := all_of OY
  have gY := OY.inside
  obtain ⟨cZ, dZ⟩ := all_of OZ
  have gZ := OZ.inside
  obtain ⟨cT, dT⟩ := all_of OT
  have gT := OT.inside
  obtain ⟨cB, dB⟩ := all_of OB
  have gB := OB.inside
  go_wp2_with fail
  refine (E8.out _).mono ?_
  rintro e v8 ⟨rfl, b8⟩
  clear cY dY gY cZ dZ gZ cT dT gT cB dB gB
  have OZ := OZ.below b8 OZ.inside
  have OD := OD.below b8 OD.inside
  have OX := OX.below b8 OX.inside
  have N := N.trans (b8.mono N.size)
  clear b8
  obtain ⟨cZ, dZ⟩ := all_of OZ
  have gZ := OZ.inside
  go_wp2_with fail
  refine (E9.out _).mono ?_
  rintro e v9 ⟨rfl, b9⟩
  clear cZ dZ gZ
  have OZ := OZ.below b9 OZ.inside
  have OD := OD.below b9 OD.inside
  have OX := OX.below b9 OX.inside
  have N := N.trans (b9.mono N.size)
  clear b9
  obtain ⟨cD, dD⟩ := all_of OD
  have gD := OD.inside
  obtain ⟨cX, dX⟩ := all_of OX
  have gX := OX.inside
  go_wp2_with fail
  refine (E10.out _).mono ?_
  rintro e v10 ⟨rfl, b10⟩
  clear cD dD gD cX dX gX
  have OZ := OZ.below b10 OZ.inside
  have OD := OD.below b10 OD.inside
  have OX := OX.below b10 OX.inside
  have N := N.trans (b10.mono N.size)
  clear b10
  obtain ⟨cD, dD⟩ := all_of OD
  have gD := OD.inside
  obtain ⟨cX, dX⟩ := all_of OX
  have gX := OX.inside
  go_wp2_with fail
  refine (E11.out _).mono ?_
  rintro e v11 ⟨rfl, b11⟩
  clear cD dD gD cX dX gX
  have OZ := OZ.below b11 OZ.inside
  have OD := OD.below b11 OD.inside
  have OX := OX.below b11 OX.inside
  have N := N.trans (b11.mono N.size)
  clear b11
  go_wp2_with fail
  go_ret
  exact ⟨rfl, N⟩
end Go.Proofs.Ytilkdpobkcocoaa.path
