/-
  Are two batches the same: the contract of watershedlaw11.Alike, at two of the same.
-/
import Derived.Test.YtaiaadojnoipfaaDto
import Derived.Test.YtaiaadojnoipfaaDa
import Derived.Test.YtaiaadojnoipfaaEq
namespace Go.Proofs.Ytaiaadojnoipfaa.data
open Go.ChangeShapes Go.WideShapes Go.ChangeAt Go.RowKit
open Go.Proofs.Ytaiaadojnoipfaa.tm Go.Proofs.Ytaiaadojnoipfaa.opened Go.Proofs.Ytaiaadojnoipfaa.block Go.Proofs.Ytaiaadojnoipfaa.region Go.Proofs.Ytaiaadojnoipfaa.stamp

theorem eqT_self (t : Tm) : eqT t t = true := by simp [eqT]
set_option maxRecDepth 100000 in
theorem alikeB_self (l : Int) (t : Tm) (A B : Option Addr) (c d : Nat) (N : List Rc) (hN : N.length ≤ 1000000) (w : World) (h1 : Lr w A N) (h2 : Lr w B N) :
    Calls Try.prog 22 #[.agg (bt l t A N.length c), .agg (bt l t B N.length d)] w fun e w' => e = .returned (.bool true) ∧ Below w.heap.size w w' := by
  have NE := fun W => (run_eqT t t W).trans (by rw [eqT_self])
  have b1 := fresh0 w (.cells (bt l t A N.length c) 40)
  have b2 := fresh0 (w.alloc (.cells (bt l t A N.length c) 40)) (.cells (bt l t B N.length d) 37)
  have B2 := Lib.hid (b1.trans (b2.mono b1.size))
  have AL := Lib.hid (fun W k1 k2 => alike_any A B c d N N hN W k1 k2)
  rw [decide_eq_true (rfl : N = N)] at AL
  have H1 := Lib.hid ((h1.below b1).below b2)
  have H2 := Lib.hid ((h2.below b1).below b2)
  clear h1 h2 b1 b2
  go_enter Try.func22, Try.ntmps22
  go_wp2_with (go_at_call 8; refine (AL.out _ H1.out H2.out).mono ?_; rintro e w3 ⟨rfl, b3⟩; have B3 := Lib.hid (B2.out.trans (b3.mono B2.out.size)); clear b3)
  go_ret
  exact ⟨rfl, B3.out⟩
end Go.Proofs.Ytaiaadojnoipfaa.data
