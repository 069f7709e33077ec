/-
  The contract of the document's Same.
-/
import Derived.Test.YtaiaadojnoipfaaDor
import Derived.Test.YtaiaadojnoipfaaDa
namespace Go.Proofs.Ytaiaadojnoipfaa.data
open Go.ChangeShapes Go.WideShapes Go.ChangeAt Go.RowKit
open Go.Proofs.Ytaiaadojnoipfaa.opened Go.Proofs.Ytaiaadojnoipfaa.block Go.Proofs.Ytaiaadojnoipfaa.region
set_option maxRecDepth 100000 in
theorem sameR_any (A B : Option Addr) (c d : Nat) (L M : List Rc) (mL : L.length ≤ 4096) (mM : M.length ≤ 4096) (w : World) (hL : Lr w A L) (hM : Lr w B M) :
    Calls Try.prog 12 #[.slice A L.length c, .slice B M.length d] w fun e w' => e = .returned (.bool (decide (srtR L = srtR M))) ∧ Below w.heap.size w w' := by
  have O1 := Lib.hid (orderR_any A c L mL w hL)
  have O2 := Lib.hid (fun w2 (h : Below w.heap.size w w2) => orderR_any B d M mM w2 (hM.below h))
  have E1 := Lib.hid (fun w2 B1 c1 B2 c2 h1 h2 => alike_any B1 B2 c1 c2 (srtR L) (srtR M) (by rw [srt_len]; omega) w2 h1 h2)
  clear hL hM
  generalize srtR L = N at O1 E1 ⊢
  generalize srtR M = K at O2 E1 ⊢
  go_enter Try.func12, Try.ntmps12
  go_wp2_with fail
  refine O1.out.mono ?_
  rintro e w1 ⟨B1, c1, rfl, l1, b1⟩
  have H1 := Lib.hid l1
  have HB1 := Lib.hid b1
  clear l1 b1
  go_wp2_with fail
  refine (O2.out _ HB1.out).mono ?_
  rintro e w2 ⟨B2, c2, rfl, l2, b2⟩
  have H2 := Lib.hid l2
  have H12 := Lib.hid (H1.out.below b2)
  have HB2 := Lib.hid (HB1.out.trans (b2.mono HB1.out.size))
  clear l2 b2
  go_wp2_with fail
  refine (E1.out _ B1 c1 B2 c2 H12.out H2.out).mono ?_
  rintro e w3 ⟨rfl, b3⟩
  have HB3 := Lib.hid (HB2.out.trans (b3.mono HB2.out.size))
  clear b3
  go_wp2_with fail
  go_ret
  exact ⟨rfl, HB3.out⟩
end Go.Proofs.Ytaiaadojnoipfaa.data
