/-
  The contract of watershedref06.Make, at any list.
-/
import Derived.Test.YtpjlefdigpejdaaMaR
import Derived.Test.YtpjlefdigpejdaaGfr
namespace Go.Proofs.Ytpjlefdigpejdaa.chain
open Go.ChangeShapes Go.WideShapes Go.ChangeAt Go.RowKit Go.Shelf Go.Sort
open Go.Proofs.Ytpjlefdigpejdaa.tm Go.Proofs.Ytpjlefdigpejdaa.opened Go.Proofs.Ytpjlefdigpejdaa.block Go.Proofs.Ytpjlefdigpejdaa.stamp

set_option maxRecDepth 100000 in
theorem makeR_any (A : Option Addr) (c : Nat) (L : List Tm) (iL : InL L) (mL : L.length ≤ 4611686018427387903) (w : World) (hL : Lt w A L) :
    Calls Try.prog 91 #[.slice A L.length c] w fun e W' => ∃ B c', e = .returned (.tuple #[.slice B (makeV L iL).length c', .int .i64 (makeE L iL)]) ∧ Lt W' B (makeV L iL) ∧ Below w.heap.size w W' := by
  obtain ⟨r1, r2⟩ := ref_make L iL
  rw [← r1, ← r2]
  clear r1 r2
  by_cases hl : 4096 < L.length
  · obtain ⟨e1, e2⟩ := ref_long hl
    rw [e1, e2]
    clear e1 e2 hL
    go_enter Try.func91, Try.ntmps91
    go_wp2
    go_ret2
    exact ⟨none, 0, rfl, Lt.nil _ _, Below.refl _ _⟩
  · by_cases ht : timesE L = 0
    · exact makeR_ok A c L iL (by omega) ht w hL
    · obtain ⟨e1, e2⟩ := ref_bad hl ht
      rw [e1, e2]
      have HL := Lib.hid hL
      have CT := Lib.hid (timesR_any A c L iL (by omega))
      clear e1 e2 hL
      generalize timesE L = t at CT ht ⊢
      go_enter Try.func91, Try.ntmps91
      go_wp2_with fail
      refine (CT.out _ HL.out).mono ?_
      rintro e w1 ⟨rfl, b1⟩
      go_wp2_with fail
      go_ret2
      exact ⟨none, 0, rfl, Lt.nil _ _, b1⟩
end Go.Proofs.Ytpjlefdigpejdaa.chain
