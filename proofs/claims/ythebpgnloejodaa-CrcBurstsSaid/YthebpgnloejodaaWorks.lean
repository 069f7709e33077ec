import Derived.Test.YthebpgnloejodaaRows
import Derived.WalkKit
import Derived.ProofKit
import Derived.OpenShut
import Derived.Lib.Hide
import Derived.Deep.QuietTactic
import Derived.BigQuiet
import Derived.Laws.BitsAllLaws
import Derived.WalkSpells
import Derived.Laws.IdiomStrings
import Derived.Test.YthebpgnloejodaaSeal
import Derived.Test.YthebpgnloejodaaOpen
import Derived.Test.YthebpgnloejodaaBlock
namespace Go.Proofs.Ythebpgnloejodaa.crc
open Go.ChangeShapes Go.WideShapes Go.ChangeAt Go.RowKit
open Go.Proofs.Ythebpgnloejodaa.crcm Go.Proofs.Ythebpgnloejodaa.block Go.Proofs.Ythebpgnloejodaa.opened


theorem sealK (w : World) : Calls Try.prog 13 #[.string ⟨#[97]⟩] w fun e w' => e = .returned (.string ⟨(sealL [97]).toArray⟩) ∧ Below w.heap.size w w' := seal_any [97] (by decide) w
theorem openK (w : World) : Calls Try.prog 7 #[.string ⟨(sealL [97]).toArray⟩] w fun e w' => e = .returned (.tuple #[.string ⟨#[97]⟩, .bool true]) ∧ Below w.heap.size w w' := by
  have k := open_any (sealL [97]) (by decide) w
  unfold opened at k
  rw [openT_seal, isSeal_seal] at k
  exact k
theorem noSeal : isSeal [97, 98, 99] = false := by simp [isSeal]
theorem openK2 (w : World) : Calls Try.prog 7 #[.string ⟨#[97, 98, 99]⟩] w fun e w' => e = .returned (.tuple #[.string ⟨#[]⟩, .bool false]) ∧ Below w.heap.size w w' := by
  have k := open_any [97, 98, 99] (by decide) w
  unfold opened at k
  rw [noSeal, show openT [97, 98, 99] = [] from by simp [openT, noSeal]] at k
  exact k
theorem sumK (w : World) : Calls Try.prog 9 #[.string ⟨#[]⟩] w fun e w' => e = .returned (.int .u32 0) ∧ w = w' := by
  have k := sum_any [] (by decide) w
  rw [show sumL [] = 0 from by decide +kernel] at k
  exact k
theorem sumK2 (w : World) : Calls Try.prog 9 #[.string ⟨#[49, 50, 51, 52, 53, 54, 55, 56, 57]⟩] w fun e w' => e = .returned (.int .u32 3808858755) ∧ w = w' := by
  have k := sum_any [49, 50, 51, 52, 53, 54, 55, 56, 57] (by decide) w
  rw [show sumL [49, 50, 51, 52, 53, 54, 55, 56, 57] = 3808858755 from by decide +kernel] at k
  exact k
theorem works_any (w : World) : Calls Try.prog 15 #[] w fun e w' => e = .returned (.bool true) ∧ Below w.heap.size w w' := by
  go_enter Try.func15, Try.ntmps15
  go_wp2_with fail
  refine (sealK _).mono ?_
  rintro e w1 ⟨rfl, b1⟩
  go_wp2_with fail
  refine (openK _).mono ?_
  rintro e w2 ⟨rfl, b2⟩
  go_wp2_with fail
  refine (openK2 _).mono ?_
  rintro e w3 ⟨rfl, b3⟩
  go_wp2_with fail
  refine (sumK _).mono ?_
  rintro e w' ⟨rfl, rfl⟩
  go_wp2_with fail
  refine (sumK2 _).mono ?_
  rintro e w' ⟨rfl, rfl⟩
  go_wp2
  go_ret
  exact ⟨rfl, then_below (then_below b1 b2) b3⟩
end Go.Proofs.Ythebpgnloejodaa.crc
