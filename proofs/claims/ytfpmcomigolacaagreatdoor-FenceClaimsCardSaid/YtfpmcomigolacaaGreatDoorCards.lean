/-
  DERIVED. GIVEN WITH THE SEED: THE CARDS: each row of YtfpmcomigolacaaGreatDoorRows.lean that lists a variable, with what it lists TIED to the program's text (the seventh form; the later family's looks); each row that meets fmt, with fmt's text TOLD by the authors' own Lean function (tested against real Go, not proved from fmt's source: count such statements apart). THE CARD IS WHAT COUNTS. Prove the row's statement (the work); the ties are given (YtfpmcomigolacaaGreatDoorTie.lean); close each card by the builder's one call (the guide's Derived/Test/ToyasCard.lean, 'card_holds'). Laid BY PROGRAM, IN A SANDBOX (cutbox-door.mjs). By AI agents, Wed Nov 11 2026. No macro, syntax, notation, axiom, sorry.
-/
import Derived.Test.YtfpmcomigolacaaGreatDoorRows
import GoSem.ClaimSeven
namespace Go.Proofs.YtfpmcomigolacaaGreatDoor
namespace Rows

/-- THE TIED CARD OF 'watershedlaw14.WalLasts'. -/
def walLastsCard : Claim7 := { stood := { row := walLastsRow, standIns := [], harness := (true, "f2245c8633eb6a97a1fa816e56301a026ac2d924d21c043940f88253e1b4be58"), looks := true }, kinds := [], alts := [], laidByText := true, laidKinds := [.data, .data, .data, .sentinel, .sentinel], laidTests := true, laidLooks := .later }
def WalLastsCardSaid : Prop := Claim7.holds Tryz.pinned (.plain (OpenSpec.ofChange walLastsSpec)) walLastsCard

/-- THE TIED CARD OF 'watershedlaw14.WalAgain'. -/
def walAgainCard : Claim7 := { stood := { row := walAgainRow, standIns := [], harness := (true, "f2245c8633eb6a97a1fa816e56301a026ac2d924d21c043940f88253e1b4be58"), looks := true }, kinds := [], alts := [], laidByText := true, laidKinds := [.data, .data, .data, .sentinel, .sentinel], laidTests := true, laidLooks := .later }
def WalAgainCardSaid : Prop := Claim7.holds Tryz.pinned (.plain (OpenSpec.ofChange walAgainSpec)) walAgainCard

/-- THE TIED CARD OF 'watershedlaw15.FenceRises'. -/
def fenceRisesCard : Claim7 := { stood := { row := fenceRisesRow, standIns := [], harness := (true, "f2245c8633eb6a97a1fa816e56301a026ac2d924d21c043940f88253e1b4be58"), looks := true }, kinds := [], alts := [], laidByText := true, laidKinds := [.data, .data, .data, .sentinel, .sentinel], laidTests := true, laidLooks := .later }
def FenceRisesCardSaid : Prop := Claim7.holds Tryz.pinned (.plain (OpenSpec.ofChange fenceRisesSpec)) fenceRisesCard

/-- THE TIED CARD OF 'watershedlaw15.FenceClaims'. -/
def fenceClaimsCard : Claim7 := { stood := { row := fenceClaimsRow, standIns := [], harness := (true, "f2245c8633eb6a97a1fa816e56301a026ac2d924d21c043940f88253e1b4be58"), looks := true }, kinds := [], alts := [], laidByText := true, laidKinds := [.data, .data, .data, .sentinel, .sentinel], laidTests := true, laidLooks := .later }
def FenceClaimsCardSaid : Prop := Claim7.holds Tryz.pinned (.plain (OpenSpec.ofChange fenceClaimsSpec)) fenceClaimsCard

/-- THE SECOND FORM's CARD OF 'watershedlaw14.WalLasts'. -/
def walLastsUptoCard : Claim7 := { stood := { row := walLastsUptoRow, standIns := [], harness := (true, "f2245c8633eb6a97a1fa816e56301a026ac2d924d21c043940f88253e1b4be58"), looks := true }, kinds := [], alts := [], laidByText := true, laidKinds := [.data, .data, .data, .sentinel, .sentinel], laidTests := true, laidLooks := .later }
def WalLastsUptoCardSaid : Prop := Claim7.holds Tryz.pinned (.plain (OpenSpec.upto walLastsSpec)) walLastsUptoCard

/-- THE SECOND FORM's CARD OF 'watershedlaw14.WalAgain'. -/
def walAgainUptoCard : Claim7 := { stood := { row := walAgainUptoRow, standIns := [], harness := (true, "f2245c8633eb6a97a1fa816e56301a026ac2d924d21c043940f88253e1b4be58"), looks := true }, kinds := [], alts := [], laidByText := true, laidKinds := [.data, .data, .data, .sentinel, .sentinel], laidTests := true, laidLooks := .later }
def WalAgainUptoCardSaid : Prop := Claim7.holds Tryz.pinned (.plain (OpenSpec.upto walAgainSpec)) walAgainUptoCard

/-- THE SECOND FORM's CARD OF 'watershedlaw15.FenceRises'. -/
def fenceRisesUptoCard : Claim7 := { stood := { row := fenceRisesUptoRow, standIns := [], harness := (true, "f2245c8633eb6a97a1fa816e56301a026ac2d924d21c043940f88253e1b4be58"), looks := true }, kinds := [], alts := [], laidByText := true, laidKinds := [.data, .data, .data, .sentinel, .sentinel], laidTests := true, laidLooks := .later }
def FenceRisesUptoCardSaid : Prop := Claim7.holds Tryz.pinned (.plain (OpenSpec.upto fenceRisesSpec)) fenceRisesUptoCard

/-- THE SECOND FORM's CARD OF 'watershedlaw15.FenceClaims'. -/
def fenceClaimsUptoCard : Claim7 := { stood := { row := fenceClaimsUptoRow, standIns := [], harness := (true, "f2245c8633eb6a97a1fa816e56301a026ac2d924d21c043940f88253e1b4be58"), looks := true }, kinds := [], alts := [], laidByText := true, laidKinds := [.data, .data, .data, .sentinel, .sentinel], laidTests := true, laidLooks := .later }
def FenceClaimsUptoCardSaid : Prop := Claim7.holds Tryz.pinned (.plain (OpenSpec.upto fenceClaimsSpec)) fenceClaimsUptoCard
end Rows
end Go.Proofs.YtfpmcomigolacaaGreatDoor
