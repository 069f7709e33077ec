/-
  DERIVED. GIVEN WITH THE SEED: THE CARDS: each row of YtpblpjopinllcaaGreatDoorRows.lean that lists a variable, with what it lists TIED to the program's text (the seventh form; the later family's looks); each row that meets fmt, with fmt's text TOLD by the authors' own Lean function (tested against real Go, not proved from fmt's source: count such statements apart). THE CARD IS WHAT COUNTS. Prove the row's statement (the work); the ties are given (YtpblpjopinllcaaGreatDoorTie.lean); close each card by the builder's one call (the guide's Derived/Test/ToyasCard.lean, 'card_holds'). Laid BY PROGRAM, IN A SANDBOX (cutbox-door.mjs). By AI agents, Wed Nov 11 2026. No macro, syntax, notation, axiom, sorry.
-/
import Derived.Test.YtpblpjopinllcaaGreatDoorRows
import GoSem.ClaimSeven
namespace Go.Proofs.YtpblpjopinllcaaGreatDoor
namespace Rows

/-- THE TIED CARD OF 'watershedlaw09.GraphParses'. -/
def graphParsesCard : Claim7 := { stood := { row := graphParsesRow, standIns := [], harness := (true, "6b4a8f36c6d1294e89699243dbdb87f4ac9e8cbf7f318fd8fb5ec5bd4362f7e6"), looks := true }, kinds := [], alts := [], laidByText := true, laidKinds := [.data, .data, .data, .sentinel, .sentinel, .wider], laidTests := true, laidLooks := .later }
def GraphParsesCardSaid : Prop := Claim7.holds Tryz.pinned (.plain (OpenSpec.ofChange graphParsesSpec)) graphParsesCard

/-- THE TIED CARD OF 'watershedlaw09.GraphBack'. -/
def graphBackCard : Claim7 := { stood := { row := graphBackRow, standIns := [], harness := (true, "6b4a8f36c6d1294e89699243dbdb87f4ac9e8cbf7f318fd8fb5ec5bd4362f7e6"), looks := true }, kinds := [], alts := [], laidByText := true, laidKinds := [.data, .data, .data, .sentinel, .sentinel, .wider], laidTests := true, laidLooks := .later }
def GraphBackCardSaid : Prop := Claim7.holds Tryz.pinned (.plain (OpenSpec.ofChange graphBackSpec)) graphBackCard

/-- THE TIED CARD OF 'watershedlaw09.GraphWays'. -/
def graphWaysCard : Claim7 := { stood := { row := graphWaysRow, standIns := [], harness := (true, "6b4a8f36c6d1294e89699243dbdb87f4ac9e8cbf7f318fd8fb5ec5bd4362f7e6"), looks := true }, kinds := [], alts := [], laidByText := true, laidKinds := [.data, .data, .data, .sentinel, .sentinel, .wider], laidTests := true, laidLooks := .later }
def GraphWaysCardSaid : Prop := Claim7.holds Tryz.pinned (.plain (OpenSpec.ofChange graphWaysSpec)) graphWaysCard

/-- THE TIED CARD OF 'watershedlaw09.GraphFits'. -/
def graphFitsCard : Claim7 := { stood := { row := graphFitsRow, standIns := [], harness := (true, "6b4a8f36c6d1294e89699243dbdb87f4ac9e8cbf7f318fd8fb5ec5bd4362f7e6"), looks := true }, kinds := [], alts := [], laidByText := true, laidKinds := [.data, .data, .data, .sentinel, .sentinel, .wider], laidTests := true, laidLooks := .later }
def GraphFitsCardSaid : Prop := Claim7.holds Tryz.pinned (.plain (OpenSpec.ofChange graphFitsSpec)) graphFitsCard

/-- THE TIED CARD OF 'watershedlaw10.ReachTables'. -/
def reachTablesCard : Claim7 := { stood := { row := reachTablesRow, standIns := [], harness := (true, "6b4a8f36c6d1294e89699243dbdb87f4ac9e8cbf7f318fd8fb5ec5bd4362f7e6"), looks := true }, kinds := [], alts := [], laidByText := true, laidKinds := [.wider], laidTests := true, laidLooks := .later }
def ReachTablesCardSaid : Prop := Claim7.holds Tryz.pinned (.plain (OpenSpec.ofChange reachTablesSpec)) reachTablesCard

/-- THE TIED CARD OF 'watershedlaw10.ReachCould'. -/
def reachCouldCard : Claim7 := { stood := { row := reachCouldRow, standIns := [], harness := (true, "6b4a8f36c6d1294e89699243dbdb87f4ac9e8cbf7f318fd8fb5ec5bd4362f7e6"), looks := true }, kinds := [], alts := [], laidByText := true, laidKinds := [.wider], laidTests := true, laidLooks := .later }
def ReachCouldCardSaid : Prop := Claim7.holds Tryz.pinned (.plain (OpenSpec.ofChange reachCouldSpec)) reachCouldCard

/-- THE TIED CARD OF 'watershedlaw10.ReachOn'. -/
def reachOnCard : Claim7 := { stood := { row := reachOnRow, standIns := [], harness := (true, "6b4a8f36c6d1294e89699243dbdb87f4ac9e8cbf7f318fd8fb5ec5bd4362f7e6"), looks := true }, kinds := [], alts := [], laidByText := true, laidKinds := [.data, .data, .data, .sentinel, .sentinel, .wider], laidTests := true, laidLooks := .later }
def ReachOnCardSaid : Prop := Claim7.holds Tryz.pinned (.plain (OpenSpec.ofChange reachOnSpec)) reachOnCard

/-- THE TIED CARD OF 'watershedlaw10.ReachEarlier'. -/
def reachEarlierCard : Claim7 := { stood := { row := reachEarlierRow, standIns := [], harness := (true, "6b4a8f36c6d1294e89699243dbdb87f4ac9e8cbf7f318fd8fb5ec5bd4362f7e6"), looks := true }, kinds := [], alts := [], laidByText := true, laidKinds := [.data, .data, .data, .sentinel, .sentinel, .wider], laidTests := true, laidLooks := .later }
def ReachEarlierCardSaid : Prop := Claim7.holds Tryz.pinned (.plain (OpenSpec.ofChange reachEarlierSpec)) reachEarlierCard

/-- THE TIED CARD OF 'watershedlaw10.ReachSelf'. -/
def reachSelfCard : Claim7 := { stood := { row := reachSelfRow, standIns := [], harness := (true, "6b4a8f36c6d1294e89699243dbdb87f4ac9e8cbf7f318fd8fb5ec5bd4362f7e6"), looks := true }, kinds := [], alts := [], laidByText := true, laidKinds := [.data, .data, .data, .sentinel, .sentinel, .wider], laidTests := true, laidLooks := .later }
def ReachSelfCardSaid : Prop := Claim7.holds Tryz.pinned (.plain (OpenSpec.ofChange reachSelfSpec)) reachSelfCard

/-- THE TIED CARD OF 'watershedlaw10.ReachSteps'. -/
def reachStepsCard : Claim7 := { stood := { row := reachStepsRow, standIns := [], harness := (true, "6b4a8f36c6d1294e89699243dbdb87f4ac9e8cbf7f318fd8fb5ec5bd4362f7e6"), looks := true }, kinds := [], alts := [], laidByText := true, laidKinds := [.data, .data, .data, .sentinel, .sentinel, .wider], laidTests := true, laidLooks := .later }
def ReachStepsCardSaid : Prop := Claim7.holds Tryz.pinned (.plain (OpenSpec.ofChange reachStepsSpec)) reachStepsCard

/-- THE TIED CARD OF 'watershedlaw14.WalLasts'. -/
def walLastsCard : Claim7 := { stood := { row := walLastsRow, standIns := [], harness := (true, "6b4a8f36c6d1294e89699243dbdb87f4ac9e8cbf7f318fd8fb5ec5bd4362f7e6"), looks := true }, kinds := [], alts := [], laidByText := true, laidKinds := [.data, .data, .data, .sentinel, .sentinel], laidTests := true, laidLooks := .later }
def WalLastsCardSaid : Prop := Claim7.holds Tryz.pinned (.plain (OpenSpec.ofChange walLastsSpec)) walLastsCard

/-- THE TIED CARD OF 'watershedlaw14.WalNumbers'. -/
def walNumbersCard : Claim7 := { stood := { row := walNumbersRow, standIns := [], harness := (true, "6b4a8f36c6d1294e89699243dbdb87f4ac9e8cbf7f318fd8fb5ec5bd4362f7e6"), looks := true }, kinds := [], alts := [], laidByText := true, laidKinds := [.data, .data, .data, .sentinel, .sentinel], laidTests := true, laidLooks := .later }
def WalNumbersCardSaid : Prop := Claim7.holds Tryz.pinned (.plain (OpenSpec.ofChange walNumbersSpec)) walNumbersCard

/-- THE SECOND FORM's CARD OF 'watershedlaw09.GraphParses'. -/
def graphParsesUptoCard : Claim7 := { stood := { row := graphParsesUptoRow, standIns := [], harness := (true, "6b4a8f36c6d1294e89699243dbdb87f4ac9e8cbf7f318fd8fb5ec5bd4362f7e6"), looks := true }, kinds := [], alts := [], laidByText := true, laidKinds := [.data, .data, .data, .sentinel, .sentinel, .wider], laidTests := true, laidLooks := .later }
def GraphParsesUptoCardSaid : Prop := Claim7.holds Tryz.pinned (.plain (OpenSpec.upto graphParsesSpec)) graphParsesUptoCard

/-- THE SECOND FORM's CARD OF 'watershedlaw09.GraphBack'. -/
def graphBackUptoCard : Claim7 := { stood := { row := graphBackUptoRow, standIns := [], harness := (true, "6b4a8f36c6d1294e89699243dbdb87f4ac9e8cbf7f318fd8fb5ec5bd4362f7e6"), looks := true }, kinds := [], alts := [], laidByText := true, laidKinds := [.data, .data, .data, .sentinel, .sentinel, .wider], laidTests := true, laidLooks := .later }
def GraphBackUptoCardSaid : Prop := Claim7.holds Tryz.pinned (.plain (OpenSpec.upto graphBackSpec)) graphBackUptoCard

/-- THE SECOND FORM's CARD OF 'watershedlaw09.GraphWays'. -/
def graphWaysUptoCard : Claim7 := { stood := { row := graphWaysUptoRow, standIns := [], harness := (true, "6b4a8f36c6d1294e89699243dbdb87f4ac9e8cbf7f318fd8fb5ec5bd4362f7e6"), looks := true }, kinds := [], alts := [], laidByText := true, laidKinds := [.data, .data, .data, .sentinel, .sentinel, .wider], laidTests := true, laidLooks := .later }
def GraphWaysUptoCardSaid : Prop := Claim7.holds Tryz.pinned (.plain (OpenSpec.upto graphWaysSpec)) graphWaysUptoCard

/-- THE SECOND FORM's CARD OF 'watershedlaw09.GraphFits'. -/
def graphFitsUptoCard : Claim7 := { stood := { row := graphFitsUptoRow, standIns := [], harness := (true, "6b4a8f36c6d1294e89699243dbdb87f4ac9e8cbf7f318fd8fb5ec5bd4362f7e6"), looks := true }, kinds := [], alts := [], laidByText := true, laidKinds := [.data, .data, .data, .sentinel, .sentinel, .wider], laidTests := true, laidLooks := .later }
def GraphFitsUptoCardSaid : Prop := Claim7.holds Tryz.pinned (.plain (OpenSpec.upto graphFitsSpec)) graphFitsUptoCard

/-- THE SECOND FORM's CARD OF 'watershedlaw10.ReachTables'. -/
def reachTablesUptoCard : Claim7 := { stood := { row := reachTablesUptoRow, standIns := [], harness := (true, "6b4a8f36c6d1294e89699243dbdb87f4ac9e8cbf7f318fd8fb5ec5bd4362f7e6"), looks := true }, kinds := [], alts := [], laidByText := true, laidKinds := [.wider], laidTests := true, laidLooks := .later }
def ReachTablesUptoCardSaid : Prop := Claim7.holds Tryz.pinned (.plain (OpenSpec.upto reachTablesSpec)) reachTablesUptoCard

/-- THE SECOND FORM's CARD OF 'watershedlaw10.ReachCould'. -/
def reachCouldUptoCard : Claim7 := { stood := { row := reachCouldUptoRow, standIns := [], harness := (true, "6b4a8f36c6d1294e89699243dbdb87f4ac9e8cbf7f318fd8fb5ec5bd4362f7e6"), looks := true }, kinds := [], alts := [], laidByText := true, laidKinds := [.wider], laidTests := true, laidLooks := .later }
def ReachCouldUptoCardSaid : Prop := Claim7.holds Tryz.pinned (.plain (OpenSpec.upto reachCouldSpec)) reachCouldUptoCard

/-- THE SECOND FORM's CARD OF 'watershedlaw10.ReachOn'. -/
def reachOnUptoCard : Claim7 := { stood := { row := reachOnUptoRow, standIns := [], harness := (true, "6b4a8f36c6d1294e89699243dbdb87f4ac9e8cbf7f318fd8fb5ec5bd4362f7e6"), looks := true }, kinds := [], alts := [], laidByText := true, laidKinds := [.data, .data, .data, .sentinel, .sentinel, .wider], laidTests := true, laidLooks := .later }
def ReachOnUptoCardSaid : Prop := Claim7.holds Tryz.pinned (.plain (OpenSpec.upto reachOnSpec)) reachOnUptoCard

/-- THE SECOND FORM's CARD OF 'watershedlaw10.ReachEarlier'. -/
def reachEarlierUptoCard : Claim7 := { stood := { row := reachEarlierUptoRow, standIns := [], harness := (true, "6b4a8f36c6d1294e89699243dbdb87f4ac9e8cbf7f318fd8fb5ec5bd4362f7e6"), looks := true }, kinds := [], alts := [], laidByText := true, laidKinds := [.data, .data, .data, .sentinel, .sentinel, .wider], laidTests := true, laidLooks := .later }
def ReachEarlierUptoCardSaid : Prop := Claim7.holds Tryz.pinned (.plain (OpenSpec.upto reachEarlierSpec)) reachEarlierUptoCard

/-- THE SECOND FORM's CARD OF 'watershedlaw10.ReachSelf'. -/
def reachSelfUptoCard : Claim7 := { stood := { row := reachSelfUptoRow, standIns := [], harness := (true, "6b4a8f36c6d1294e89699243dbdb87f4ac9e8cbf7f318fd8fb5ec5bd4362f7e6"), looks := true }, kinds := [], alts := [], laidByText := true, laidKinds := [.data, .data, .data, .sentinel, .sentinel, .wider], laidTests := true, laidLooks := .later }
def ReachSelfUptoCardSaid : Prop := Claim7.holds Tryz.pinned (.plain (OpenSpec.upto reachSelfSpec)) reachSelfUptoCard

/-- THE SECOND FORM's CARD OF 'watershedlaw10.ReachSteps'. -/
def reachStepsUptoCard : Claim7 := { stood := { row := reachStepsUptoRow, standIns := [], harness := (true, "6b4a8f36c6d1294e89699243dbdb87f4ac9e8cbf7f318fd8fb5ec5bd4362f7e6"), looks := true }, kinds := [], alts := [], laidByText := true, laidKinds := [.data, .data, .data, .sentinel, .sentinel, .wider], laidTests := true, laidLooks := .later }
def ReachStepsUptoCardSaid : Prop := Claim7.holds Tryz.pinned (.plain (OpenSpec.upto reachStepsSpec)) reachStepsUptoCard

/-- THE SECOND FORM's CARD OF 'watershedlaw14.WalLasts'. -/
def walLastsUptoCard : Claim7 := { stood := { row := walLastsUptoRow, standIns := [], harness := (true, "6b4a8f36c6d1294e89699243dbdb87f4ac9e8cbf7f318fd8fb5ec5bd4362f7e6"), looks := true }, kinds := [], alts := [], laidByText := true, laidKinds := [.data, .data, .data, .sentinel, .sentinel], laidTests := true, laidLooks := .later }
def WalLastsUptoCardSaid : Prop := Claim7.holds Tryz.pinned (.plain (OpenSpec.upto walLastsSpec)) walLastsUptoCard

/-- THE SECOND FORM's CARD OF 'watershedlaw14.WalNumbers'. -/
def walNumbersUptoCard : Claim7 := { stood := { row := walNumbersUptoRow, standIns := [], harness := (true, "6b4a8f36c6d1294e89699243dbdb87f4ac9e8cbf7f318fd8fb5ec5bd4362f7e6"), looks := true }, kinds := [], alts := [], laidByText := true, laidKinds := [.data, .data, .data, .sentinel, .sentinel], laidTests := true, laidLooks := .later }
def WalNumbersUptoCardSaid : Prop := Claim7.holds Tryz.pinned (.plain (OpenSpec.upto walNumbersSpec)) walNumbersUptoCard
end Rows
end Go.Proofs.YtpblpjopinllcaaGreatDoor
