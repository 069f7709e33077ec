/-
  DERIVED. GIVEN WITH THE SEED: THE CARDS: each row of YtkfjgmfokpgcbaaGreatDoorRows.lean that lists a variable, with what it lists TIED to the program's text (the seventh form; the later family's looks); each row that meets fmt, with fmt's text TOLD by the authors' own Lean function (tested against real Go, not proved from fmt's source: count such statements apart). THE CARD IS WHAT COUNTS. Prove the row's statement (the work); the ties are given (YtkfjgmfokpgcbaaGreatDoorTie.lean); close each card by the builder's one call (the guide's Derived/Test/ToyasCard.lean, 'card_holds'). Laid BY PROGRAM, IN A SANDBOX (cutbox-door.mjs). By AI agents, Wed Nov 11 2026. No macro, syntax, notation, axiom, sorry.
-/
import Derived.Test.YtkfjgmfokpgcbaaGreatDoorRows
import GoSem.ClaimSeven
namespace Go.Proofs.YtkfjgmfokpgcbaaGreatDoor
namespace Rows

/-- THE TIED CARD OF 'watershedlaw11.DataParts'. -/
def dataPartsCard : Claim7 := { stood := { row := dataPartsRow, standIns := [], harness := (true, "5aaeaef1461b4c6b983cfe543c5d1b33238f8c93dcde26ccea03068f3ab57752"), looks := true }, kinds := [], alts := [], laidByText := true, laidKinds := [.data, .data, .data, .data, .sentinel, .sentinel, .pinned], laidTests := true, laidLooks := .later }
def DataPartsCardSaid : Prop := Claim7.holds Tryz.pinned (.plain (OpenSpec.ofChange dataPartsSpec)) dataPartsCard

/-- THE TIED CARD OF 'watershedlaw11.DataPieces'. -/
def dataPiecesCard : Claim7 := { stood := { row := dataPiecesRow, standIns := [], harness := (true, "5aaeaef1461b4c6b983cfe543c5d1b33238f8c93dcde26ccea03068f3ab57752"), looks := true }, kinds := [], alts := [], laidByText := true, laidKinds := [.data, .data, .data, .data, .sentinel, .sentinel, .pinned], laidTests := true, laidLooks := .later }
def DataPiecesCardSaid : Prop := Claim7.holds Tryz.pinned (.plain (OpenSpec.ofChange dataPiecesSpec)) dataPiecesCard

/-- THE TIED CARD OF 'watershedlaw11.DataBack'. -/
def dataBackCard : Claim7 := { stood := { row := dataBackRow, standIns := [], harness := (true, "5aaeaef1461b4c6b983cfe543c5d1b33238f8c93dcde26ccea03068f3ab57752"), looks := true }, kinds := [], alts := [], laidByText := true, laidKinds := [.data, .data, .data, .data, .sentinel, .sentinel, .pinned], laidTests := true, laidLooks := .later }
def DataBackCardSaid : Prop := Claim7.holds Tryz.pinned (.plain (OpenSpec.ofChange dataBackSpec)) dataBackCard

/-- THE SECOND FORM's CARD OF 'watershedlaw11.DataParts'. -/
def dataPartsUptoCard : Claim7 := { stood := { row := dataPartsUptoRow, standIns := [], harness := (true, "5aaeaef1461b4c6b983cfe543c5d1b33238f8c93dcde26ccea03068f3ab57752"), looks := true }, kinds := [], alts := [], laidByText := true, laidKinds := [.data, .data, .data, .data, .sentinel, .sentinel, .pinned], laidTests := true, laidLooks := .later }
def DataPartsUptoCardSaid : Prop := Claim7.holds Tryz.pinned (.plain (OpenSpec.upto dataPartsSpec)) dataPartsUptoCard

/-- THE SECOND FORM's CARD OF 'watershedlaw11.DataPieces'. -/
def dataPiecesUptoCard : Claim7 := { stood := { row := dataPiecesUptoRow, standIns := [], harness := (true, "5aaeaef1461b4c6b983cfe543c5d1b33238f8c93dcde26ccea03068f3ab57752"), looks := true }, kinds := [], alts := [], laidByText := true, laidKinds := [.data, .data, .data, .data, .sentinel, .sentinel, .pinned], laidTests := true, laidLooks := .later }
def DataPiecesUptoCardSaid : Prop := Claim7.holds Tryz.pinned (.plain (OpenSpec.upto dataPiecesSpec)) dataPiecesUptoCard

/-- THE SECOND FORM's CARD OF 'watershedlaw11.DataBack'. -/
def dataBackUptoCard : Claim7 := { stood := { row := dataBackUptoRow, standIns := [], harness := (true, "5aaeaef1461b4c6b983cfe543c5d1b33238f8c93dcde26ccea03068f3ab57752"), looks := true }, kinds := [], alts := [], laidByText := true, laidKinds := [.data, .data, .data, .data, .sentinel, .sentinel, .pinned], laidTests := true, laidLooks := .later }
def DataBackUptoCardSaid : Prop := Claim7.holds Tryz.pinned (.plain (OpenSpec.upto dataBackSpec)) dataBackUptoCard
end Rows
end Go.Proofs.YtkfjgmfokpgcbaaGreatDoor
