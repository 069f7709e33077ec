/-
  DERIVED. GIVEN WITH THE SEED: THE CARDS: each row of YtmepiogoofmbbaaGreatDoorRows.lean that lists a variable, with what it lists TIED to the program's text (the seventh form; the later family's looks); each row that meets fmt, with fmt's text TOLD by the authors' own Lean function (tested against real Go, not proved from fmt's source: count such statements apart). THE CARD IS WHAT COUNTS. Prove the row's statement (the work); the ties are given (YtmepiogoofmbbaaGreatDoorTie.lean); close each card by the builder's one call (the guide's Derived/Test/ToyasCard.lean, 'card_holds'). Laid BY PROGRAM, IN A SANDBOX (cutbox-door.mjs). By AI agents, Wed Nov 11 2026. No macro, syntax, notation, axiom, sorry.
-/
import Derived.Test.YtmepiogoofmbbaaGreatDoorRows
import GoSem.ClaimSeven
namespace Go.Proofs.YtmepiogoofmbbaaGreatDoor
namespace Rows

/-- THE TIED CARD OF 'watershedlaw06.ChainBytes'. -/
def chainBytesCard : Claim7 := { stood := { row := chainBytesRow, standIns := [], harness := (true, "ca05196074e8cefda9bba07719f260340d26c731c469ebe1be30024f9930aa1d"), looks := false }, kinds := [], alts := [], laidByText := true, laidKinds := [.data, .data, .data], laidTests := true, laidLooks := .later }
def ChainBytesCardSaid : Prop := Claim7.holds Tryz.pinned (.plain (OpenSpec.ofChange chainBytesSpec)) chainBytesCard

/-- THE SECOND FORM's CARD OF 'watershedlaw06.ChainBytes'. -/
def chainBytesUptoCard : Claim7 := { stood := { row := chainBytesUptoRow, standIns := [], harness := (true, "ca05196074e8cefda9bba07719f260340d26c731c469ebe1be30024f9930aa1d"), looks := false }, kinds := [], alts := [], laidByText := true, laidKinds := [.data, .data, .data], laidTests := true, laidLooks := .later }
def ChainBytesUptoCardSaid : Prop := Claim7.holds Tryz.pinned (.plain (OpenSpec.upto chainBytesSpec)) chainBytesUptoCard
end Rows
end Go.Proofs.YtmepiogoofmbbaaGreatDoor
