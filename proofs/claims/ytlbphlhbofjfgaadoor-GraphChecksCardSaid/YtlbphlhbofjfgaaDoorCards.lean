/-
  DERIVED. GIVEN WITH THE SEED: THE CARDS: each row of YtlbphlhbofjfgaaDoorRows.lean that lists a variable, with what it lists TIED to the program's text (the seventh form; the later family's looks); each row that meets fmt, with fmt's text TOLD by the authors' own Lean function (tested against real Go, not proved from fmt's source: count such statements apart). THE CARD IS WHAT COUNTS. Prove the row's statement (the work); the ties are given (YtlbphlhbofjfgaaDoorTie.lean); close each card by the builder's one call (the guide's Derived/Test/ToyasCard.lean, 'card_holds'). Laid BY PROGRAM, IN A SANDBOX (cutbox-door.mjs). By AI agents, Wed Nov 11 2026. No macro, syntax, notation, axiom, sorry.
-/
import Derived.Test.YtlbphlhbofjfgaaDoorRows
import GoSem.ClaimSeven
namespace Go.Proofs.YtlbphlhbofjfgaaDoor
namespace Rows

/-- THE TIED CARD OF 'watershedlaw09.GraphChecks'. -/
def graphChecksCard : Claim7 := { stood := { row := graphChecksRow, standIns := [], harness := (true, "bae4e6377b2ffe1bc4d83e509784c65a4166f0792437d748dc2dbb9e37d737ef"), looks := false }, kinds := [], alts := [], laidByText := true, laidKinds := [.data, .data, .data, .wider], laidTests := true, laidLooks := .later }
def GraphChecksCardSaid : Prop := Claim7.holds Tryd.pinned (.plain (OpenSpec.ofChange graphChecksSpec)) graphChecksCard

/-- THE TIED CARD OF 'watershedlaw09.GraphPlaces'. -/
def graphPlacesCard : Claim7 := { stood := { row := graphPlacesRow, standIns := [], harness := (true, "bae4e6377b2ffe1bc4d83e509784c65a4166f0792437d748dc2dbb9e37d737ef"), looks := false }, kinds := [], alts := [], laidByText := true, laidKinds := [.wider], laidTests := true, laidLooks := .later }
def GraphPlacesCardSaid : Prop := Claim7.holds Tryd.pinned (.plain (OpenSpec.ofChange graphPlacesSpec)) graphPlacesCard

/-- THE SECOND FORM's CARD OF 'watershedlaw09.GraphChecks'. -/
def graphChecksUptoCard : Claim7 := { stood := { row := graphChecksUptoRow, standIns := [], harness := (true, "bae4e6377b2ffe1bc4d83e509784c65a4166f0792437d748dc2dbb9e37d737ef"), looks := false }, kinds := [], alts := [], laidByText := true, laidKinds := [.data, .data, .data, .wider], laidTests := true, laidLooks := .later }
def GraphChecksUptoCardSaid : Prop := Claim7.holds Tryd.pinned (.plain (OpenSpec.upto graphChecksSpec)) graphChecksUptoCard

/-- THE SECOND FORM's CARD OF 'watershedlaw09.GraphPlaces'. -/
def graphPlacesUptoCard : Claim7 := { stood := { row := graphPlacesUptoRow, standIns := [], harness := (true, "bae4e6377b2ffe1bc4d83e509784c65a4166f0792437d748dc2dbb9e37d737ef"), looks := false }, kinds := [], alts := [], laidByText := true, laidKinds := [.wider], laidTests := true, laidLooks := .later }
def GraphPlacesUptoCardSaid : Prop := Claim7.holds Tryd.pinned (.plain (OpenSpec.upto graphPlacesSpec)) graphPlacesUptoCard
end Rows
end Go.Proofs.YtlbphlhbofjfgaaDoor
