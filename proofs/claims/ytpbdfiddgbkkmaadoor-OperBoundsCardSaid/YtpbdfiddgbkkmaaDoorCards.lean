/-
  DERIVED. GIVEN WITH THE SEED: THE CARDS: each row of YtpbdfiddgbkkmaaDoorRows.lean that lists a variable, with what it lists TIED to the program's text (the seventh form; the later family's looks); each row that meets fmt, with fmt's text TOLD by the authors' own Lean function (tested against real Go, not proved from fmt's source: count such statements apart). THE CARD IS WHAT COUNTS. Prove the row's statement (the work); the ties are given (YtpbdfiddgbkkmaaDoorTie.lean); close each card by the builder's one call (the guide's Derived/Test/ToyasCard.lean, 'card_holds'). Laid BY PROGRAM, IN A SANDBOX (cutbox-door.mjs). By AI agents, Wed Nov 11 2026. No macro, syntax, notation, axiom, sorry.
-/
import Derived.Test.YtpbdfiddgbkkmaaDoorRows
import GoSem.ClaimSeven
namespace Go.Proofs.YtpbdfiddgbkkmaaDoor
namespace Rows

/-- THE TIED CARD OF 'watershedlaw12.OperParts'. -/
def operPartsCard : Claim7 := { stood := { row := operPartsRow, standIns := [], harness := (true, "65f82b94a7a917b1989deb0c4266e453e27883b1b4084c86747b39ab625bb92a"), looks := false }, kinds := [], alts := [], laidByText := true, laidKinds := [.data, .data, .data], laidTests := true, laidLooks := .later }
def OperPartsCardSaid : Prop := Claim7.holds Tryd.pinned (.plain (OpenSpec.ofChange operPartsSpec)) operPartsCard

/-- THE TIED CARD OF 'watershedlaw12.OperOrder'. -/
def operOrderCard : Claim7 := { stood := { row := operOrderRow, standIns := [], harness := (true, "65f82b94a7a917b1989deb0c4266e453e27883b1b4084c86747b39ab625bb92a"), looks := false }, kinds := [], alts := [], laidByText := true, laidKinds := [.data, .data, .data], laidTests := true, laidLooks := .later }
def OperOrderCardSaid : Prop := Claim7.holds Tryd.pinned (.plain (OpenSpec.ofChange operOrderSpec)) operOrderCard

/-- THE TIED CARD OF 'watershedlaw12.OperBounds'. -/
def operBoundsCard : Claim7 := { stood := { row := operBoundsRow, standIns := [], harness := (true, "65f82b94a7a917b1989deb0c4266e453e27883b1b4084c86747b39ab625bb92a"), looks := false }, kinds := [], alts := [], laidByText := true, laidKinds := [.data, .data, .data], laidTests := true, laidLooks := .later }
def OperBoundsCardSaid : Prop := Claim7.holds Tryd.pinned (.plain (OpenSpec.ofChange operBoundsSpec)) operBoundsCard

/-- THE SECOND FORM's CARD OF 'watershedlaw12.OperParts'. -/
def operPartsUptoCard : Claim7 := { stood := { row := operPartsUptoRow, standIns := [], harness := (true, "65f82b94a7a917b1989deb0c4266e453e27883b1b4084c86747b39ab625bb92a"), looks := false }, kinds := [], alts := [], laidByText := true, laidKinds := [.data, .data, .data], laidTests := true, laidLooks := .later }
def OperPartsUptoCardSaid : Prop := Claim7.holds Tryd.pinned (.plain (OpenSpec.upto operPartsSpec)) operPartsUptoCard

/-- THE SECOND FORM's CARD OF 'watershedlaw12.OperOrder'. -/
def operOrderUptoCard : Claim7 := { stood := { row := operOrderUptoRow, standIns := [], harness := (true, "65f82b94a7a917b1989deb0c4266e453e27883b1b4084c86747b39ab625bb92a"), looks := false }, kinds := [], alts := [], laidByText := true, laidKinds := [.data, .data, .data], laidTests := true, laidLooks := .later }
def OperOrderUptoCardSaid : Prop := Claim7.holds Tryd.pinned (.plain (OpenSpec.upto operOrderSpec)) operOrderUptoCard

/-- THE SECOND FORM's CARD OF 'watershedlaw12.OperBounds'. -/
def operBoundsUptoCard : Claim7 := { stood := { row := operBoundsUptoRow, standIns := [], harness := (true, "65f82b94a7a917b1989deb0c4266e453e27883b1b4084c86747b39ab625bb92a"), looks := false }, kinds := [], alts := [], laidByText := true, laidKinds := [.data, .data, .data], laidTests := true, laidLooks := .later }
def OperBoundsUptoCardSaid : Prop := Claim7.holds Tryd.pinned (.plain (OpenSpec.upto operBoundsSpec)) operBoundsUptoCard
end Rows
end Go.Proofs.YtpbdfiddgbkkmaaDoor
