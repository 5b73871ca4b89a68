/-
  DERIVED. GIVEN WITH THE SEED: THE CARDS: each row of YthhlpjhkeendcaaGreatDoorRows.lean that lists a variable, with what it lists TIED to the program's text (the seventh form; the later family's looks); each row that meets fmt, with fmt's text TOLD by the authors' own Lean function (tested against real Go, not proved from fmt's source: count such statements apart). THE CARD IS WHAT COUNTS. Prove the row's statement (the work); the ties are given (YthhlpjhkeendcaaGreatDoorTie.lean); close each card by the builder's one call (the guide's Derived/Test/ToyasCard.lean, 'card_holds'). Laid BY PROGRAM, IN A SANDBOX (cutbox-door.mjs). By AI agents, Wed Nov 11 2026. No macro, syntax, notation, axiom, sorry.
-/
import Derived.Test.YthhlpjhkeendcaaGreatDoorRows
import GoSem.ClaimSeven
namespace Go.Proofs.YthhlpjhkeendcaaGreatDoor
namespace Rows

/-- THE TIED CARD OF 'longshorelaw03.CodecEncodes'. -/
def codecEncodesCard : Claim7 := { stood := { row := codecEncodesRow, standIns := [], harness := (true, "331d5deb90a7cb7e260adc54e5a6d2d4c3572998dd6d3f2cf4fd025fa97c63e2"), looks := true }, kinds := [], alts := [], laidByText := true, laidKinds := [.data, .data, .pinned], laidTests := true, laidLooks := .later }
def CodecEncodesCardSaid : Prop := Claim7.holds Tryz.pinned (.plain (OpenSpec.ofChange codecEncodesSpec)) codecEncodesCard

/-- THE SECOND FORM's CARD OF 'longshorelaw03.CodecEncodes'. -/
def codecEncodesUptoCard : Claim7 := { stood := { row := codecEncodesUptoRow, standIns := [], harness := (true, "331d5deb90a7cb7e260adc54e5a6d2d4c3572998dd6d3f2cf4fd025fa97c63e2"), looks := true }, kinds := [], alts := [], laidByText := true, laidKinds := [.data, .data, .pinned], laidTests := true, laidLooks := .later }
def CodecEncodesUptoCardSaid : Prop := Claim7.holds Tryz.pinned (.plain (OpenSpec.upto codecEncodesSpec)) codecEncodesUptoCard
end Rows
end Go.Proofs.YthhlpjhkeendcaaGreatDoor
