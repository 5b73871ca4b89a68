/-
  DERIVED. GIVEN WITH THE SEED: THE CARDS: each row of YtfoegajgnbdoiabGreatDoorRows.lean that lists a variable, with what it lists TIED to the program's text (the seventh form; the later family's looks); each row that meets fmt, with fmt's text TOLD by the authors' own Lean function (tested against real Go, not proved from fmt's source: count such statements apart). THE CARD IS WHAT COUNTS. Prove the row's statement (the work); the ties are given (YtfoegajgnbdoiabGreatDoorTie.lean); close each card by the builder's one call (the guide's Derived/Test/ToyasCard.lean, 'card_holds'). Laid BY PROGRAM, IN A SANDBOX (cutbox-door.mjs). By AI agents, Wed Nov 11 2026. No macro, syntax, notation, axiom, sorry.
-/
import Derived.Test.YtfoegajgnbdoiabGreatDoorRows
import GoSem.ClaimSeven
namespace Go.Proofs.YtfoegajgnbdoiabGreatDoor
namespace Rows

/-- THE TIED CARD OF 'longshorelaw07.ShapeBack'. -/
def shapeBackCard : Claim7 := { stood := { row := shapeBackRow, standIns := [], harness := (true, "375d52ceb18b8ef6a0311b0a97a24c5be65721b2d1aea6abdd1c0e990a941f4a"), looks := false }, kinds := [], alts := [], laidByText := true, laidKinds := [.data, .pinned], laidTests := true, laidLooks := .later }
def ShapeBackCardSaid : Prop := Claim7.holds Tryz.pinned (.plain (OpenSpec.ofChange shapeBackSpec)) shapeBackCard

/-- THE TIED CARD OF 'longshorelaw07.ShapeForms'. -/
def shapeFormsCard : Claim7 := { stood := { row := shapeFormsRow, standIns := [], harness := (true, "375d52ceb18b8ef6a0311b0a97a24c5be65721b2d1aea6abdd1c0e990a941f4a"), looks := false }, kinds := [], alts := [], laidByText := true, laidKinds := [.data, .pinned], laidTests := true, laidLooks := .later }
def ShapeFormsCardSaid : Prop := Claim7.holds Tryz.pinned (.plain (OpenSpec.ofChange shapeFormsSpec)) shapeFormsCard

/-- THE TIED CARD OF 'longshorelaw07.ShapeShort'. -/
def shapeShortCard : Claim7 := { stood := { row := shapeShortRow, standIns := [], harness := (true, "375d52ceb18b8ef6a0311b0a97a24c5be65721b2d1aea6abdd1c0e990a941f4a"), looks := false }, kinds := [], alts := [], laidByText := true, laidKinds := [.data, .pinned], laidTests := true, laidLooks := .later }
def ShapeShortCardSaid : Prop := Claim7.holds Tryz.pinned (.plain (OpenSpec.ofChange shapeShortSpec)) shapeShortCard

/-- THE SECOND FORM's CARD OF 'longshorelaw07.ShapeBack'. -/
def shapeBackUptoCard : Claim7 := { stood := { row := shapeBackUptoRow, standIns := [], harness := (true, "375d52ceb18b8ef6a0311b0a97a24c5be65721b2d1aea6abdd1c0e990a941f4a"), looks := false }, kinds := [], alts := [], laidByText := true, laidKinds := [.data, .pinned], laidTests := true, laidLooks := .later }
def ShapeBackUptoCardSaid : Prop := Claim7.holds Tryz.pinned (.plain (OpenSpec.upto shapeBackSpec)) shapeBackUptoCard

/-- THE SECOND FORM's CARD OF 'longshorelaw07.ShapeForms'. -/
def shapeFormsUptoCard : Claim7 := { stood := { row := shapeFormsUptoRow, standIns := [], harness := (true, "375d52ceb18b8ef6a0311b0a97a24c5be65721b2d1aea6abdd1c0e990a941f4a"), looks := false }, kinds := [], alts := [], laidByText := true, laidKinds := [.data, .pinned], laidTests := true, laidLooks := .later }
def ShapeFormsUptoCardSaid : Prop := Claim7.holds Tryz.pinned (.plain (OpenSpec.upto shapeFormsSpec)) shapeFormsUptoCard

/-- THE SECOND FORM's CARD OF 'longshorelaw07.ShapeShort'. -/
def shapeShortUptoCard : Claim7 := { stood := { row := shapeShortUptoRow, standIns := [], harness := (true, "375d52ceb18b8ef6a0311b0a97a24c5be65721b2d1aea6abdd1c0e990a941f4a"), looks := false }, kinds := [], alts := [], laidByText := true, laidKinds := [.data, .pinned], laidTests := true, laidLooks := .later }
def ShapeShortUptoCardSaid : Prop := Claim7.holds Tryz.pinned (.plain (OpenSpec.upto shapeShortSpec)) shapeShortUptoCard
end Rows
end Go.Proofs.YtfoegajgnbdoiabGreatDoor
