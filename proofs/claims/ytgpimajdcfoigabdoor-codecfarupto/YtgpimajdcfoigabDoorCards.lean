/-
  DERIVED. GIVEN WITH THE SEED: THE CARDS: each row of YtgpimajdcfoigabDoorRows.lean that lists a variable, with what it lists TIED to the program's text (the seventh form; the later family's looks); each row that meets fmt, with fmt's text TOLD by the authors' own Lean function (tested against real Go, not proved from fmt's source: count such statements apart). THE CARD IS WHAT COUNTS. Prove the row's statement (the work); the ties are given (YtgpimajdcfoigabDoorTie.lean); close each card by the builder's one call (the guide's Derived/Test/ToyasCard.lean, 'card_holds'). Laid BY PROGRAM, IN A SANDBOX (cutbox-door.mjs). By AI agents, Wed Nov 11 2026. No macro, syntax, notation, axiom, sorry.
-/
import Derived.Test.YtgpimajdcfoigabDoorRows
import GoSem.ClaimSeven
namespace Go.Proofs.YtgpimajdcfoigabDoor
namespace Rows

/-- THE TIED CARD OF 'longshorelaw03.CodecApart'. -/
def codecApartCard : Claim7 := { stood := { row := codecApartRow, standIns := [], harness := (true, "d068e51368c79ad1fc01f60f693c56a4300bc7d8e9e1fbf682b5e8d5809426f3"), looks := true }, kinds := [], alts := [], laidByText := true, laidKinds := [.data, .data, .pinned], laidTests := true, laidLooks := .later }
def CodecApartCardSaid : Prop := Claim7.holds Tryd.pinned (.plain (OpenSpec.ofChange codecApartSpec)) codecApartCard

/-- THE TIED CARD OF 'longshorelaw03.CodecFar'. -/
def codecFarCard : Claim7 := { stood := { row := codecFarRow, standIns := [], harness := (true, "d068e51368c79ad1fc01f60f693c56a4300bc7d8e9e1fbf682b5e8d5809426f3"), looks := true }, kinds := [], alts := [], laidByText := true, laidKinds := [.data, .data, .pinned], laidTests := true, laidLooks := .later }
def CodecFarCardSaid : Prop := Claim7.holds Tryd.pinned (.plain (OpenSpec.ofChange codecFarSpec)) codecFarCard

/-- THE SECOND FORM's CARD OF 'longshorelaw03.CodecApart'. -/
def codecApartUptoCard : Claim7 := { stood := { row := codecApartUptoRow, standIns := [], harness := (true, "d068e51368c79ad1fc01f60f693c56a4300bc7d8e9e1fbf682b5e8d5809426f3"), looks := true }, kinds := [], alts := [], laidByText := true, laidKinds := [.data, .data, .pinned], laidTests := true, laidLooks := .later }
def CodecApartUptoCardSaid : Prop := Claim7.holds Tryd.pinned (.plain (OpenSpec.upto codecApartSpec)) codecApartUptoCard

/-- THE SECOND FORM's CARD OF 'longshorelaw03.CodecFar'. -/
def codecFarUptoCard : Claim7 := { stood := { row := codecFarUptoRow, standIns := [], harness := (true, "d068e51368c79ad1fc01f60f693c56a4300bc7d8e9e1fbf682b5e8d5809426f3"), looks := true }, kinds := [], alts := [], laidByText := true, laidKinds := [.data, .data, .pinned], laidTests := true, laidLooks := .later }
def CodecFarUptoCardSaid : Prop := Claim7.holds Tryd.pinned (.plain (OpenSpec.upto codecFarSpec)) codecFarUptoCard
end Rows
end Go.Proofs.YtgpimajdcfoigabDoor
