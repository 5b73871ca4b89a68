/-
  DERIVED. GIVEN WITH THE SEED: THE CARDS: each row of YtjgdebifomkkcabDoorRows.lean that lists a variable, with what it lists TIED to the program's text (the seventh form; the later family's looks); each row that meets fmt, with fmt's text TOLD by the authors' own Lean function (tested against real Go, not proved from fmt's source: count such statements apart). THE CARD IS WHAT COUNTS. Prove the row's statement (the work); the ties are given (YtjgdebifomkkcabDoorTie.lean); close each card by the builder's one call (the guide's Derived/Test/ToyasCard.lean, 'card_holds'). Laid BY PROGRAM, IN A SANDBOX (cutbox-door.mjs). By AI agents, Wed Nov 11 2026. No macro, syntax, notation, axiom, sorry.
-/
import Derived.Test.YtjgdebifomkkcabDoorRows
import GoSem.ClaimSeven
namespace Go.Proofs.YtjgdebifomkkcabDoor
namespace Rows

/-- THE TIED CARD OF 'longshorelaw01.OctetSerial'. -/
def octetSerialCard : Claim7 := { stood := { row := octetSerialRow, standIns := [], harness := (true, "0fb4ac30aee8199635a9c33444c26b3b3b9d59caf686134cc67c611f8f84abd7"), looks := false }, kinds := [], alts := [], laidByText := true, laidKinds := [.data, .pinned], laidTests := true, laidLooks := .later }
def OctetSerialCardSaid : Prop := Claim7.holds Tryd.pinned (.plain (OpenSpec.ofChange octetSerialSpec)) octetSerialCard

/-- THE TIED CARD OF 'longshorelaw01.OctetRound'. -/
def octetRoundCard : Claim7 := { stood := { row := octetRoundRow, standIns := [], harness := (true, "0fb4ac30aee8199635a9c33444c26b3b3b9d59caf686134cc67c611f8f84abd7"), looks := false }, kinds := [], alts := [], laidByText := true, laidKinds := [.data, .pinned], laidTests := true, laidLooks := .later }
def OctetRoundCardSaid : Prop := Claim7.holds Tryd.pinned (.plain (OpenSpec.ofChange octetRoundSpec)) octetRoundCard

/-- THE TIED CARD OF 'longshorelaw01.OctetSums'. -/
def octetSumsCard : Claim7 := { stood := { row := octetSumsRow, standIns := [], harness := (true, "0fb4ac30aee8199635a9c33444c26b3b3b9d59caf686134cc67c611f8f84abd7"), looks := false }, kinds := [], alts := [], laidByText := true, laidKinds := [.data, .pinned], laidTests := true, laidLooks := .later }
def OctetSumsCardSaid : Prop := Claim7.holds Tryd.pinned (.plain (OpenSpec.ofChange octetSumsSpec)) octetSumsCard

/-- THE TIED CARD OF 'longshorelaw01.OctetJoined'. -/
def octetJoinedCard : Claim7 := { stood := { row := octetJoinedRow, standIns := [], harness := (true, "0fb4ac30aee8199635a9c33444c26b3b3b9d59caf686134cc67c611f8f84abd7"), looks := false }, kinds := [], alts := [], laidByText := true, laidKinds := [.data, .pinned], laidTests := true, laidLooks := .later }
def OctetJoinedCardSaid : Prop := Claim7.holds Tryd.pinned (.plain (OpenSpec.ofChange octetJoinedSpec)) octetJoinedCard

/-- THE TIED CARD OF 'longshorelaw01.OctetTurned'. -/
def octetTurnedCard : Claim7 := { stood := { row := octetTurnedRow, standIns := [], harness := (true, "0fb4ac30aee8199635a9c33444c26b3b3b9d59caf686134cc67c611f8f84abd7"), looks := false }, kinds := [], alts := [], laidByText := true, laidKinds := [.data, .pinned], laidTests := true, laidLooks := .later }
def OctetTurnedCardSaid : Prop := Claim7.holds Tryd.pinned (.plain (OpenSpec.ofChange octetTurnedSpec)) octetTurnedCard

/-- THE SECOND FORM's CARD OF 'longshorelaw01.OctetSerial'. -/
def octetSerialUptoCard : Claim7 := { stood := { row := octetSerialUptoRow, standIns := [], harness := (true, "0fb4ac30aee8199635a9c33444c26b3b3b9d59caf686134cc67c611f8f84abd7"), looks := false }, kinds := [], alts := [], laidByText := true, laidKinds := [.data, .pinned], laidTests := true, laidLooks := .later }
def OctetSerialUptoCardSaid : Prop := Claim7.holds Tryd.pinned (.plain (OpenSpec.upto octetSerialSpec)) octetSerialUptoCard

/-- THE SECOND FORM's CARD OF 'longshorelaw01.OctetRound'. -/
def octetRoundUptoCard : Claim7 := { stood := { row := octetRoundUptoRow, standIns := [], harness := (true, "0fb4ac30aee8199635a9c33444c26b3b3b9d59caf686134cc67c611f8f84abd7"), looks := false }, kinds := [], alts := [], laidByText := true, laidKinds := [.data, .pinned], laidTests := true, laidLooks := .later }
def OctetRoundUptoCardSaid : Prop := Claim7.holds Tryd.pinned (.plain (OpenSpec.upto octetRoundSpec)) octetRoundUptoCard

/-- THE SECOND FORM's CARD OF 'longshorelaw01.OctetSums'. -/
def octetSumsUptoCard : Claim7 := { stood := { row := octetSumsUptoRow, standIns := [], harness := (true, "0fb4ac30aee8199635a9c33444c26b3b3b9d59caf686134cc67c611f8f84abd7"), looks := false }, kinds := [], alts := [], laidByText := true, laidKinds := [.data, .pinned], laidTests := true, laidLooks := .later }
def OctetSumsUptoCardSaid : Prop := Claim7.holds Tryd.pinned (.plain (OpenSpec.upto octetSumsSpec)) octetSumsUptoCard

/-- THE SECOND FORM's CARD OF 'longshorelaw01.OctetJoined'. -/
def octetJoinedUptoCard : Claim7 := { stood := { row := octetJoinedUptoRow, standIns := [], harness := (true, "0fb4ac30aee8199635a9c33444c26b3b3b9d59caf686134cc67c611f8f84abd7"), looks := false }, kinds := [], alts := [], laidByText := true, laidKinds := [.data, .pinned], laidTests := true, laidLooks := .later }
def OctetJoinedUptoCardSaid : Prop := Claim7.holds Tryd.pinned (.plain (OpenSpec.upto octetJoinedSpec)) octetJoinedUptoCard

/-- THE SECOND FORM's CARD OF 'longshorelaw01.OctetTurned'. -/
def octetTurnedUptoCard : Claim7 := { stood := { row := octetTurnedUptoRow, standIns := [], harness := (true, "0fb4ac30aee8199635a9c33444c26b3b3b9d59caf686134cc67c611f8f84abd7"), looks := false }, kinds := [], alts := [], laidByText := true, laidKinds := [.data, .pinned], laidTests := true, laidLooks := .later }
def OctetTurnedUptoCardSaid : Prop := Claim7.holds Tryd.pinned (.plain (OpenSpec.upto octetTurnedSpec)) octetTurnedUptoCard
end Rows
end Go.Proofs.YtjgdebifomkkcabDoor
