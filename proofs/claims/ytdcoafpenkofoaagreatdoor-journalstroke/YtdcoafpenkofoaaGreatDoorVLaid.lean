
/- The rows' listed variables. -/
import Derived.Test.YtdcoafpenkofoaaGreatDoorRows
import Derived.WalkKit
import Derived.ProofKit
import Derived.OpenShut
import Derived.Lay
import Derived.MakeChecks
namespace Go.Proofs.YtdcoafpenkofoaaGreatDoor
open Go.RowKit
theorem own : ownKnob Tryz.prog.godebug = none := by kernel_rfl
theorem laidOut : laidOutB Tryz.prog = true := by kernel_rfl
/-- what all rows of the seat list -/
def laidL : List (String × DataW Unit) := Rows.journalNumbersRow.laid
end Go.Proofs.YtdcoafpenkofoaaGreatDoor
