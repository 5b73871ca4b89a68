/- VLaid -/
import Derived.Test.YthhlpjhkeendcaaGreatDoorRows
import Derived.WalkKit
import Derived.ProofKit
import Derived.OpenShut
import Derived.Lay
import Derived.MakeChecks
namespace Go.Proofs.YthhlpjhkeendcaaGreatDoor
open Go.RowKit
theorem own : ownKnob Tryz.prog.godebug = none := by kernel_rfl
theorem laidOut : laidOutB Tryz.prog = true := by kernel_rfl
def laidL : List (String × DataW Unit) := Rows.codecEncodesRow.laid
end Go.Proofs.YthhlpjhkeendcaaGreatDoor
