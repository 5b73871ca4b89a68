
/- The rows' listed variables. -/
import Derived.Test.YtmanfakdbmlfeaaDoorRows
import Derived.WalkKit
import Derived.ProofKit
import Derived.OpenShut
import Derived.Lay
import Derived.MakeChecks
namespace Go.Proofs.YtmanfakdbmlfeaaDoor
open Go.RowKit
theorem own : ownKnob Tryd.prog.godebug = none := by kernel_rfl
theorem laidOut : laidOutB Tryd.prog = true := by kernel_rfl
/-- what all rows of the seat list -/
def laidL : List (String × DataW Unit) := Rows.routeFitsRow.laid
end Go.Proofs.YtmanfakdbmlfeaaDoor
