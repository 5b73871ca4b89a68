/- VAll -/
import Derived.Test.YthhlpjhkeendcaaGreatDoorS18
import Derived.Test.YthhlpjhkeendcaaGreatDoorS11
namespace Go.Proofs.YthhlpjhkeendcaaGreatDoor
open Go.RowKit Go.Shelf
set_option linter.unusedVariables false
attribute [local go_sem] Oper.semAt_some
def bare (l : List (Int × V)) : List (Int × T) := l.map fun y => (y.1, y.2.t)
open Go.RowKit
end Go.Proofs.YthhlpjhkeendcaaGreatDoor
