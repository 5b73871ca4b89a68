/- VLent -/
import Derived.Test.YtgldcchleoklcaaGreatDoorF07
import Derived.Test.YtgldcchleoklcaaGreatDoorF05
import Derived.Test.YtgldcchleoklcaaGreatDoorProg
import Derived.WalkLawsBesides
import Derived.Handy
import Derived.Outline
namespace Go.Proofs.YtgldcchleoklcaaGreatDoor
open Go.RowKit
set_option linter.unusedVariables false
set_option linter.unusedSimpArgs false
def markAt (i : Nat) : V := .of (-7) i ⟨#[]⟩ none 0 0 []
def marks (n : Nat) : List V := [markAt n, markAt (n + 1), markAt (n + 2)]
end Go.Proofs.YtgldcchleoklcaaGreatDoor
