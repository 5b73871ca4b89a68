
/- cmp.Compare. -/
import Derived.Test.YtiplidljlegcgaaProg
import Derived.Test.YtiplidljlegcgaaVMem
import Derived.WalkLawsBesides
import Derived.Handy
import Derived.Outline
namespace Go.Proofs.Ytiplidljlegcgaa
open Go.RowKit
set_option linter.unusedVariables false

end Go.Proofs.Ytiplidljlegcgaa
