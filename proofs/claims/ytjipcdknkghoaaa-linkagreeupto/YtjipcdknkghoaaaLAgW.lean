
/- LinkAgree: the walk. -/
import Derived.Test.YtjipcdknkghoaaaLAgT
import Derived.Test.YtjipcdknkghoaaaLAwW
import Derived.Test.YtjipcdknkghoaaaLAgW1
import Derived.Test.YtjipcdknkghoaaaLAgW2
namespace Go.Proofs.Ytjipcdknkghoaaa
open Go.RowKit Go.Maps
set_option linter.unusedVariables false
set_option linter.unusedSimpArgs false

theorem agree_walk (count mode : Int) (second : Bool) (a : Option Addr) (n cap : Nat) (fs : Nat → Tn) (w : World) (hR : RT w a n fs) (hn : n ≤ 1048576) :
    Calls Try.prog 3 #[.int .i64 count, .int .i64 mode, .bool second, .slice a n cap] w fun e1 w' => e1 = .returned (.bool true) ∧ Below w.heap.size w w' := by
  by_cases hc : count < 0
  · cases second with
    | false => exact agree_lo_f count mode a n cap fs w hR hn hc
    | true => exact agree_lo_t count mode a n cap fs w hR hn hc
  · by_cases hc2 : 4294967295 < count
    · cases second with
      | false => exact agree_hi_f count mode a n cap fs w hR hn hc hc2
      | true => exact agree_hi_t count mode a n cap fs w hR hn hc hc2
    · cases second with
      | false => exact agree_in_f count mode a n cap fs w hR hn hc hc2
      | true => exact agree_in_t count mode a n cap fs w hR hn hc hc2
end Go.Proofs.Ytjipcdknkghoaaa
