
/- value.Order. -/
import Derived.Test.YtiplidljlegcgaaVCmp
namespace Go.Proofs.Ytiplidljlegcgaa
open Go.RowKit
set_option linter.unusedVariables false

theorem ords_step {l m : List V} {k : Nat} (h1 : k < l.length) (h2 : k < m.length) : T.ords (V.ts (l.drop k)) (V.ts (m.drop k)) = lex (T.ord l[k].t m[k].t) (T.ords (V.ts (l.drop (k + 1))) (V.ts (m.drop (k + 1)))) := by
  rw [List.drop_eq_getElem_cons h1, List.drop_eq_getElem_cons h2, V.ts, V.ts, T.ords]

end Go.Proofs.Ytiplidljlegcgaa
