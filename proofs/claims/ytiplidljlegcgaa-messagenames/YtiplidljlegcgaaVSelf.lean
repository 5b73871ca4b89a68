
/- small lemmas on orders. -/
import Derived.Test.YtiplidljlegcgaaVOrd
namespace Go.Proofs.Ytiplidljlegcgaa
open Go.RowKit
set_option linter.unusedVariables false

theorem cmpZ_self (a : Int) : cmpZ a a = 0 := by unfold cmpZ; rw [if_neg (by omega), if_neg (by omega)]
theorem cmpB_self {a b : List UInt8} (h : a = b) : cmpB a b = 0 := (cmpB_zero a b).2 h
theorem cmpB_lt {a b : List UInt8} (h : Op.bytesLess a b = true) : -1 = cmpB a b := by rw [cmpB_less] at h; simp at h; omega
theorem cmpB_gt {a b : List UInt8} (h : Op.bytesLess a b = false) (hne : ¬ a = b) : 1 = cmpB a b := by
  have hz := cmpB_zero a b
  have hs := sgn_cmpB a b
  rw [cmpB_less] at h
  unfold Sgn at hs
  have h1 : cmpB a b ≠ 0 := fun e => hne (hz.1 e)
  simp at h
  omega
/-- two lists, one of them at its end -/
theorem ords_end {l m : List V} {j : Nat} (h1 : j ≤ l.length) (h2 : j ≤ m.length) (h : j = l.length ∨ j = m.length) :
    T.ords (V.ts (l.drop j)) (V.ts (m.drop j)) = cmpZ l.length m.length := by
  rcases h with rfl | rfl
  · rw [List.drop_length, V.ts]
    by_cases e : l.length = m.length
    · rw [show m.drop l.length = [] from List.drop_of_length_le (by omega), V.ts, T.ords, e, cmpZ_self]
    · rw [List.drop_eq_getElem_cons (by omega), V.ts, T.ords]
      unfold cmpZ
      rw [if_pos (by omega)]
  · rw [List.drop_length, V.ts]
    by_cases e : l.length = m.length
    · rw [show l.drop m.length = [] from List.drop_of_length_le (by omega), V.ts, T.ords, e, cmpZ_self]
    · rw [List.drop_eq_getElem_cons (by omega), V.ts, T.ords]
      unfold cmpZ
      rw [if_neg (by omega), if_pos (by omega)]

end Go.Proofs.Ytiplidljlegcgaa
