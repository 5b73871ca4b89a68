
/- value.Equal. -/
import Derived.Test.YtiplidljlegcgaaVOrd
namespace Go.Proofs.Ytiplidljlegcgaa
open Go.RowKit
set_option linter.unusedVariables false
set_option linter.unusedSimpArgs false

/-- are two values the same? -/
def eqT (x y : T) : Bool := decide (T.ord x y = 0)
def eqsT (l m : List T) : Bool := decide (T.ords l m = 0)
theorem lex_zero (a b : Int) : lex a b = 0 ↔ a = 0 ∧ b = 0 := by unfold lex; split <;> omega
theorem cmpZ_zero (a b : Int) : cmpZ a b = 0 ↔ a = b := by unfold cmpZ; split <;> (try split) <;> omega
theorem eqsT_len {l m : List T} (h : eqsT l m = true) : l.length = m.length := by
  induction l generalizing m with
  | nil => cases m with
    | nil => rfl
    | cons y m => simp [eqsT, T.ords] at h
  | cons x l ih => cases m with
    | nil => simp [eqsT, T.ords] at h
    | cons y m =>
      simp only [eqsT, T.ords, decide_eq_true_eq, lex_zero] at h
      have := ih (m := m) (by simpa [eqsT] using h.2)
      simp [this]
theorem eqsT_step {l m : List V} {k : Nat} (h1 : k < l.length) (h2 : k < m.length) : eqsT (V.ts (l.drop k)) (V.ts (m.drop k)) = (eqT l[k].t m[k].t && eqsT (V.ts (l.drop (k + 1))) (V.ts (m.drop (k + 1)))) := by
  unfold eqsT eqT
  rw [ords_step h1 h2, Bool.eq_iff_iff]
  simp [lex_zero]
theorem eqT_of (k n : Int) (s : ByteArray) (a : Option Addr) (c : Nat) (e : Int) (l : List V) (k' n' : Int) (s' : ByteArray) (a' : Option Addr) (c' : Nat) (e' : Int) (l' : List V) :
    eqT (V.of k n s a c e l).t (V.of k' n' s' a' c' e' l').t = (decide (k = k') && decide (n = n') && decide (s.toList = s'.toList) && decide (e = e') && eqsT (V.ts l) (V.ts l')) := by
  unfold eqT eqsT
  rw [V.t_of, V.t_of, T.of, T.of, T.ord_of, V.l_of, Bool.eq_iff_iff]
  simp only [lex_zero, cmpZ_zero, cmpB_zero, V.k_of, V.n_of, V.s_of, V.e_of, Bool.and_eq_true, decide_eq_true_eq]
  constructor
  · rintro ⟨h1, h2, h3, h4, h5⟩; exact ⟨⟨⟨⟨h1, h2⟩, h3⟩, h5⟩, h4⟩
  · rintro ⟨⟨⟨⟨h1, h2⟩, h3⟩, h5⟩, h4⟩; exact ⟨h1, h2, h3, h4, h5⟩

end Go.Proofs.Ytiplidljlegcgaa
