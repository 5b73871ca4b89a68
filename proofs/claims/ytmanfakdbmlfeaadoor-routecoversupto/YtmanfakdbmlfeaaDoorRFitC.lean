
/- Stage 18: fits, Fits. -/
import Derived.Test.YtmanfakdbmlfeaaDoorRFitB
namespace Go.Proofs.YtmanfakdbmlfeaaDoor
open Go.RowKit
set_option linter.unusedVariables false
set_option linter.unusedSimpArgs false
theorem fits_any : ∀ (n : Nat) (p t : List ByteArray), p.length + t.length ≤ n → FitOk p t := by
  intro n
  induction n with
  | zero =>
    intro p t hn
    obtain rfl : p = [] := List.eq_nil_of_length_eq_zero (by omega)
    exact fits_nil t
  | succ n ih =>
    intro p t hn
    cases p with
    | nil => exact fits_nil t
    | cons x xs =>
      rw [List.length_cons] at hn
      by_cases h1 : x = bHash
      · cases t with
        | nil => exact fits_hash_nil h1 xs (ih xs [] (by simp at hn ⊢; omega))
        | cons y ys =>
          rw [List.length_cons] at hn
          exact fits_hash_cons h1 xs y ys (ih xs (y :: ys) (by simp; omega)) (ih (x :: xs) ys (by simp; omega))
      · cases t with
        | nil => exact fits_one_nil h1 xs
        | cons y ys =>
          rw [List.length_cons] at hn
          have hih := ih xs ys (by omega)
          by_cases h2 : x = bStar
          · exact fits_one_star xs y ys h1 h2 hih
          · by_cases h3 : x = y
            · exact fits_one_same xs y ys h1 h2 h3 hih
            · exact fits_one_diff xs y ys h1 h2 h3 hih
theorem fits_ok (p t : List ByteArray) : FitOk p t := fits_any _ p t (Nat.le_refl _)
end Go.Proofs.YtmanfakdbmlfeaaDoor
