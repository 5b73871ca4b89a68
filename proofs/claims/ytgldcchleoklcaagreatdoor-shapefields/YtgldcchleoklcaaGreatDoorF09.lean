/- VFlat -/
import Derived.Test.YtgldcchleoklcaaGreatDoorF07
import Derived.Test.YtgldcchleoklcaaGreatDoorF05
import Derived.Test.YtgldcchleoklcaaGreatDoorProg
import Derived.Maps.AppendAt
import Derived.RangeFuncBox
import Derived.Laws.Bits64
import Derived.WalkLawsBesides
import Derived.Handy
import Derived.Outline
namespace Go.Proofs.YtgldcchleoklcaaGreatDoor
open Go.RowKit
set_option linter.unusedVariables false
set_option linter.unusedSimpArgs false
def flat : List V → List Value
  | [] => []
  | x :: l => words x ++ flat l
theorem flat_length (l : List V) : (flat l).length = l.length * 5 := by
  induction l with
  | nil => rfl
  | cons x l ih => rw [flat, List.length_append, ih, List.length_cons]; simp [words]; omega
theorem flat_append (l m : List V) : flat (l ++ m) = flat l ++ flat m := by
  induction l with
  | nil => rfl
  | cons x l ih => rw [List.cons_append, flat, flat, ih, List.append_assoc]
theorem flat_get (l : List V) (i q : Nat) (hi : i < l.length) (hq : q < 5) : (flat l)[i * 5 + q]? = (words l[i])[q]? := by
  induction l generalizing i with
  | nil => simp at hi
  | cons x l ih =>
    rw [flat]
    cases i with
    | zero =>
      rw [List.getElem?_append_left (by simp [words]; omega)]
      simp
    | succ i =>
      rw [List.getElem?_append_right (by simp [words]; omega), show (i + 1) * 5 + q - (words x).length = i * 5 + q by simp [words]; omega, ih i (by simpa using hi)]
      rfl
theorem flat_row {w : World} {base : Nat} {t : TypeId} {n g cap : Nat} {l : List V} (h : w.ownsRow base t 5 (.slice (some ⟨g, 0, none⟩) n cap) n (flat l)) : Row w g 0 l := by
  intro i hi
  have hc := h.cells (g := g) rfl
  have q : ∀ q, q < 5 → ∀ u, (words l[i])[q]? = some u → w.cell? ⟨g, 0 + i * 5 + q, none⟩ = some u := fun q hq u hu => by
    have := hc (i * 5 + q) u (by rw [flat_get l i q hi hq]; exact hu)
    rw [show (⟨g, 0 + i * 5 + q, none⟩ : Addr) = (⟨g, 0, none⟩ : Addr).add (i * 5 + q) by
      by_cases h : i * 5 + q = 0 <;> simp [Addr.add, h] <;> omega]
    exact this
  exact ⟨q 0 (by omega) _ rfl, q 1 (by omega) _ rfl, q 2 (by omega) _ rfl, q 3 (by omega) _ rfl, q 4 (by omega) _ rfl⟩
theorem V.words_one (x : V) : ∀ u ∈ words x, u.oneCell' = true := fun u hu => by
  simp only [words, List.mem_cons, List.not_mem_nil, or_false] at hu
  rcases hu with rfl | rfl | rfl | rfl | rfl <;> rfl
end Go.Proofs.YtgldcchleoklcaaGreatDoor
