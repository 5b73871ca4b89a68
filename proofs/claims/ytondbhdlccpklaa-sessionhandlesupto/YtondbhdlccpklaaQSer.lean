
/- Stage 13: serial numbers (the texts of stage 1). -/
import Derived.Test.YtondbhdlccpklaaQBase
import Derived.WalkLawsBesides
import Derived.Handy
import Derived.Outline
namespace Go.Proofs.Ytondbhdlccpklaa
open Go.RowKit
set_option linter.unusedVariables false
theorem ret_int {k : IntKind} {a b : Int} (h : a = b) : Ending.returned (.int k a) = .returned (.int k b) := by rw [h]
theorem add_any (a b : Int) (w : World) :
    Calls Try.prog 62 #[.int .i64 a, .int .i64 b] w fun e w' => e = .returned (.int .i64 ((a + b) % 4294967296)) ∧ w = w' := by
  go_enter Try.func62, Try.ntmps62
  go_wp2
  go_ret
  exact ⟨rfl, rfl⟩
/-- the gap, as a number -/
def gapZ (a b : Int) : Int := (b - a + 2147483648) % 4294967296 - 2147483648
theorem gap_any (a b : Int) (w : World) :
    Calls Try.prog 53 #[.int .i64 a, .int .i64 b] w fun e w' => e = .returned (.int .i64 (gapZ a b)) ∧ w = w' := by
  go_enter Try.func53, Try.ntmps53
  go_wp2
  go_ret
  exact ⟨ret_int (by simp only [gapZ, wrap64, wrap32]; omega), rfl⟩


theorem tmod_cases (a : Int) : (0 ≤ a ∧ a.tmod 4294967296 = a % 4294967296) ∨ (a < 0 ∧ a.tmod 4294967296 = -((-a) % 4294967296)) := by
  by_cases h : 0 ≤ a
  · exact .inl ⟨h, Int.tmod_eq_emod_of_nonneg h⟩
  · refine .inr ⟨by omega, ?_⟩
    have := Int.neg_tmod (-a) 4294967296
    rw [Int.neg_neg] at this
    rw [this, Int.tmod_eq_emod_of_nonneg (show 0 ≤ -a by omega)]
theorem cut_any (a : Int) (w : World) :
    Calls Try.prog 79 #[.int .i64 a] w fun e w' => e = .returned (.int .i64 (a % 4294967296)) ∧ w = w' := by
  go_enter Try.func79, Try.ntmps79
  go_wp2
  · have h : a.tmod 4294967296 < 0 := by assumption
    go_ret
    refine ⟨ret_int ?_, rfl⟩
    have := tmod_cases a
    unfold wrap64
    omega
  · have h : 0 ≤ a.tmod 4294967296 := by assumption
    go_ret
    refine ⟨ret_int ?_, rfl⟩
    have := tmod_cases a
    omega
theorem radd_any (a b : Int) (w : World) :
    Calls Try.prog 66 #[.int .i64 a, .int .i64 b] w fun e w' => e = .returned (.int .i64 ((a + b) % 4294967296)) ∧ w = w' := by
  have ha : 0 ≤ a % 4294967296 := by omega
  have ha2 : a % 4294967296 ≤ 4294967295 := by omega
  have hb : 0 ≤ b % 4294967296 := by omega
  have hb2 : b % 4294967296 ≤ 4294967295 := by omega
  have HE : Hid ((a + b) % 4294967296 = (a % 4294967296 + b % 4294967296) % 4294967296) := by show _ = _; omega
  have ca := hide (cut_any a w)
  have cb := hide (cut_any b w)
  generalize a % 4294967296 = x at *
  generalize b % 4294967296 = y at *
  go_enter Try.func66, Try.ntmps66
  go_wp2_with fail
  refine ca.out.mono ?_
  rintro e w1 ⟨rfl, rfl⟩
  go_wp2_with fail
  refine cb.out.mono ?_
  rintro e w1 ⟨rfl, rfl⟩
  go_wp2
  go_ret
  exact ⟨ret_int (by rw [HE.out]), rfl⟩
theorem rgap_any (a b : Int) (w : World) :
    Calls Try.prog 67 #[.int .i64 a, .int .i64 b] w fun e w' => e = .returned (.int .i64 (gapZ a b)) ∧ w = w' := by
  have ha : 0 ≤ a % 4294967296 := by omega
  have ha2 : a % 4294967296 ≤ 4294967295 := by omega
  have hb : 0 ≤ b % 4294967296 := by omega
  have hb2 : b % 4294967296 ≤ 4294967295 := by omega
  have HE : Hid (gapZ a b = (b % 4294967296 - a % 4294967296 + 2147483648) % 4294967296 - 2147483648) := by show _ = _; unfold gapZ; omega
  have ca := hide (cut_any a w)
  have cb := hide (cut_any b w)
  generalize a % 4294967296 = x at *
  generalize b % 4294967296 = y at *
  generalize gapZ a b = G at *
  go_enter Try.func67, Try.ntmps67
  go_wp2_with fail
  refine ca.out.mono ?_
  rintro e w1 ⟨rfl, rfl⟩
  go_wp2_with fail
  refine cb.out.mono ?_
  rintro e w1 ⟨rfl, rfl⟩
  have HC : (2147483648 ≤ y - x) ∨ (y - x < 2147483648 ∧ y - x < -2147483648) ∨ (-2147483648 ≤ y - x ∧ y - x < 2147483648) := by omega
  rcases HC with h | ⟨h, h2⟩ | ⟨h, h2⟩
  all_goals
    go_wp2
    go_ret
    refine ⟨ret_int ?_, rfl⟩
    rw [HE.out]
    omega
end Go.Proofs.Ytondbhdlccpklaa
