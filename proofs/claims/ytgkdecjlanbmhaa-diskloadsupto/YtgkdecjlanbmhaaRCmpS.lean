
/- Texts in their order. -/
import Derived.Test.YtgkdecjlanbmhaaRBase
import Derived.WalkLawsBesides
import Derived.Handy
import Derived.Outline
namespace Go.Proofs.Ytgkdecjlanbmhaa
open Go.RowKit
set_option linter.unusedVariables false
set_option linter.unusedSimpArgs false

theorem ret_int {k : IntKind} {a b : Int} (h : a = b) : Ending.returned (.int k a) = .returned (.int k b) := by rw [h]
def cmpZ (a b : Int) : Int := if a < b then -1 else if b < a then 1 else 0
def cmpB : List UInt8 → List UInt8 → Int
  | [], [] => 0
  | [], _ :: _ => -1
  | _ :: _, [] => 1
  | a :: x, b :: y => if a < b then -1 else if b < a then 1 else cmpB x y
def lex (a b : Int) : Int := if a = 0 then b else a
theorem neg_cmpB (x y : List UInt8) : cmpB y x = -cmpB x y := by
  induction x generalizing y with
  | nil => cases y <;> simp [cmpB]
  | cons a x ih => cases y with
    | nil => simp [cmpB]
    | cons b y =>
      unfold cmpB
      by_cases h1 : a < b
      · have h2 : ¬ b < a := by simp [UInt8.lt_iff_toNat_lt] at *; omega
        rw [if_pos h1, if_neg h2, if_pos h1]; rfl
      · by_cases h2 : b < a
        · rw [if_pos h2, if_neg h1, if_pos h2]
        · rw [if_neg h2, if_neg h1, if_neg h1, if_neg h2]; exact ih y
def Tri (x y z : Int) : Prop := (x ≤ 0 → y ≤ 0 → z ≤ 0 ∧ (z = 0 ↔ x = 0 ∧ y = 0)) ∧ (0 ≤ x → 0 ≤ y → 0 ≤ z ∧ (z = 0 ↔ x = 0 ∧ y = 0))
theorem tri_lex {x y z x' y' z' : Int} (h : Tri x y z) (h' : Tri x' y' z') : Tri (lex x x') (lex y y') (lex z z') := by
  obtain ⟨h1, h2⟩ := h
  obtain ⟨h3, h4⟩ := h'
  unfold lex
  constructor
  · intro p q
    have p' : x ≤ 0 := by split at p <;> omega
    have q' : y ≤ 0 := by split at q <;> omega
    have hz := h1 p' q'
    by_cases a : x = 0 <;> by_cases b : y = 0
    · rw [if_pos a] at p ⊢
      rw [if_pos b] at q ⊢
      rw [if_pos (by omega)]
      exact h3 p q
    · rw [if_neg b, if_neg (by omega)]
      omega
    · rw [if_neg a, if_neg (by omega)]
      omega
    · rw [if_neg a, if_neg (by omega)]
      omega
  · intro p q
    have p' : 0 ≤ x := by split at p <;> omega
    have q' : 0 ≤ y := by split at q <;> omega
    have hz := h2 p' q'
    by_cases a : x = 0 <;> by_cases b : y = 0
    · rw [if_pos a] at p ⊢
      rw [if_pos b] at q ⊢
      rw [if_pos (by omega)]
      exact h4 p q
    · rw [if_neg b, if_neg (by omega)]
      omega
    · rw [if_neg a, if_neg (by omega)]
      omega
    · rw [if_neg a, if_neg (by omega)]
      omega
theorem tri_cmpZ (a b c : Int) : Tri (cmpZ a b) (cmpZ b c) (cmpZ a c) := by
  unfold Tri cmpZ
  by_cases h1 : a < b <;> by_cases h2 : b < c <;> by_cases h3 : a < c <;> by_cases h4 : b < a <;> by_cases h5 : c < b <;> by_cases h6 : c < a <;> simp [h1, h2, h3, h4, h5, h6] <;> omega
theorem tri_cmpB (x y z : List UInt8) : Tri (cmpB x y) (cmpB y z) (cmpB x z) := by
  induction x generalizing y z with
  | nil => cases y <;> cases z <;> simp [cmpB, Tri]
  | cons a x ih =>
    cases y with
    | nil => cases z <;> simp [cmpB, Tri]
    | cons b y =>
      cases z with
      | nil => simp [cmpB, Tri]
      | cons c z =>
        have h := tri_lex (tri_cmpZ a.toNat b.toNat c.toNat) (ih y z)
        have e : ∀ (p q : UInt8) (l m : List UInt8), cmpB (p :: l) (q :: m) = lex (cmpZ p.toNat q.toNat) (cmpB l m) := by
          intro p q l m
          rw [cmpB]
          unfold lex cmpZ
          by_cases h1 : p < q
          · have : (p.toNat : Int) < q.toNat := by simp [UInt8.lt_iff_toNat_lt] at h1; omega
            simp [h1, this]
          · by_cases h2 : q < p
            · have e2 : (q.toNat : Int) < p.toNat := by simp [UInt8.lt_iff_toNat_lt] at h2; omega
              have e1 : ¬ (p.toNat : Int) < q.toNat := by omega
              simp [h1, h2, e1, e2]
            · have e2 : ¬ (q.toNat : Int) < p.toNat := by simp [UInt8.lt_iff_toNat_lt] at h2; omega
              have e1 : ¬ (p.toNat : Int) < q.toNat := by simp [UInt8.lt_iff_toNat_lt] at h1; omega
              simp [h1, h2, e1, e2]
        rw [e, e, e]
        exact h
theorem cmpB_less (x y : List UInt8) : Op.bytesLess x y = decide (cmpB x y = -1) := by
  induction x generalizing y with
  | nil => cases y <;> simp [Op.bytesLess, cmpB]
  | cons a x ih =>
    cases y with
    | nil => simp [Op.bytesLess, cmpB]
    | cons b y =>
      unfold Op.bytesLess cmpB
      by_cases h1 : a < b
      · simp [h1]
      · by_cases h2 : b < a
        · have hne : (a == b) = false := by
            simp [UInt8.lt_iff_toNat_lt] at h2 ⊢
            intro h; rw [h] at h2; omega
          simp [h1, h2, hne]
        · have he : a = b := by
            have : a.toNat = b.toNat := by simp [UInt8.lt_iff_toNat_lt] at h1 h2; omega
            exact UInt8.toNat_inj.1 this
          subst he
          simp [h1, ih]
theorem cmpB_zero (x y : List UInt8) : cmpB x y = 0 ↔ x = y := by
  induction x generalizing y with
  | nil => cases y <;> simp [cmpB]
  | cons a x ih =>
    cases y with
    | nil => simp [cmpB]
    | cons b y =>
      unfold cmpB
      by_cases h1 : a < b
      · simp [h1]
        intro h; subst h; simp [UInt8.lt_iff_toNat_lt] at h1
      · by_cases h2 : b < a
        · simp [h1, h2]
          intro h; subst h; simp [UInt8.lt_iff_toNat_lt] at h2
        · have he : a = b := by
            have : a.toNat = b.toNat := by simp [UInt8.lt_iff_toNat_lt] at h1 h2; omega
            exact UInt8.toNat_inj.1 this
          subst he
          simp [h1, ih]
def Sgn (a : Int) : Prop := a = -1 ∨ a = 0 ∨ a = 1
theorem sgn_cmpB (x y : List UInt8) : Sgn (cmpB x y) := by
  induction x generalizing y with
  | nil => cases y <;> simp [cmpB, Sgn]
  | cons a x ih => cases y with
    | nil => simp [cmpB, Sgn]
    | cons b y => unfold cmpB; split <;> (try split) <;> first | exact ih _ | simp [Sgn]
theorem nan_str (a : ByteArray) (w : World) : Calls Try.prog 73 #[.string a] w fun e w' => e = .returned (.bool false) ∧ w = w' := by
  go_enter Try.func73, Try.ntmps73
  go_wp2
  go_ret
  exact ⟨by simp, rfl⟩
theorem cmp_str (a b : ByteArray) (w : World) : Calls Try.prog 56 #[.string a, .string b] w fun e w' => e = .returned (.int .i64 (cmpB a.toList b.toList)) ∧ w = w' := by
  go_enter Try.func56, Try.ntmps56
  go_wp2_with (go_at_call 73; refine (nan_str _ _).mono ?_; rintro e w' ⟨rfl, rfl⟩)
  all_goals
    go_ret
    refine ⟨ret_int ?_, rfl⟩
    rw [cmpB_less] at *
    have hz := cmpB_zero a.toList b.toList
    have hs := sgn_cmpB a.toList b.toList
    simp only [decide_eq_true_eq, decide_eq_false_iff_not, Bool.not_eq_true', Bool.not_eq_false', beq_eq_false_iff_ne, beq_iff_eq, ne_eq] at *
    unfold Sgn at hs
    grind
end Go.Proofs.Ytgkdecjlanbmhaa
