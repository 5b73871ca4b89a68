
/- Stage 14: the link's numbers: isWithin, Before, goOn, Grant, Drained. -/
import Derived.Test.YtjipcdknkghoaaaLBase
import Derived.WalkLawsBesides
import Derived.Handy
import Derived.Outline
import Derived.BigQuiet
import Derived.Deep.QuietTactic
import Derived.Deep.RegionHeld
namespace Go.Proofs.Ytjipcdknkghoaaa
open Go.RowKit
set_option linter.unusedVariables false
set_option linter.unusedSimpArgs false

theorem add_any (a b : Int) (w : World) :
    Calls Try.prog 41 #[.int .i64 a, .int .i64 b] w fun e w' => e = .returned (.int .i64 ((a + b) % 4294967296)) ∧ w = w' := by
  go_enter Try.func41, Try.ntmps41
  go_wp2
  go_ret
  exact ⟨rfl, rfl⟩
theorem gap_any (a b : Int) (w : World) :
    Calls Try.prog 59 #[.int .i64 a, .int .i64 b] w fun e w' => e = .returned (.int .i64 (gapZ a b)) ∧ w = w' := by
  go_enter Try.func59, Try.ntmps59
  go_wp2
  go_ret
  exact ⟨ret_int (by simp only [gapZ, wrap64, wrap32]; omega), rfl⟩
theorem before_any (a b : Int) (w : World) :
    Calls Try.prog 42 #[.int .i64 a, .int .i64 b] w fun e w' => e = .returned (.bool (decide (0 < gapZ a b))) ∧ w = w' := by
  go_enter Try.func42, Try.ntmps42
  go_wp2_with (go_at_call 59; refine (gap_any _ _ _).mono ?_; rintro e1 w1 ⟨rfl, rfl⟩)
  go_ret
  exact ⟨rfl, rfl⟩
def isIn (n m : Int) : Bool := decide (0 ≤ n) && decide (n ≤ m)
theorem within_any (n m : Int) (w : World) :
    Calls Try.prog 40 #[.int .i64 n, .int .i64 m] w fun e w' => e = .returned (.bool (isIn n m)) ∧ w = w' := by
  unfold isIn
  by_cases h : 0 ≤ n
  · go_enter Try.func40, Try.ntmps40
    go_wp2
    go_ret
    exact ⟨by simp [h], rfl⟩
  · go_enter Try.func40, Try.ntmps40
    go_wp2
    go_ret
    exact ⟨by simp [h]; omega, rfl⟩
/-- counted on -/
def Lk.on (l : Lk) (n : Int) : Lk := { l with ct := (l.ct + n) % 4294967296, cr := greater 0 (l.cr - n), dr := if l.rc = true ∧ greater 0 (l.cr - n) = 0 then false else l.dr }
set_option maxRecDepth 100000 in
theorem goOn_any (g : Nat) (l : Lk) (n : Int) (w : World) (h : LB w g l) (hc : 0 ≤ l.cr ∧ l.cr ≤ 4294967295) (hn : 0 ≤ n ∧ n ≤ 4294967295) :
    Calls Try.prog 49 #[.pointer (some ⟨g, 0, none⟩), .int .i64 n] w fun e w' => e = .returned (.tuple #[]) ∧ LB w' g (l.on n) ∧ Kp (fun k => k = g) w w' := by
  obtain ⟨s0, s1, s2, s3, s4, s5, s6, s7, s8, s9, s10, s11⟩ := h.facts
  have f2 := h.frozen 2
  have f3 := h.frozen 3
  have f5 := h.frozen 5
  have hl := h.lt
  have HL := hide h
  clear h s0 s4 s6 s7 s8 s9 s10 s11
  obtain ⟨nm, rc, ct, cr, av, dr, sm, rm, fi, bd, dm⟩ := l
  dsimp only at *
  by_cases hp : 0 < cr - n
  · have he : Hid (greater 0 (cr - n) = cr - n ∧ cr - n ≠ 0) := ⟨by unfold greater; rw [if_pos hp], by omega⟩
    have hne : (cr - n == 0) = false := by have := he.out.2; simp [this]
    cases rc
    · go_enter Try.func49, Try.ntmps49
      go_wp2_with (go_at_call 41; refine (add_any _ _ _).mono ?_; rintro e1 w1 ⟨rfl, rfl⟩)
      all_goals first | (exfalso; omega) | skip
      first | go_end0 | refine bodyPost_ret (results_none rfl _ _ _) rfl ?_
      exact ⟨rfl, ((HL.out.set_ct _).set_cr _).cast (by unfold Lk.on; simp [he.out.1]), kp_self (kp_self (Kp.refl _ _) _ _) _ _⟩
    · go_enter Try.func49, Try.ntmps49
      go_wp2_with (go_at_call 41; refine (add_any _ _ _).mono ?_; rintro e1 w1 ⟨rfl, rfl⟩)
      all_goals first | (exfalso; omega) | skip
      first | go_end0 | refine bodyPost_ret (results_none rfl _ _ _) rfl ?_
      exact ⟨rfl, ((HL.out.set_ct _).set_cr _).cast (by unfold Lk.on; simp [he.out.1, he.out.2]), kp_self (kp_self (Kp.refl _ _) _ _) _ _⟩
  · have he : Hid (greater 0 (cr - n) = 0) := by show _ = _; unfold greater; rw [if_neg hp]
    cases rc
    · go_enter Try.func49, Try.ntmps49
      go_wp2_with (go_at_call 41; refine (add_any _ _ _).mono ?_; rintro e1 w1 ⟨rfl, rfl⟩)
      all_goals first | (exfalso; omega) | skip
      first | go_end0 | refine bodyPost_ret (results_none rfl _ _ _) rfl ?_
      exact ⟨rfl, ((HL.out.set_ct _).set_cr _).cast (by unfold Lk.on; simp [he.out]), kp_self (kp_self (Kp.refl _ _) _ _) _ _⟩
    · go_enter Try.func49, Try.ntmps49
      go_wp2_with (go_at_call 41; refine (add_any _ _ _).mono ?_; rintro e1 w1 ⟨rfl, rfl⟩)
      all_goals first | (exfalso; omega) | skip
      first | go_end0 | refine bodyPost_ret (results_none rfl _ _ _) rfl ?_
      exact ⟨rfl, (((HL.out.set_ct _).set_cr _).set_dr _).cast (by unfold Lk.on; simp [he.out]), kp_self (kp_self (kp_self (Kp.refl _ _) _ _) _ _) _ _⟩
end Go.Proofs.Ytjipcdknkghoaaa
