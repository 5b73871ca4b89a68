
/- Stage 6: a stream that goes over bytes: what P6.10 says of it. -/
import Derived.Test.YtaijcnkmklibcaaSGo
namespace Go.Proofs.Ytaijcnkmklibcaa
open Go.RowKit Go.Deep
set_option linter.unusedVariables false
set_option linter.unusedSimpArgs false

/-- where it is not closed, what is held lies between at and taken; where it is, nothing is held, and at lies ahead -/
def Ok (s : Sg) : Prop := (s.er = 0 → s.1.2.2 = s.1.2.1 - (s.2.1.length : Int)) ∧ (¬ s.er = 0 → s.2.1 = [] ∧ s.1.2.2 < s.1.2.1)
theorem ok_nx {s : Sg} (h : Ok s) (he : s.er = 0) (c : Nat) : Ok (s.nx c) := by
  obtain ⟨h1, _⟩ := h
  have h1 := h1 he
  by_cases hE : s.E c = 0
  · by_cases hK : s.K c = 0
    · refine ⟨fun _ => ?_, fun hh => absurd (show (s.nx c).er = 0 from hE) hh⟩
      simp only [Sg.nx, hE, hK, and_self, if_true, List.length_append, List.length_cons, List.length_nil]
      omega
    · refine ⟨fun _ => ?_, fun hh => absurd (show (s.nx c).er = 0 from hE) hh⟩
      simp [Sg.nx, hE, hK]
  · have hK : s.K c = 0 := by unfold Sg.K; rw [if_neg hE]
    refine ⟨fun hh => absurd (show s.E c = 0 from hh) hE, fun _ => ?_⟩
    simp only [Sg.nx, hE, hK, false_and, if_false, if_true, true_and]
    omega
theorem ok_go {s : Sg} (h : Ok s) (l : List Nat) : Ok (s.go l) := by
  unfold Sg.go
  induction l generalizing s with
  | nil => exact h
  | cons c r ih =>
    rw [List.foldl_cons]
    refine ih ?_
    unfold Sg.nz
    by_cases he : s.er = 0
    · rw [if_pos he]; exact ok_nx h he c
    · rw [if_neg he]; exact h
theorem SR.held {w : World} {S B : Nat} {M : Int} {s : Sg} {v : Value} (h : SR w S B M s v) (he : s.er = 0) : (s.2.1.length : Int) < M ∧ (s.2.2.2.1.1 = true → s.2.1.length < 8) := by
  obtain ⟨h1, h2, h3, h4, h5, h6⟩ := h
  exact (h6 he).held (by omega)
end Go.Proofs.Ytaijcnkmklibcaa
