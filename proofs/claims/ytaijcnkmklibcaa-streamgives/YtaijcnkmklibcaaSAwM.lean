
/- Stage 6: what awake's bytes make of a stream (plain reckoning). -/
import Derived.Test.YtaijcnkmklibcaaSTake
namespace Go.Proofs.Ytaijcnkmklibcaa
open Go.RowKit Go.Deep
set_option linter.unusedVariables false

def sNew (m : Int) : Sg := ((m, 0, 0), [], (0, 0), (true, 0), 0)
def awA : List Nat := [76, 83, 72, 82, 0, 1, 0, 0, 9]
def awB : List Nat := [0, 0, 0, 10, 2, 0, 0, 5, 65, 66]
def sOne : Sg := ((512, 8, 8), [], (0, 0), (false, 0), 1)
def sTwo : Sg := ((512, 18, 18), [], (10, 0), (false, 0), 1)
set_option maxRecDepth 100000
theorem awA_quiet : ∀ j, j < 7 → ((sNew 512).go (awA.take j)).er = 0 ∧ ((sNew 512).go (awA.take j)).K (awA.getD j 0) = 0 := by decide
theorem awA_item : ((sNew 512).go (awA.take 7)).er = 0 ∧ ((sNew 512).go (awA.take 7)).K (awA.getD 7 0) = 1 := by decide
theorem awA_end : (sNew 512).go (awA.take 8) = sOne := by decide
theorem awB_quiet : ∀ j, j < 9 → (sOne.go (awB.take j)).er = 0 ∧ (sOne.go (awB.take j)).K (awB.getD j 0) = 0 := by decide
theorem awB_item : (sOne.go (awB.take 9)).er = 0 ∧ (sOne.go (awB.take 9)).K (awB.getD 9 0) = 2 ∧ (sOne.go (awB.take 9)).2.2.2.2 = 4 ∧ (sOne.go (awB.take 9)).2.1 ++ [awB.getD 9 0] = awB := by decide
theorem awB_end : sOne.go (awB.take 10) = sTwo := by decide
theorem awB_op : opC awB 0 1048576 = 5 ∧ opY awB 0 1048576 = [65, 66] ∧ opX awB 0 1048576 = [] := by decide
theorem awA_it (A1 A2 : Option Addr) : ((sNew 512).go (awA.take 7)).It (awA.getD 7 0) A1 A2 = itV 1 0 0 0 (.slice none 0 0) (.slice none 0 0) := by rfl
theorem awB_it (A1 A2 : Option Addr) : (sOne.go (awB.take 9)).It (awB.getD 9 0) A1 A2 = itV 2 0 0 5 (.slice A1 0 0) (.slice A2 2 2) := by rfl
theorem take_at {S B : Nat} {M : Int} {w W : World} {v0 : Value} {s : Sg} {l : List Nat} {e : Ending} {k : Nat} (hkl : k < l.length) (hq : ∀ j, j < k → (s.go (l.take j)).er = 0 ∧ (s.go (l.take j)).K (l.getD j 0) = 0) (hk : (s.go (l.take k)).er = 0 ∧ ¬ (s.go (l.take k)).K (l.getD k 0) = 0) (h : TakeP S B M w v0 s l e W) :
    ∃ v x, OwnR w v0 v ∧ KX S v0 (fun _ => False) w W ∧ SR W S B M (s.go (l.take (k + 1))) v ∧ ItI l (k, s.go (l.take k)) w W x ∧ e = .returned (.tuple #[x, .int .i64 ((k + 1 : Nat) : Int)]) := by
  obtain ⟨i, v, h1, h2, h3, h4, h5⟩ := h
  have hik : i ≤ k := by
    by_cases hh : i ≤ k
    · exact hh
    · exact absurd (h2 k (by omega)).2 hk.2
  have hi : i < k ∨ i = k := by omega
  rcases h5 with ⟨hF, rfl, h6⟩ | ⟨h6, h7, h8, x, h9, rfl⟩
  · exfalso
    rcases hF with hF | hF
    · simp only at hF
      omega
    · rcases hi with hi | rfl
      · exact hF (hq i hi).1
      · exact hF hk.1
  · rcases hi with hi | rfl
    · exact absurd (hq i hi).2 h9.1
    · exact ⟨v, x, h3, h4, h8, h9, rfl⟩
/-- a stream that New made -/
theorem SR.new {w : World} {S : Nat} {m : Int} (h : StB w S m 0 0 (.slice none 0 0) 0 0 true 0 (mfn S 0)) (hm : 512 ≤ m ∧ m ≤ 1048576) : SR w S S m (sNew m) (.slice none 0 0) :=
  ⟨h, World.ownsRow_nil w S 5 1, Nat.le_of_lt h.lt, by simp [sNew], ⟨hm.1, Int.le_refl _, hm.2⟩, fun _ => Inv.start m⟩
end Go.Proofs.Ytaijcnkmklibcaa
