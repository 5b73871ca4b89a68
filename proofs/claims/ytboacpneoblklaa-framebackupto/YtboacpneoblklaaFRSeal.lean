/- The document's Seal. -/
import Derived.Test.YtboacpneoblklaaFWord
import Derived.Test.YtboacpneoblklaaFApp
namespace Go.Proofs.Ytboacpneoblklaa
open Go.RowKit Go.Deep
set_option linter.unusedVariables false
set_option linter.unusedSimpArgs false

set_option maxRecDepth 100000 in
set_option maxHeartbeats 2000000 in
theorem refseal_no (ty ch : Int) (a : Option Addr) (n c : Nat) (b : Option Addr) (m d : Nat) (w : World) (hn : n ≤ 140737488355328) (hm : m ≤ 140737488355328) (hE0 : sealE ty ch n m ≠ 0) :
    Calls Try.prog 12 #[frV ty ch a n c b m d] w fun e w' => e = .returned (.tuple #[.slice none 0 0, .int .i64 (sealE ty ch n m)]) ∧ Below w.heap.size w w' := by
  unfold frV
  rcases sealE_ways ty ch n m with ⟨h0, h1, hE⟩ | ⟨h, h1, hE⟩ | ⟨h, h1, hE⟩ | ⟨rfl, h1, h2, hE⟩ | ⟨hor, hE⟩
  · rw [hE]; clear hE hE0
    have e0 : (ty != 0) = true := by simpa using h0
    have e1 : (ty != 1) = true := by simpa using h1
    clear h0 h1
    go_enter Try.func12, Try.ntmps12
    go_wp2
    go_ret2
    exact ⟨rfl, below_box _ _⟩
  · rw [hE]; clear hE hE0
    rcases h with rfl | rfl
    all_goals
      go_enter Try.func12, Try.ntmps12
      go_wp2
      go_ret2
      exact ⟨rfl, below_box _ _⟩
  · rw [hE]; clear hE hE0
    have h0 : ¬ ch < 0 := by omega
    have h2 : 65536 ≤ ch := by omega
    rcases h with rfl | rfl
    all_goals
      go_enter Try.func12, Try.ntmps12
      go_wp2
      go_ret2
      exact ⟨rfl, below_box _ _⟩
  · rw [hE]; clear hE hE0
    have h0 : ¬ ch < 0 := by omega
    have h3 : ¬ 65536 ≤ ch := by omega
    have hne : (ch != 0) = true := by simp; omega
    go_enter Try.func12, Try.ntmps12
    go_wp2
    go_ret2
    exact ⟨rfl, below_box _ _⟩
  · have hZ := hE0
    rcases hor with ⟨rfl, hc0, hc1⟩ | ⟨rfl, rfl⟩
    all_goals
      rcases hE with ⟨h4, hE⟩ | ⟨h4, h5, hE⟩ | ⟨h4, h5, h6, hE⟩ | ⟨h4, h5, h6, hE⟩
    all_goals
      rw [hE]; clear hE0
      try have hc2 : ¬ ch < 0 := by omega
      try have hc3 : ¬ 65536 ≤ ch := by omega
    · clear hE
      have hne : ((n : Int) % 4 != 0) = true := by simp; omega
      clear h4
      go_enter Try.func12, Try.ntmps12
      go_wp2
      go_ret2
      exact ⟨rfl, below_box _ _⟩
    · clear hE
      have hne : ((n : Int) % 4 != 0) = false := by simp; omega
      clear h4
      go_enter Try.func12, Try.ntmps12
      go_wp2
      go_ret2
      exact ⟨rfl, below_box _ _⟩
    · clear hE
      have hne : ((n : Int) % 4 != 0) = false := by simp; omega
      clear h4
      go_enter Try.func12, Try.ntmps12
      go_wp2
      go_ret2
      exact ⟨rfl, below_box _ _⟩
    · exact (hZ hE).elim
    · clear hE
      have hne : ((n : Int) % 4 != 0) = true := by simp; omega
      clear h4
      go_enter Try.func12, Try.ntmps12
      go_wp2
      go_ret2
      exact ⟨rfl, below_box _ _⟩
    · clear hE
      have hne : ((n : Int) % 4 != 0) = false := by simp; omega
      clear h4
      go_enter Try.func12, Try.ntmps12
      go_wp2
      go_ret2
      exact ⟨rfl, below_box _ _⟩
    · clear hE
      have hne : ((n : Int) % 4 != 0) = false := by simp; omega
      clear h4
      go_enter Try.func12, Try.ntmps12
      go_wp2
      go_ret2
      exact ⟨rfl, below_box _ _⟩
    · exact (hZ hE).elim
end Go.Proofs.Ytboacpneoblklaa
