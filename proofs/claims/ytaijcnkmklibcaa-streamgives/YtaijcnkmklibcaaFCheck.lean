
/- isType, check. -/
import Derived.Test.YtaijcnkmklibcaaFSpec
namespace Go.Proofs.Ytaijcnkmklibcaa
open Go.RowKit Go.Deep
set_option linter.unusedVariables false
set_option linter.unusedSimpArgs false

set_option maxHeartbeats 1000000 in
theorem isType_yes (x : Int) (w : World) (h : x = 0 ∨ x = 1) : Calls Try.prog 45 #[.int .i64 x] w fun e w' => e = .returned (.bool true) ∧ w = w' := by
  rcases h with rfl | rfl
  all_goals
    go_enter Try.func45, Try.ntmps45
    go_wp2
    go_ret
    exact ⟨rfl, rfl⟩
set_option maxHeartbeats 1000000 in
theorem isType_no (x : Int) (w : World) (h0 : x ≠ 0) (h1 : x ≠ 1) : Calls Try.prog 45 #[.int .i64 x] w fun e w' => e = .returned (.bool false) ∧ w = w' := by
  have e0 : (x == 0) = false := by simpa using h0
  have e1 : (x == 1) = false := by simpa using h1
  clear h0 h1
  go_enter Try.func45, Try.ntmps45
  go_wp2
  go_ret
  exact ⟨rfl, rfl⟩
theorem below_box (w : World) (o : Obj) : Below w.heap.size w (w.alloc o) := (Below.refl _ _).alloc (Nat.le_refl _) _
set_option maxRecDepth 100000 in
set_option maxHeartbeats 2000000 in
theorem check_any (ty ch : Int) (a : Option Addr) (n c : Nat) (b : Option Addr) (m d : Nat) (w : World) (hn : n ≤ 140737488355328) (hm : m ≤ 140737488355328) :
    Calls Try.prog 33 #[frV ty ch a n c b m d] w fun e w' => e = .returned (.int .i64 (sealE ty ch n m)) ∧ Below w.heap.size w w' := by
  unfold frV
  rcases sealE_ways ty ch n m with ⟨h0, h1, hE⟩ | ⟨h, h1, hE⟩ | ⟨h, h1, hE⟩ | ⟨rfl, h1, h2, hE⟩ | ⟨hor, hE⟩
  · rw [hE]; clear hE
    go_enter Try.func33, Try.ntmps33
    go_wp2_with (go_at_call 45; refine (isType_no ty _ h0 h1).mono ?_; rintro e w' ⟨rfl, rfl⟩)
    go_ret
    exact ⟨rfl, below_box _ _⟩
  · rw [hE]; clear hE
    go_enter Try.func33, Try.ntmps33
    go_wp2_with (go_at_call 45; refine (isType_yes ty _ h).mono ?_; rintro e w' ⟨rfl, rfl⟩)
    go_ret
    exact ⟨rfl, below_box _ _⟩
  · rw [hE]; clear hE
    have h0 : ¬ ch < 0 := by omega
    go_enter Try.func33, Try.ntmps33
    go_wp2_with (go_at_call 45; refine (isType_yes ty _ h).mono ?_; rintro e w' ⟨rfl, rfl⟩)
    go_ret
    exact ⟨rfl, below_box _ _⟩
  · rw [hE]; clear hE
    have h0 : ¬ ch < 0 := by omega
    have hne : (ch != 0) = true := by simp; omega
    go_enter Try.func33, Try.ntmps33
    go_wp2_with (go_at_call 45; refine (isType_yes 1 _ (.inr rfl)).mono ?_; rintro e w' ⟨rfl, rfl⟩)
    go_ret
    exact ⟨rfl, below_box _ _⟩
  · rcases hor with ⟨rfl, hc0, hc1⟩ | ⟨rfl, rfl⟩
    all_goals
      rcases hE with ⟨h4, hE⟩ | ⟨h4, h5, hE⟩ | ⟨h4, h5, h6, hE⟩ | ⟨h4, h5, h6, hE⟩
    all_goals
      rw [hE]; clear hE
      try have hc2 : ¬ ch < 0 := by omega
    · have hne : ((n : Int) % 4 != 0) = true := by simp; omega
      clear h4
      go_enter Try.func33, Try.ntmps33
      go_wp2_with (go_at_call 45; refine (isType_yes 0 _ (by omega)).mono ?_; rintro e w' ⟨rfl, rfl⟩)
      go_ret
      exact ⟨rfl, below_box _ _⟩
    · have hne : ((n : Int) % 4 != 0) = false := by simp; omega
      clear h4
      go_enter Try.func33, Try.ntmps33
      go_wp2_with (go_at_call 45; refine (isType_yes 0 _ (by omega)).mono ?_; rintro e w' ⟨rfl, rfl⟩)
      go_ret
      exact ⟨rfl, below_box _ _⟩
    · have hne : ((n : Int) % 4 != 0) = false := by simp; omega
      clear h4
      go_enter Try.func33, Try.ntmps33
      go_wp2_with (go_at_call 45; refine (isType_yes 0 _ (by omega)).mono ?_; rintro e w' ⟨rfl, rfl⟩)
      go_ret
      exact ⟨rfl, below_box _ _⟩
    · have hne : ((n : Int) % 4 != 0) = false := by simp; omega
      clear h4
      go_enter Try.func33, Try.ntmps33
      go_wp2_with (go_at_call 45; refine (isType_yes 0 _ (by omega)).mono ?_; rintro e w' ⟨rfl, rfl⟩)
      go_ret
      exact ⟨rfl, below_box _ _⟩
    · have hne : ((n : Int) % 4 != 0) = true := by simp; omega
      clear h4
      go_enter Try.func33, Try.ntmps33
      go_wp2_with (go_at_call 45; refine (isType_yes 1 _ (by omega)).mono ?_; rintro e w' ⟨rfl, rfl⟩)
      go_ret
      exact ⟨rfl, below_box _ _⟩
    · have hne : ((n : Int) % 4 != 0) = false := by simp; omega
      clear h4
      go_enter Try.func33, Try.ntmps33
      go_wp2_with (go_at_call 45; refine (isType_yes 1 _ (by omega)).mono ?_; rintro e w' ⟨rfl, rfl⟩)
      go_ret
      exact ⟨rfl, below_box _ _⟩
    · have hne : ((n : Int) % 4 != 0) = false := by simp; omega
      clear h4
      go_enter Try.func33, Try.ntmps33
      go_wp2_with (go_at_call 45; refine (isType_yes 1 _ (by omega)).mono ?_; rintro e w' ⟨rfl, rfl⟩)
      go_ret
      exact ⟨rfl, below_box _ _⟩
    · have hne : ((n : Int) % 4 != 0) = false := by simp; omega
      clear h4
      go_enter Try.func33, Try.ntmps33
      go_wp2_with (go_at_call 45; refine (isType_yes 1 _ (by omega)).mono ?_; rintro e w' ⟨rfl, rfl⟩)
      go_ret
      exact ⟨rfl, below_box _ _⟩
end Go.Proofs.Ytaijcnkmklibcaa
