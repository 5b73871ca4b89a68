
/- Stage 18: a sort of at most one binding. -/
import Derived.Test.YtmanfakdbmlfeaaDoorRSrtB
namespace Go.Proofs.YtmanfakdbmlfeaaDoor
open Go.RowKit
set_option linter.unusedVariables false
set_option linter.unusedSimpArgs false
set_option maxRecDepth 100000 in
set_option maxHeartbeats 2000000 in
theorem ins_one (a : Option Addr) (n cap : Nat) (f : Value) (w : World) (hn : n ≤ 1) : Calls Tryd.prog 62 #[.slice a n cap, .int .i64 0, .int .i64 (n : Int), f] w fun e w' => e = .returned (.tuple #[]) ∧ w' = w := by
  go_enter Tryd.func62, Tryd.ntmps62
  go_wp2
  go_rounds 1
  all_goals (go_wp2; go_end0; exact ⟨rfl, rfl⟩)
set_option maxRecDepth 100000 in
set_option maxHeartbeats 2000000 in
theorem pdq_one (a : Option Addr) (n cap : Nat) (f lim : Value) (w : World) (hn : n ≤ 1) : Calls Tryd.prog 53 #[.slice a n cap, .int .i64 0, .int .i64 (n : Int), lim, f] w fun e w' => e = .returned (.tuple #[]) ∧ w' = w := by
  go_enter Tryd.func53, Tryd.ntmps53
  go_wp2
  go_loopw [1, 2, 3, 10, 11, 12] (fun v1 v2 v3 _ _ _ wr => v1 = .int .i64 0 ∧ v2 = .int .i64 (n : Int) ∧ wr = w) (fun _ _ _ _ _ _ _ => 1)
  case atStart => exact ⟨rfl, rfl, rfl⟩
  case round =>
    obtain ⟨rfl, rfl, rfl⟩ := hrel
    go_wp2_with fail
    refine Calls.mono (ins_one a n cap f _ hn) ?_
    rintro e w' ⟨rfl, rfl⟩
    go_wp2
    go_returns
    exact ⟨rfl, rfl⟩
set_option maxRecDepth 100000 in
set_option maxHeartbeats 2000000 in
theorem sort_one (a : Option Addr) (n cap : Nat) (f : Value) (w : World) (hn : n ≤ 1) : Calls Tryd.prog 37 #[.slice a n cap, f] w fun e w' => e = .returned (.tuple #[]) ∧ w' = w := by
  go_enter Tryd.func37, Tryd.ntmps37
  go_wp2_with fail
  refine Calls.mono (Tryd.bits_Len (n : Int) w (by omega) (by omega)) ?_
  rintro e w' ⟨rfl, rfl⟩
  go_wp2_with fail
  refine Calls.mono (pdq_one a n cap f _ _ hn) ?_
  rintro e w' ⟨rfl, rfl⟩
  go_wp2
  go_end0
  exact ⟨rfl, rfl⟩
end Go.Proofs.YtmanfakdbmlfeaaDoor
