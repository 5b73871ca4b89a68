import Derived.Test.YtcadlhpgapdgdaaGreatDoorJWhAM9
import Derived.Test.YtcadlhpgapdgdaaGreatDoorJAsN

/- Stage 20: errors, and the numbers that they wrap. -/
namespace Go.Proofs.YtcadlhpgapdgdaaGreatDoor
open Go.RowKit
set_option linter.unusedVariables false
set_option linter.unusedSimpArgs false
/-- an answer as an error -/
def amV (n : Int) : Value := if n = 0 then .nilIface else nB n
theorem amiss_any (n : Int) (w : World) : Calls Tryz.prog 91 #[.int .i64 n] w fun e w' => e = .returned (amV n) ∧ w' = w := by
  unfold amV nB
  by_cases h : n = 0
  · subst h
    go_enter Tryz.func91, Tryz.ntmps91
    go_wp2
    go_ret
    exact ⟨rfl, rfl⟩
  · have hn : (n == 0) = false := beq_eq_false_iff_ne.2 h
    rw [if_neg h]
    clear h
    go_enter Tryz.func91, Tryz.ntmps91
    go_wp2
    go_ret
    exact ⟨rfl, rfl⟩
theorem as_num (n : Int) (w W : World) (hT : Er w) (hW : W = w.alloc (.cells #[.int .i64 0] 82)) : Calls Tryz.prog 78 #[.iface 82 (.int .i64 n), .iface 155 (.pointer (some ⟨w.heap.size, 0, none⟩))] W fun e w' => e = .returned (.bool true) ∧ Hid (Below w.heap.size w w') ∧ w'.cell? ⟨w.heap.size, 0, none⟩ = some (.int .i64 n) := by
  subst hW
  have h1 : w.heap[0]?.isSome := by
    have := block_lt_of_cell hT
    simp [this]
  refine (AsN.as_hit n ⟨w.heap.size, 0, none⟩ (.int .i64 0) _ (hT.below (bel1 (Below.refl _ _) (Nat.le_refl _) _)) (cellOf (heap_new _ _) 0 _ rfl) (frozen_new _ _ _)).mono ?_
  rintro e w' ⟨rfl, rfl⟩
  refine ⟨rfl, ?_, ?_⟩
  · exact Below.setCell (bel1 (bel1 (bel1 (bel1 (bel1 (Below.refl _ _) (Nat.le_refl _) _) (by simp only [World.size_alloc]; omega) _) (by simp only [World.size_alloc]; omega) _) (by simp only [World.size_alloc]; omega) _) (by simp only [World.size_alloc]; omega) _) (Nat.le_refl _) _
  · refine cell_set (v0 := .int .i64 0) (t := 82) (f := (0, 0)) ?_ _
    exact heap_past (heap_past (heap_past (heap_past (heap_new _ _) _) _) _) _
theorem errnoOf_any (n : Int) (w : World) (hT : Er w) : Calls Tryz.prog 56 #[amV n] w fun e w' => e = .returned (.int .i64 n) ∧ Below w.heap.size w w' := by
  unfold amV nB
  by_cases h : n = 0
  · subst h
    have HN := hide (fun W => AsN.as_nil (.iface 155 (.pointer (some ⟨w.heap.size, 0, none⟩))) W)
    go_enter Tryz.func56, Tryz.ntmps56
    go_wp2_with (go_at_call 78; refine (HN.out _).mono ?_; rintro e w' ⟨rfl, rfl⟩)
    go_ret
    exact ⟨rfl, bel1 (Below.refl _ _) (Nat.le_refl _) _⟩
  · rw [if_neg h]
    have HN := hide (as_num n w _ hT rfl)
    clear h
    go_enter Tryz.func56, Tryz.ntmps56
    go_wp2_with (go_at_call 78; refine HN.out.mono ?_; rintro e w' ⟨rfl, HB, hc⟩)
    go_ret
    exact ⟨rfl, HB.out⟩
end Go.Proofs.YtcadlhpgapdgdaaGreatDoor
