/- HRName -/
import Derived.Test.YtgldcchleoklcaaGreatDoorF02
import Derived.BigQuiet
namespace Go.Proofs.YtgldcchleoklcaaGreatDoor
open Go.RowKit
set_option linter.unusedVariables false
set_option linter.unusedSimpArgs false
set_option maxRecDepth 100000 in
set_option maxHeartbeats 2000000 in
theorem rname_16 (w : World) : Calls Tryz.prog 11 #[.int .i64 16] w fun e w' => e = .returned (.string ⟨#[108, 111, 110, 103, 115, 104, 111, 114, 101, 58, 111, 112, 101, 110, 58, 108, 105, 115, 116]⟩) ∧ Below w.heap.size w w' := by
  go_enter Tryz.func11, Tryz.ntmps11
  go_wp2
  go_ret
  exact ⟨rfl, Below.refl _ _⟩
set_option maxRecDepth 100000 in
set_option maxHeartbeats 2000000 in
theorem rname_17 (w : World) : Calls Tryz.prog 11 #[.int .i64 17] w fun e w' => e = .returned (.string ⟨#[108, 111, 110, 103, 115, 104, 111, 114, 101, 58, 98, 101, 103, 105, 110, 58, 108, 105, 115, 116]⟩) ∧ Below w.heap.size w w' := by
  go_enter Tryz.func11, Tryz.ntmps11
  go_wp2
  go_ret
  exact ⟨rfl, Below.refl _ _⟩
set_option maxRecDepth 100000 in
set_option maxHeartbeats 2000000 in
theorem rname_18 (w : World) : Calls Tryz.prog 11 #[.int .i64 18] w fun e w' => e = .returned (.string ⟨#[108, 111, 110, 103, 115, 104, 111, 114, 101, 58, 97, 116, 116, 97, 99, 104, 58, 108, 105, 115, 116]⟩) ∧ Below w.heap.size w w' := by
  go_enter Tryz.func11, Tryz.ntmps11
  go_wp2
  go_ret
  exact ⟨rfl, Below.refl _ _⟩
set_option maxRecDepth 100000 in
set_option maxHeartbeats 2000000 in
theorem rname_19 (w : World) : Calls Tryz.prog 11 #[.int .i64 19] w fun e w' => e = .returned (.string ⟨#[108, 111, 110, 103, 115, 104, 111, 114, 101, 58, 102, 108, 111, 119, 58, 108, 105, 115, 116]⟩) ∧ Below w.heap.size w w' := by
  go_enter Tryz.func11, Tryz.ntmps11
  go_wp2
  go_ret
  exact ⟨rfl, Below.refl _ _⟩
set_option maxRecDepth 100000 in
set_option maxHeartbeats 2000000 in
theorem rname_20 (w : World) : Calls Tryz.prog 11 #[.int .i64 20] w fun e w' => e = .returned (.string ⟨#[108, 111, 110, 103, 115, 104, 111, 114, 101, 58, 116, 114, 97, 110, 115, 102, 101, 114, 58, 108, 105, 115, 116]⟩) ∧ Below w.heap.size w w' := by
  go_enter Tryz.func11, Tryz.ntmps11
  go_wp2
  go_ret
  exact ⟨rfl, Below.refl _ _⟩
set_option maxRecDepth 100000 in
set_option maxHeartbeats 2000000 in
theorem rname_21 (w : World) : Calls Tryz.prog 11 #[.int .i64 21] w fun e w' => e = .returned (.string ⟨#[108, 111, 110, 103, 115, 104, 111, 114, 101, 58, 100, 105, 115, 112, 111, 115, 105, 116, 105, 111, 110, 58, 108, 105, 115, 116]⟩) ∧ Below w.heap.size w w' := by
  go_enter Tryz.func11, Tryz.ntmps11
  go_wp2
  go_ret
  exact ⟨rfl, Below.refl _ _⟩
set_option maxRecDepth 100000 in
set_option maxHeartbeats 2000000 in
theorem rname_22 (w : World) : Calls Tryz.prog 11 #[.int .i64 22] w fun e w' => e = .returned (.string ⟨#[108, 111, 110, 103, 115, 104, 111, 114, 101, 58, 100, 101, 116, 97, 99, 104, 58, 108, 105, 115, 116]⟩) ∧ Below w.heap.size w w' := by
  go_enter Tryz.func11, Tryz.ntmps11
  go_wp2
  go_ret
  exact ⟨rfl, Below.refl _ _⟩
set_option maxRecDepth 100000 in
set_option maxHeartbeats 2000000 in
theorem rname_23 (w : World) : Calls Tryz.prog 11 #[.int .i64 23] w fun e w' => e = .returned (.string ⟨#[108, 111, 110, 103, 115, 104, 111, 114, 101, 58, 101, 110, 100, 58, 108, 105, 115, 116]⟩) ∧ Below w.heap.size w w' := by
  go_enter Tryz.func11, Tryz.ntmps11
  go_wp2
  go_ret
  exact ⟨rfl, Below.refl _ _⟩
set_option maxRecDepth 100000 in
set_option maxHeartbeats 2000000 in
theorem rname_24 (w : World) : Calls Tryz.prog 11 #[.int .i64 24] w fun e w' => e = .returned (.string ⟨#[108, 111, 110, 103, 115, 104, 111, 114, 101, 58, 99, 108, 111, 115, 101, 58, 108, 105, 115, 116]⟩) ∧ Below w.heap.size w w' := by
  go_enter Tryz.func11, Tryz.ntmps11
  go_wp2
  go_ret
  exact ⟨rfl, Below.refl _ _⟩
set_option maxRecDepth 100000 in
set_option maxHeartbeats 2000000 in
theorem rname_29 (w : World) : Calls Tryz.prog 11 #[.int .i64 29] w fun e w' => e = .returned (.string ⟨#[108, 111, 110, 103, 115, 104, 111, 114, 101, 58, 102, 97, 117, 108, 116, 58, 108, 105, 115, 116]⟩) ∧ Below w.heap.size w w' := by
  go_enter Tryz.func11, Tryz.ntmps11
  go_wp2
  go_ret
  exact ⟨rfl, Below.refl _ _⟩
set_option maxRecDepth 100000 in
set_option maxHeartbeats 2000000 in
theorem rname_35 (w : World) : Calls Tryz.prog 11 #[.int .i64 35] w fun e w' => e = .returned (.string ⟨#[108, 111, 110, 103, 115, 104, 111, 114, 101, 58, 114, 101, 99, 101, 105, 118, 101, 100, 58, 108, 105, 115, 116]⟩) ∧ Below w.heap.size w w' := by
  go_enter Tryz.func11, Tryz.ntmps11
  go_wp2
  go_ret
  exact ⟨rfl, bel1 (Below.refl _ _) (Nat.le_refl _) _⟩
set_option maxRecDepth 100000 in
set_option maxHeartbeats 2000000 in
theorem rname_36 (w : World) : Calls Tryz.prog 11 #[.int .i64 36] w fun e w' => e = .returned (.string ⟨#[108, 111, 110, 103, 115, 104, 111, 114, 101, 58, 97, 99, 99, 101, 112, 116, 101, 100, 58, 108, 105, 115, 116]⟩) ∧ Below w.heap.size w w' := by
  go_enter Tryz.func11, Tryz.ntmps11
  go_wp2
  go_ret
  exact ⟨rfl, bel1 (Below.refl _ _) (Nat.le_refl _) _⟩
set_option maxRecDepth 100000 in
set_option maxHeartbeats 2000000 in
theorem rname_37 (w : World) : Calls Tryz.prog 11 #[.int .i64 37] w fun e w' => e = .returned (.string ⟨#[108, 111, 110, 103, 115, 104, 111, 114, 101, 58, 114, 101, 106, 101, 99, 116, 101, 100, 58, 108, 105, 115, 116]⟩) ∧ Below w.heap.size w w' := by
  go_enter Tryz.func11, Tryz.ntmps11
  go_wp2
  go_ret
  exact ⟨rfl, bel1 (Below.refl _ _) (Nat.le_refl _) _⟩
set_option maxRecDepth 100000 in
set_option maxHeartbeats 2000000 in
theorem rname_38 (w : World) : Calls Tryz.prog 11 #[.int .i64 38] w fun e w' => e = .returned (.string ⟨#[108, 111, 110, 103, 115, 104, 111, 114, 101, 58, 114, 101, 108, 101, 97, 115, 101, 100, 58, 108, 105, 115, 116]⟩) ∧ Below w.heap.size w w' := by
  go_enter Tryz.func11, Tryz.ntmps11
  go_wp2
  go_ret
  exact ⟨rfl, bel1 (Below.refl _ _) (Nat.le_refl _) _⟩
set_option maxRecDepth 100000 in
set_option maxHeartbeats 2000000 in
theorem rname_39 (w : World) : Calls Tryz.prog 11 #[.int .i64 39] w fun e w' => e = .returned (.string ⟨#[108, 111, 110, 103, 115, 104, 111, 114, 101, 58, 109, 111, 100, 105, 102, 105, 101, 100, 58, 108, 105, 115, 116]⟩) ∧ Below w.heap.size w w' := by
  go_enter Tryz.func11, Tryz.ntmps11
  go_wp2
  go_ret
  exact ⟨rfl, bel1 (Below.refl _ _) (Nat.le_refl _) _⟩
set_option maxRecDepth 100000 in
set_option maxHeartbeats 2000000 in
theorem rname_40 (w : World) : Calls Tryz.prog 11 #[.int .i64 40] w fun e w' => e = .returned (.string ⟨#[108, 111, 110, 103, 115, 104, 111, 114, 101, 58, 115, 111, 117, 114, 99, 101, 58, 108, 105, 115, 116]⟩) ∧ Below w.heap.size w w' := by
  go_enter Tryz.func11, Tryz.ntmps11
  go_wp2
  go_ret
  exact ⟨rfl, bel1 (Below.refl _ _) (Nat.le_refl _) _⟩
set_option maxRecDepth 100000 in
set_option maxHeartbeats 2000000 in
theorem rname_41 (w : World) : Calls Tryz.prog 11 #[.int .i64 41] w fun e w' => e = .returned (.string ⟨#[108, 111, 110, 103, 115, 104, 111, 114, 101, 58, 116, 97, 114, 103, 101, 116, 58, 108, 105, 115, 116]⟩) ∧ Below w.heap.size w w' := by
  go_enter Tryz.func11, Tryz.ntmps11
  go_wp2
  go_ret
  exact ⟨rfl, bel1 (Below.refl _ _) (Nat.le_refl _) _⟩
set_option maxRecDepth 100000 in
set_option maxHeartbeats 2000000 in
theorem rname_48 (w : World) : Calls Tryz.prog 11 #[.int .i64 48] w fun e w' => e = .returned (.string ⟨#[108, 111, 110, 103, 115, 104, 111, 114, 101, 58, 99, 111, 111, 114, 100, 105, 110, 97, 116, 111, 114, 58, 108, 105, 115, 116]⟩) ∧ Below w.heap.size w w' := by
  go_enter Tryz.func11, Tryz.ntmps11
  go_wp2
  go_ret
  exact ⟨rfl, bel1 (Below.refl _ _) (Nat.le_refl _) _⟩
set_option maxRecDepth 100000 in
set_option maxHeartbeats 2000000 in
theorem rname_49 (w : World) : Calls Tryz.prog 11 #[.int .i64 49] w fun e w' => e = .returned (.string ⟨#[108, 111, 110, 103, 115, 104, 111, 114, 101, 58, 100, 101, 99, 108, 97, 114, 101, 58, 108, 105, 115, 116]⟩) ∧ Below w.heap.size w w' := by
  go_enter Tryz.func11, Tryz.ntmps11
  go_wp2
  go_ret
  exact ⟨rfl, bel1 (Below.refl _ _) (Nat.le_refl _) _⟩
set_option maxRecDepth 100000 in
set_option maxHeartbeats 2000000 in
theorem rname_50 (w : World) : Calls Tryz.prog 11 #[.int .i64 50] w fun e w' => e = .returned (.string ⟨#[108, 111, 110, 103, 115, 104, 111, 114, 101, 58, 100, 105, 115, 99, 104, 97, 114, 103, 101, 58, 108, 105, 115, 116]⟩) ∧ Below w.heap.size w w' := by
  go_enter Tryz.func11, Tryz.ntmps11
  go_wp2
  go_ret
  exact ⟨rfl, bel1 (Below.refl _ _) (Nat.le_refl _) _⟩
set_option maxRecDepth 100000 in
set_option maxHeartbeats 2000000 in
theorem rname_51 (w : World) : Calls Tryz.prog 11 #[.int .i64 51] w fun e w' => e = .returned (.string ⟨#[108, 111, 110, 103, 115, 104, 111, 114, 101, 58, 100, 101, 99, 108, 97, 114, 101, 100, 58, 108, 105, 115, 116]⟩) ∧ Below w.heap.size w w' := by
  go_enter Tryz.func11, Tryz.ntmps11
  go_wp2
  go_ret
  exact ⟨rfl, bel1 (Below.refl _ _) (Nat.le_refl _) _⟩
set_option maxRecDepth 100000 in
set_option maxHeartbeats 2000000 in
theorem rname_52 (w : World) : Calls Tryz.prog 11 #[.int .i64 52] w fun e w' => e = .returned (.string ⟨#[108, 111, 110, 103, 115, 104, 111, 114, 101, 58, 116, 114, 97, 110, 115, 97, 99, 116, 105, 111, 110, 97, 108, 58, 108, 105, 115, 116]⟩) ∧ Below w.heap.size w w' := by
  go_enter Tryz.func11, Tryz.ntmps11
  go_wp2
  go_ret
  exact ⟨rfl, bel1 (Below.refl _ _) (Nat.le_refl _) _⟩
set_option maxRecDepth 100000 in
set_option maxHeartbeats 2000000 in
theorem rname_64 (w : World) : Calls Tryz.prog 11 #[.int .i64 64] w fun e w' => e = .returned (.string ⟨#[108, 111, 110, 103, 115, 104, 111, 114, 101, 58, 109, 101, 99, 104, 97, 110, 105, 115, 109, 115, 58, 108, 105, 115, 116]⟩) ∧ Below w.heap.size w w' := by
  go_enter Tryz.func11, Tryz.ntmps11
  go_wp2
  go_ret
  exact ⟨rfl, bel1 (Below.refl _ _) (Nat.le_refl _) _⟩
set_option maxRecDepth 100000 in
set_option maxHeartbeats 2000000 in
theorem rname_65 (w : World) : Calls Tryz.prog 11 #[.int .i64 65] w fun e w' => e = .returned (.string ⟨#[108, 111, 110, 103, 115, 104, 111, 114, 101, 58, 105, 110, 105, 116, 58, 108, 105, 115, 116]⟩) ∧ Below w.heap.size w w' := by
  go_enter Tryz.func11, Tryz.ntmps11
  go_wp2
  go_ret
  exact ⟨rfl, bel1 (Below.refl _ _) (Nat.le_refl _) _⟩
set_option maxRecDepth 100000 in
set_option maxHeartbeats 2000000 in
theorem rname_66 (w : World) : Calls Tryz.prog 11 #[.int .i64 66] w fun e w' => e = .returned (.string ⟨#[108, 111, 110, 103, 115, 104, 111, 114, 101, 58, 99, 104, 97, 108, 108, 101, 110, 103, 101, 58, 108, 105, 115, 116]⟩) ∧ Below w.heap.size w w' := by
  go_enter Tryz.func11, Tryz.ntmps11
  go_wp2
  go_ret
  exact ⟨rfl, bel1 (Below.refl _ _) (Nat.le_refl _) _⟩
set_option maxRecDepth 100000 in
set_option maxHeartbeats 2000000 in
theorem rname_67 (w : World) : Calls Tryz.prog 11 #[.int .i64 67] w fun e w' => e = .returned (.string ⟨#[108, 111, 110, 103, 115, 104, 111, 114, 101, 58, 114, 101, 115, 112, 111, 110, 115, 101, 58, 108, 105, 115, 116]⟩) ∧ Below w.heap.size w w' := by
  go_enter Tryz.func11, Tryz.ntmps11
  go_wp2
  go_ret
  exact ⟨rfl, bel1 (Below.refl _ _) (Nat.le_refl _) _⟩
set_option maxRecDepth 100000 in
set_option maxHeartbeats 2000000 in
theorem rname_68 (w : World) : Calls Tryz.prog 11 #[.int .i64 68] w fun e w' => e = .returned (.string ⟨#[108, 111, 110, 103, 115, 104, 111, 114, 101, 58, 111, 117, 116, 99, 111, 109, 101, 58, 108, 105, 115, 116]⟩) ∧ Below w.heap.size w w' := by
  go_enter Tryz.func11, Tryz.ntmps11
  go_wp2
  go_ret
  exact ⟨rfl, bel1 (Below.refl _ _) (Nat.le_refl _) _⟩
set_option maxRecDepth 100000 in
set_option maxHeartbeats 2000000 in
theorem rname_112 (w : World) : Calls Tryz.prog 11 #[.int .i64 112] w fun e w' => e = .returned (.string ⟨#[108, 111, 110, 103, 115, 104, 111, 114, 101, 58, 104, 101, 97, 100, 101, 114, 58, 108, 105, 115, 116]⟩) ∧ Below w.heap.size w w' := by
  go_enter Tryz.func11, Tryz.ntmps11
  go_wp2
  go_quiet (fail)
  go_wp2
  go_ret
  exact ⟨rfl, (bel2 (Below.refl _ _) (Nat.le_refl _) _ _).trans ⟨rfl, rfl, rfl, Nat.le_refl _, fun _ _ => rfl⟩⟩
set_option maxRecDepth 100000 in
set_option maxHeartbeats 2000000 in
theorem rname_115 (w : World) : Calls Tryz.prog 11 #[.int .i64 115] w fun e w' => e = .returned (.string ⟨#[108, 111, 110, 103, 115, 104, 111, 114, 101, 58, 112, 114, 111, 112, 101, 114, 116, 105, 101, 115, 58, 108, 105, 115, 116]⟩) ∧ Below w.heap.size w w' := by
  go_enter Tryz.func11, Tryz.ntmps11
  go_wp2
  go_quiet (fail)
  go_wp2
  go_ret
  exact ⟨rfl, (bel2 (Below.refl _ _) (Nat.le_refl _) _ _).trans ⟨rfl, rfl, rfl, Nat.le_refl _, fun _ _ => rfl⟩⟩
set_option maxRecDepth 100000 in
set_option maxHeartbeats 2000000 in
theorem rname_113 (w : World) : Calls Tryz.prog 11 #[.int .i64 113] w fun e w' => e = .returned (.string ⟨#[108, 111, 110, 103, 115, 104, 111, 114, 101, 58, 100, 101, 108, 105, 118, 101, 114, 121, 45, 97, 110, 110, 111, 116, 97, 116, 105, 111, 110, 115, 58, 109, 97, 112]⟩) ∧ Below w.heap.size w w' := by
  go_enter Tryz.func11, Tryz.ntmps11
  go_wp2
  go_quiet (fail)
  go_wp2
  go_ret
  exact ⟨rfl, (bel2 (Below.refl _ _) (Nat.le_refl _) _ _).trans ⟨rfl, rfl, rfl, Nat.le_refl _, fun _ _ => rfl⟩⟩
set_option maxRecDepth 100000 in
set_option maxHeartbeats 2000000 in
theorem rname_114 (w : World) : Calls Tryz.prog 11 #[.int .i64 114] w fun e w' => e = .returned (.string ⟨#[108, 111, 110, 103, 115, 104, 111, 114, 101, 58, 109, 101, 115, 115, 97, 103, 101, 45, 97, 110, 110, 111, 116, 97, 116, 105, 111, 110, 115, 58, 109, 97, 112]⟩) ∧ Below w.heap.size w w' := by
  go_enter Tryz.func11, Tryz.ntmps11
  go_wp2
  go_quiet (fail)
  go_wp2
  go_ret
  exact ⟨rfl, (bel2 (Below.refl _ _) (Nat.le_refl _) _ _).trans ⟨rfl, rfl, rfl, Nat.le_refl _, fun _ _ => rfl⟩⟩
set_option maxRecDepth 100000 in
set_option maxHeartbeats 2000000 in
theorem rname_116 (w : World) : Calls Tryz.prog 11 #[.int .i64 116] w fun e w' => e = .returned (.string ⟨#[108, 111, 110, 103, 115, 104, 111, 114, 101, 58, 97, 112, 112, 108, 105, 99, 97, 116, 105, 111, 110, 45, 112, 114, 111, 112, 101, 114, 116, 105, 101, 115, 58, 109, 97, 112]⟩) ∧ Below w.heap.size w w' := by
  go_enter Tryz.func11, Tryz.ntmps11
  go_wp2
  go_quiet (fail)
  go_wp2
  go_ret
  exact ⟨rfl, (bel2 (Below.refl _ _) (Nat.le_refl _) _ _).trans ⟨rfl, rfl, rfl, Nat.le_refl _, fun _ _ => rfl⟩⟩
set_option maxRecDepth 100000 in
set_option maxHeartbeats 2000000 in
theorem rname_120 (w : World) : Calls Tryz.prog 11 #[.int .i64 120] w fun e w' => e = .returned (.string ⟨#[108, 111, 110, 103, 115, 104, 111, 114, 101, 58, 102, 111, 111, 116, 101, 114, 58, 109, 97, 112]⟩) ∧ Below w.heap.size w w' := by
  go_enter Tryz.func11, Tryz.ntmps11
  go_wp2
  go_quiet (fail)
  go_wp2
  go_ret
  exact ⟨rfl, (bel2 (Below.refl _ _) (Nat.le_refl _) _ _).trans ⟨rfl, rfl, rfl, Nat.le_refl _, fun _ _ => rfl⟩⟩
set_option maxRecDepth 100000 in
set_option maxHeartbeats 2000000 in
theorem rname_117 (w : World) : Calls Tryz.prog 11 #[.int .i64 117] w fun e w' => e = .returned (.string ⟨#[108, 111, 110, 103, 115, 104, 111, 114, 101, 58, 100, 97, 116, 97, 58, 98, 105, 110, 97, 114, 121]⟩) ∧ Below w.heap.size w w' := by
  go_enter Tryz.func11, Tryz.ntmps11
  go_wp2
  go_quiet (fail)
  go_wp2
  go_ret
  exact ⟨rfl, (bel2 (Below.refl _ _) (Nat.le_refl _) _ _).trans ⟨rfl, rfl, rfl, Nat.le_refl _, fun _ _ => rfl⟩⟩
set_option maxRecDepth 100000 in
set_option maxHeartbeats 2000000 in
theorem rname_118 (w : World) : Calls Tryz.prog 11 #[.int .i64 118] w fun e w' => e = .returned (.string ⟨#[108, 111, 110, 103, 115, 104, 111, 114, 101, 58, 115, 101, 113, 117, 101, 110, 99, 101, 58, 108, 105, 115, 116]⟩) ∧ Below w.heap.size w w' := by
  go_enter Tryz.func11, Tryz.ntmps11
  go_wp2
  go_quiet (fail)
  go_wp2
  go_ret
  exact ⟨rfl, (bel2 (Below.refl _ _) (Nat.le_refl _) _ _).trans ⟨rfl, rfl, rfl, Nat.le_refl _, fun _ _ => rfl⟩⟩
set_option maxRecDepth 100000 in
set_option maxHeartbeats 2000000 in
theorem rname_119 (w : World) : Calls Tryz.prog 11 #[.int .i64 119] w fun e w' => e = .returned (.string ⟨#[108, 111, 110, 103, 115, 104, 111, 114, 101, 58, 118, 97, 108, 117, 101, 58, 97, 110, 121]⟩) ∧ Below w.heap.size w w' := by
  go_enter Tryz.func11, Tryz.ntmps11
  go_wp2
  go_quiet (fail)
  go_wp2
  go_ret
  exact ⟨rfl, (bel2 (Below.refl _ _) (Nat.le_refl _) _ _).trans ⟨rfl, rfl, rfl, Nat.le_refl _, fun _ _ => rfl⟩⟩
set_option maxRecDepth 100000 in
set_option maxHeartbeats 4000000 in
theorem rname_no (k : Int) (e : ∀ n ∈ ([16, 17, 18, 19, 20, 21, 22, 23, 24, 29] : List Int), (k == n) = false) (r1 : decide (35 ≤ k) = false ∨ decide (35 ≤ k) = true ∧ decide (k ≤ 41) = false) (r2 : decide (48 ≤ k) = false ∨ decide (48 ≤ k) = true ∧ decide (k ≤ 52) = false) (r3 : decide (64 ≤ k) = false ∨ decide (64 ≤ k) = true ∧ decide (k ≤ 68) = false) (r4 : decide (112 ≤ k) = false ∨ decide (112 ≤ k) = true ∧ decide (k ≤ 120) = false) (w : World) : Calls Tryz.prog 11 #[.int .i64 k] w fun e w' => e = .returned (.string ⟨#[]⟩) ∧ Below w.heap.size w w' := by
  have e16 := e 16 (by simp)
  have e17 := e 17 (by simp)
  have e18 := e 18 (by simp)
  have e19 := e 19 (by simp)
  have e20 := e 20 (by simp)
  have e21 := e 21 (by simp)
  have e22 := e 22 (by simp)
  have e23 := e 23 (by simp)
  have e24 := e 24 (by simp)
  have e29 := e 29 (by simp)
  clear e
  rcases r1 with a1 | ⟨a1, b1⟩
  all_goals
    rcases r2 with a2 | ⟨a2, b2⟩
    all_goals
      rcases r3 with a3 | ⟨a3, b3⟩
      all_goals
        rcases r4 with a4 | ⟨a4, b4⟩
        all_goals
          go_enter Tryz.func11, Tryz.ntmps11
          go_wp2
          go_ret
          exact ⟨rfl, Below.refl _ _⟩
end Go.Proofs.YtgldcchleoklcaaGreatDoor
