/- HRTb -/
import Derived.Test.YtgldcchleoklcaaGreatDoorF35
import Derived.Test.YtgldcchleoklcaaGreatDoorF36
import Derived.Test.YtgldcchleoklcaaGreatDoorF37
import Derived.Test.YtgldcchleoklcaaGreatDoorF38
import Derived.Test.YtgldcchleoklcaaGreatDoorF39
namespace Go.Proofs.YtgldcchleoklcaaGreatDoor
open Go.RowKit
set_option linter.unusedVariables false
set_option linter.unusedSimpArgs false
def RAll (o : Option (List FS)) (W : World) (e : Ending) (w' : World) : Prop := match o with
  | some l => ∃ (a : Option Addr) (c : Nat) (fs : List Fd), e = .returned (.tuple #[.slice a l.length c, .bool true]) ∧ Hid (FieldsIn l W a fs w') ∧ l.length ≤ c ∧ Below W.heap.size W w'
  | none => e = .returned (.tuple #[.slice none 0 0, .bool false]) ∧ Below W.heap.size W w'
set_option maxRecDepth 100000 in
set_option maxHeartbeats 2000000 in
theorem rt_16 (w : World) : Calls Tryz.prog 32 #[.int .i64 16] w (RAll (ftab 16) w) := by
  rw [show ftab 16 = some rs_open from by kernel_rfl]
  have HX := hide (fun W => r_open W)
  go_enter Tryz.func32, Tryz.ntmps32
  go_wp2_with (go_at_call 73; refine Calls.mono (HX.out _) ?_; rintro e w1 ⟨a, c, fs, rfl, h1, h2, h3⟩; have HH := hide (And.intro h2 h3); clear h2 h3)
  go_ret2
  exact ⟨a, c, fs, rfl, h1, HH.out.1, HH.out.2⟩
set_option maxRecDepth 100000 in
set_option maxHeartbeats 2000000 in
theorem rt_17 (w : World) : Calls Tryz.prog 32 #[.int .i64 17] w (RAll (ftab 17) w) := by
  rw [show ftab 17 = some rs_begin from by kernel_rfl]
  have HX := hide (fun W => r_begin W)
  go_enter Tryz.func32, Tryz.ntmps32
  go_wp2_with (go_at_call 74; refine Calls.mono (HX.out _) ?_; rintro e w1 ⟨a, c, fs, rfl, h1, h2, h3⟩; have HH := hide (And.intro h2 h3); clear h2 h3)
  go_ret2
  exact ⟨a, c, fs, rfl, h1, HH.out.1, HH.out.2⟩
set_option maxRecDepth 100000 in
set_option maxHeartbeats 2000000 in
theorem rt_18 (w : World) : Calls Tryz.prog 32 #[.int .i64 18] w (RAll (ftab 18) w) := by
  rw [show ftab 18 = some rs_attach from by kernel_rfl]
  have HX := hide (fun W => r_attach W)
  go_enter Tryz.func32, Tryz.ntmps32
  go_wp2_with (go_at_call 75; refine Calls.mono (HX.out _) ?_; rintro e w1 ⟨a, c, fs, rfl, h1, h2, h3⟩; have HH := hide (And.intro h2 h3); clear h2 h3)
  go_ret2
  exact ⟨a, c, fs, rfl, h1, HH.out.1, HH.out.2⟩
set_option maxRecDepth 100000 in
set_option maxHeartbeats 2000000 in
theorem rt_19 (w : World) : Calls Tryz.prog 32 #[.int .i64 19] w (RAll (ftab 19) w) := by
  rw [show ftab 19 = some rs_flow from by kernel_rfl]
  have HX := hide (fun W => r_flow W)
  go_enter Tryz.func32, Tryz.ntmps32
  go_wp2_with (go_at_call 76; refine Calls.mono (HX.out _) ?_; rintro e w1 ⟨a, c, fs, rfl, h1, h2, h3⟩; have HH := hide (And.intro h2 h3); clear h2 h3)
  go_ret2
  exact ⟨a, c, fs, rfl, h1, HH.out.1, HH.out.2⟩
set_option maxRecDepth 100000 in
set_option maxHeartbeats 2000000 in
theorem rt_20 (w : World) : Calls Tryz.prog 32 #[.int .i64 20] w (RAll (ftab 20) w) := by
  rw [show ftab 20 = some rs_transfer from by kernel_rfl]
  have HX := hide (fun W => r_transfer W)
  go_enter Tryz.func32, Tryz.ntmps32
  go_wp2_with (go_at_call 77; refine Calls.mono (HX.out _) ?_; rintro e w1 ⟨a, c, fs, rfl, h1, h2, h3⟩; have HH := hide (And.intro h2 h3); clear h2 h3)
  go_ret2
  exact ⟨a, c, fs, rfl, h1, HH.out.1, HH.out.2⟩
set_option maxRecDepth 100000 in
set_option maxHeartbeats 2000000 in
theorem rt_21 (w : World) : Calls Tryz.prog 32 #[.int .i64 21] w (RAll (ftab 21) w) := by
  rw [show ftab 21 = some rs_disposition from by kernel_rfl]
  have HX := hide (fun W => r_disposition W)
  go_enter Tryz.func32, Tryz.ntmps32
  go_wp2_with (go_at_call 78; refine Calls.mono (HX.out _) ?_; rintro e w1 ⟨a, c, fs, rfl, h1, h2, h3⟩; have HH := hide (And.intro h2 h3); clear h2 h3)
  go_ret2
  exact ⟨a, c, fs, rfl, h1, HH.out.1, HH.out.2⟩
set_option maxRecDepth 100000 in
set_option maxHeartbeats 2000000 in
theorem rt_22 (w : World) : Calls Tryz.prog 32 #[.int .i64 22] w (RAll (ftab 22) w) := by
  rw [show ftab 22 = some rs_detach from by kernel_rfl]
  have HX := hide (fun W => r_detach W)
  go_enter Tryz.func32, Tryz.ntmps32
  go_wp2_with (go_at_call 79; refine Calls.mono (HX.out _) ?_; rintro e w1 ⟨a, c, fs, rfl, h1, h2, h3⟩; have HH := hide (And.intro h2 h3); clear h2 h3)
  go_ret2
  exact ⟨a, c, fs, rfl, h1, HH.out.1, HH.out.2⟩
set_option maxRecDepth 100000 in
set_option maxHeartbeats 2000000 in
theorem rt_23 (w : World) : Calls Tryz.prog 32 #[.int .i64 23] w (RAll (ftab 23) w) := by
  rw [show ftab 23 = some rs_end from by kernel_rfl]
  have HX := hide (fun W => r_end W)
  go_enter Tryz.func32, Tryz.ntmps32
  go_wp2_with (go_at_call 80; refine Calls.mono (HX.out _) ?_; rintro e w1 ⟨a, c, fs, rfl, h1, h2, h3⟩; have HH := hide (And.intro h2 h3); clear h2 h3)
  go_ret2
  exact ⟨a, c, fs, rfl, h1, HH.out.1, HH.out.2⟩
set_option maxRecDepth 100000 in
set_option maxHeartbeats 2000000 in
theorem rt_24 (w : World) : Calls Tryz.prog 32 #[.int .i64 24] w (RAll (ftab 24) w) := by
  rw [show ftab 24 = some rs_end from by kernel_rfl]
  have HX := hide (fun W => r_end W)
  go_enter Tryz.func32, Tryz.ntmps32
  go_wp2_with (go_at_call 80; refine Calls.mono (HX.out _) ?_; rintro e w1 ⟨a, c, fs, rfl, h1, h2, h3⟩; have HH := hide (And.intro h2 h3); clear h2 h3)
  go_ret2
  exact ⟨a, c, fs, rfl, h1, HH.out.1, HH.out.2⟩
set_option maxRecDepth 100000 in
set_option maxHeartbeats 2000000 in
theorem rt_29 (w : World) : Calls Tryz.prog 32 #[.int .i64 29] w (RAll (ftab 29) w) := by
  rw [show ftab 29 = some rs_fault from by kernel_rfl]
  have HX := hide (fun W => r_fault W)
  go_enter Tryz.func32, Tryz.ntmps32
  go_wp2_with (go_at_call 81; refine Calls.mono (HX.out _) ?_; rintro e w1 ⟨a, c, fs, rfl, h1, h2, h3⟩; have HH := hide (And.intro h2 h3); clear h2 h3)
  go_ret2
  exact ⟨a, c, fs, rfl, h1, HH.out.1, HH.out.2⟩
set_option maxRecDepth 100000 in
set_option maxHeartbeats 2000000 in
theorem rt_35 (w : World) : Calls Tryz.prog 32 #[.int .i64 35] w (RAll (ftab 35) w) := by
  rw [show ftab 35 = some rs_received from by kernel_rfl]
  have HX := hide (fun W => r_received W)
  go_enter Tryz.func32, Tryz.ntmps32
  go_wp2_with (go_at_call 82; refine Calls.mono (HX.out _) ?_; rintro e w1 ⟨a, c, fs, rfl, h1, h2, h3⟩; have HH := hide (And.intro h2 h3); clear h2 h3)
  go_ret2
  exact ⟨a, c, fs, rfl, h1, HH.out.1, HH.out.2⟩
set_option maxRecDepth 100000 in
set_option maxHeartbeats 2000000 in
theorem rt_37 (w : World) : Calls Tryz.prog 32 #[.int .i64 37] w (RAll (ftab 37) w) := by
  rw [show ftab 37 = some rs_rejected from by kernel_rfl]
  have HX := hide (fun W => r_rejected W)
  go_enter Tryz.func32, Tryz.ntmps32
  go_wp2_with (go_at_call 83; refine Calls.mono (HX.out _) ?_; rintro e w1 ⟨a, c, fs, rfl, h1, h2, h3⟩; have HH := hide (And.intro h2 h3); clear h2 h3)
  go_ret2
  exact ⟨a, c, fs, rfl, h1, HH.out.1, HH.out.2⟩
set_option maxRecDepth 100000 in
set_option maxHeartbeats 2000000 in
theorem rt_39 (w : World) : Calls Tryz.prog 32 #[.int .i64 39] w (RAll (ftab 39) w) := by
  rw [show ftab 39 = some rs_modified from by kernel_rfl]
  have HX := hide (fun W => r_modified W)
  go_enter Tryz.func32, Tryz.ntmps32
  go_wp2_with (go_at_call 84; refine Calls.mono (HX.out _) ?_; rintro e w1 ⟨a, c, fs, rfl, h1, h2, h3⟩; have HH := hide (And.intro h2 h3); clear h2 h3)
  go_ret2
  exact ⟨a, c, fs, rfl, h1, HH.out.1, HH.out.2⟩
set_option maxRecDepth 100000 in
set_option maxHeartbeats 2000000 in
theorem rt_40 (w : World) : Calls Tryz.prog 32 #[.int .i64 40] w (RAll (ftab 40) w) := by
  rw [show ftab 40 = some rs_source from by kernel_rfl]
  have HX := hide (fun W => r_source W)
  go_enter Tryz.func32, Tryz.ntmps32
  go_wp2_with (go_at_call 85; refine Calls.mono (HX.out _) ?_; rintro e w1 ⟨a, c, fs, rfl, h1, h2, h3⟩; have HH := hide (And.intro h2 h3); clear h2 h3)
  go_ret2
  exact ⟨a, c, fs, rfl, h1, HH.out.1, HH.out.2⟩
set_option maxRecDepth 100000 in
set_option maxHeartbeats 2000000 in
theorem rt_41 (w : World) : Calls Tryz.prog 32 #[.int .i64 41] w (RAll (ftab 41) w) := by
  rw [show ftab 41 = some rs_target from by kernel_rfl]
  have HX := hide (fun W => r_target W)
  go_enter Tryz.func32, Tryz.ntmps32
  go_wp2_with (go_at_call 86; refine Calls.mono (HX.out _) ?_; rintro e w1 ⟨a, c, fs, rfl, h1, h2, h3⟩; have HH := hide (And.intro h2 h3); clear h2 h3)
  go_ret2
  exact ⟨a, c, fs, rfl, h1, HH.out.1, HH.out.2⟩
set_option maxRecDepth 100000 in
set_option maxHeartbeats 2000000 in
theorem rt_48 (w : World) : Calls Tryz.prog 32 #[.int .i64 48] w (RAll (ftab 48) w) := by
  rw [show ftab 48 = some rs_coordinator from by kernel_rfl]
  have HX := hide (fun W => r_coordinator W)
  go_enter Tryz.func32, Tryz.ntmps32
  go_wp2_with (go_at_call 87; refine Calls.mono (HX.out _) ?_; rintro e w1 ⟨a, c, fs, rfl, h1, h2, h3⟩; have HH := hide (And.intro h2 h3); clear h2 h3)
  go_ret2
  exact ⟨a, c, fs, rfl, h1, HH.out.1, HH.out.2⟩
set_option maxRecDepth 100000 in
set_option maxHeartbeats 2000000 in
theorem rt_50 (w : World) : Calls Tryz.prog 32 #[.int .i64 50] w (RAll (ftab 50) w) := by
  rw [show ftab 50 = some rs_discharge from by kernel_rfl]
  have HX := hide (fun W => r_discharge W)
  go_enter Tryz.func32, Tryz.ntmps32
  go_wp2_with (go_at_call 88; refine Calls.mono (HX.out _) ?_; rintro e w1 ⟨a, c, fs, rfl, h1, h2, h3⟩; have HH := hide (And.intro h2 h3); clear h2 h3)
  go_ret2
  exact ⟨a, c, fs, rfl, h1, HH.out.1, HH.out.2⟩
set_option maxRecDepth 100000 in
set_option maxHeartbeats 2000000 in
theorem rt_51 (w : World) : Calls Tryz.prog 32 #[.int .i64 51] w (RAll (ftab 51) w) := by
  rw [show ftab 51 = some rs_declared from by kernel_rfl]
  have HX := hide (fun W => r_declared W)
  go_enter Tryz.func32, Tryz.ntmps32
  go_wp2_with (go_at_call 89; refine Calls.mono (HX.out _) ?_; rintro e w1 ⟨a, c, fs, rfl, h1, h2, h3⟩; have HH := hide (And.intro h2 h3); clear h2 h3)
  go_ret2
  exact ⟨a, c, fs, rfl, h1, HH.out.1, HH.out.2⟩
set_option maxRecDepth 100000 in
set_option maxHeartbeats 2000000 in
theorem rt_52 (w : World) : Calls Tryz.prog 32 #[.int .i64 52] w (RAll (ftab 52) w) := by
  rw [show ftab 52 = some rs_transactional from by kernel_rfl]
  have HX := hide (fun W => r_transactional W)
  go_enter Tryz.func32, Tryz.ntmps32
  go_wp2_with (go_at_call 90; refine Calls.mono (HX.out _) ?_; rintro e w1 ⟨a, c, fs, rfl, h1, h2, h3⟩; have HH := hide (And.intro h2 h3); clear h2 h3)
  go_ret2
  exact ⟨a, c, fs, rfl, h1, HH.out.1, HH.out.2⟩
set_option maxRecDepth 100000 in
set_option maxHeartbeats 2000000 in
theorem rt_64 (w : World) : Calls Tryz.prog 32 #[.int .i64 64] w (RAll (ftab 64) w) := by
  rw [show ftab 64 = some rs_mechanisms from by kernel_rfl]
  have HX := hide (fun W => r_mechanisms W)
  go_enter Tryz.func32, Tryz.ntmps32
  go_wp2_with (go_at_call 91; refine Calls.mono (HX.out _) ?_; rintro e w1 ⟨a, c, fs, rfl, h1, h2, h3⟩; have HH := hide (And.intro h2 h3); clear h2 h3)
  go_ret2
  exact ⟨a, c, fs, rfl, h1, HH.out.1, HH.out.2⟩
set_option maxRecDepth 100000 in
set_option maxHeartbeats 2000000 in
theorem rt_65 (w : World) : Calls Tryz.prog 32 #[.int .i64 65] w (RAll (ftab 65) w) := by
  rw [show ftab 65 = some rs_initial from by kernel_rfl]
  have HX := hide (fun W => r_initial W)
  go_enter Tryz.func32, Tryz.ntmps32
  go_wp2_with (go_at_call 92; refine Calls.mono (HX.out _) ?_; rintro e w1 ⟨a, c, fs, rfl, h1, h2, h3⟩; have HH := hide (And.intro h2 h3); clear h2 h3)
  go_ret2
  exact ⟨a, c, fs, rfl, h1, HH.out.1, HH.out.2⟩
set_option maxRecDepth 100000 in
set_option maxHeartbeats 2000000 in
theorem rt_66 (w : World) : Calls Tryz.prog 32 #[.int .i64 66] w (RAll (ftab 66) w) := by
  rw [show ftab 66 = some rs_challenge from by kernel_rfl]
  have HX := hide (fun W => r_challenge W)
  go_enter Tryz.func32, Tryz.ntmps32
  go_wp2_with (go_at_call 93; refine Calls.mono (HX.out _) ?_; rintro e w1 ⟨a, c, fs, rfl, h1, h2, h3⟩; have HH := hide (And.intro h2 h3); clear h2 h3)
  go_ret2
  exact ⟨a, c, fs, rfl, h1, HH.out.1, HH.out.2⟩
set_option maxRecDepth 100000 in
set_option maxHeartbeats 2000000 in
theorem rt_67 (w : World) : Calls Tryz.prog 32 #[.int .i64 67] w (RAll (ftab 67) w) := by
  rw [show ftab 67 = some rs_response from by kernel_rfl]
  have HX := hide (fun W => r_response W)
  go_enter Tryz.func32, Tryz.ntmps32
  go_wp2_with (go_at_call 94; refine Calls.mono (HX.out _) ?_; rintro e w1 ⟨a, c, fs, rfl, h1, h2, h3⟩; have HH := hide (And.intro h2 h3); clear h2 h3)
  go_ret2
  exact ⟨a, c, fs, rfl, h1, HH.out.1, HH.out.2⟩
set_option maxRecDepth 100000 in
set_option maxHeartbeats 2000000 in
theorem rt_68 (w : World) : Calls Tryz.prog 32 #[.int .i64 68] w (RAll (ftab 68) w) := by
  rw [show ftab 68 = some rs_outcome from by kernel_rfl]
  have HX := hide (fun W => r_outcome W)
  go_enter Tryz.func32, Tryz.ntmps32
  go_wp2_with (go_at_call 95; refine Calls.mono (HX.out _) ?_; rintro e w1 ⟨a, c, fs, rfl, h1, h2, h3⟩; have HH := hide (And.intro h2 h3); clear h2 h3)
  go_ret2
  exact ⟨a, c, fs, rfl, h1, HH.out.1, HH.out.2⟩
set_option maxRecDepth 100000 in
set_option maxHeartbeats 2000000 in
theorem rt_112 (w : World) : Calls Tryz.prog 32 #[.int .i64 112] w (RAll (ftab 112) w) := by
  rw [show ftab 112 = some rs_header from by kernel_rfl]
  have HX := hide (fun W => r_header W)
  go_enter Tryz.func32, Tryz.ntmps32
  go_wp2_with (go_at_call 96; refine Calls.mono (HX.out _) ?_; rintro e w1 ⟨a, c, fs, rfl, h1, h2, h3⟩; have HH := hide (And.intro h2 h3); clear h2 h3)
  go_ret2
  exact ⟨a, c, fs, rfl, h1, HH.out.1, HH.out.2⟩
set_option maxRecDepth 100000 in
set_option maxHeartbeats 2000000 in
theorem rt_115 (w : World) : Calls Tryz.prog 32 #[.int .i64 115] w (RAll (ftab 115) w) := by
  rw [show ftab 115 = some rs_properties from by kernel_rfl]
  have HX := hide (fun W => r_properties W)
  go_enter Tryz.func32, Tryz.ntmps32
  go_wp2_with (go_at_call 97; refine Calls.mono (HX.out _) ?_; rintro e w1 ⟨a, c, fs, rfl, h1, h2, h3⟩; have HH := hide (And.intro h2 h3); clear h2 h3)
  go_ret2
  exact ⟨a, c, fs, rfl, h1, HH.out.1, HH.out.2⟩
set_option maxRecDepth 100000 in
set_option maxHeartbeats 2000000 in
theorem rt_36 (w : World) : Calls Tryz.prog 32 #[.int .i64 36] w (RAll (ftab 36) w) := by
  rw [show ftab 36 = some [] from by kernel_rfl]
  go_enter Tryz.func32, Tryz.ntmps32
  go_wp2_with fail
  go_ret2
  exact ⟨none, 0, [], rfl, ⟨rfl, fun h => absurd h (by simp), fun i h => absurd h (by simp)⟩, Nat.le_refl _, Below.refl _ _⟩
set_option maxRecDepth 100000 in
set_option maxHeartbeats 2000000 in
theorem rt_38 (w : World) : Calls Tryz.prog 32 #[.int .i64 38] w (RAll (ftab 38) w) := by
  rw [show ftab 38 = some [] from by kernel_rfl]
  go_enter Tryz.func32, Tryz.ntmps32
  go_wp2_with fail
  go_ret2
  exact ⟨none, 0, [], rfl, ⟨rfl, fun h => absurd h (by simp), fun i h => absurd h (by simp)⟩, Nat.le_refl _, Below.refl _ _⟩
set_option maxRecDepth 100000 in
set_option maxHeartbeats 2000000 in
theorem rt_49 (w : World) : Calls Tryz.prog 32 #[.int .i64 49] w (RAll (ftab 49) w) := by
  rw [show ftab 49 = some [] from by kernel_rfl]
  go_enter Tryz.func32, Tryz.ntmps32
  go_wp2_with fail
  go_ret2
  exact ⟨none, 0, [], rfl, ⟨rfl, fun h => absurd h (by simp), fun i h => absurd h (by simp)⟩, Nat.le_refl _, Below.refl _ _⟩
theorem ftab_no {kind : Int} (h : ∀ k ∈ [16, 17, 18, 19, 20, 21, 22, 23, 24, 29, 35, 37, 39, 40, 41, 48, 50, 51, 52, 64, 65, 66, 67, 68, 112, 115, 36, 38, 49], kind ≠ k) : ftab kind = none := by
  cases hf : ftab kind with
  | none => rfl
  | some fs =>
    exfalso
    unfold ftab at hf
    cases hq : ftabL.find? (fun p => p.1 == kind) with
    | none => rw [hq] at hf; cases hf
    | some p =>
      rw [hq] at hf
      have hk : p.1 = kind := by simpa using List.find?_some hq
      have h1 : ftabL.all (fun p => p.2.isNone || ([16, 17, 18, 19, 20, 21, 22, 23, 24, 29, 35, 37, 39, 40, 41, 48, 50, 51, 52, 64, 65, 66, 67, 68, 112, 115, 36, 38, 49] : List Int).contains p.1) = true := by kernel_rfl
      have h2 := List.all_eq_true.1 h1 p (List.mem_of_find?_eq_some hq)
      have h3 : p.2.isNone = false := by
        have h4 : p.2 = some fs := hf
        rw [h4]
        rfl
      rw [h3, Bool.false_or, hk] at h2
      exact h kind (by simpa using h2) rfl
set_option maxRecDepth 100000 in
set_option maxHeartbeats 8000000 in
theorem rtable_any (kind : Int) (w : World) : Calls Tryz.prog 32 #[.int .i64 kind] w (RAll (ftab kind) w) := by
  by_cases h16 : kind = 16
  · subst h16; exact rt_16 w
  by_cases h17 : kind = 17
  · subst h17; exact rt_17 w
  by_cases h18 : kind = 18
  · subst h18; exact rt_18 w
  by_cases h19 : kind = 19
  · subst h19; exact rt_19 w
  by_cases h20 : kind = 20
  · subst h20; exact rt_20 w
  by_cases h21 : kind = 21
  · subst h21; exact rt_21 w
  by_cases h22 : kind = 22
  · subst h22; exact rt_22 w
  by_cases h23 : kind = 23
  · subst h23; exact rt_23 w
  by_cases h24 : kind = 24
  · subst h24; exact rt_24 w
  by_cases h29 : kind = 29
  · subst h29; exact rt_29 w
  by_cases h35 : kind = 35
  · subst h35; exact rt_35 w
  by_cases h37 : kind = 37
  · subst h37; exact rt_37 w
  by_cases h39 : kind = 39
  · subst h39; exact rt_39 w
  by_cases h40 : kind = 40
  · subst h40; exact rt_40 w
  by_cases h41 : kind = 41
  · subst h41; exact rt_41 w
  by_cases h48 : kind = 48
  · subst h48; exact rt_48 w
  by_cases h50 : kind = 50
  · subst h50; exact rt_50 w
  by_cases h51 : kind = 51
  · subst h51; exact rt_51 w
  by_cases h52 : kind = 52
  · subst h52; exact rt_52 w
  by_cases h64 : kind = 64
  · subst h64; exact rt_64 w
  by_cases h65 : kind = 65
  · subst h65; exact rt_65 w
  by_cases h66 : kind = 66
  · subst h66; exact rt_66 w
  by_cases h67 : kind = 67
  · subst h67; exact rt_67 w
  by_cases h68 : kind = 68
  · subst h68; exact rt_68 w
  by_cases h112 : kind = 112
  · subst h112; exact rt_112 w
  by_cases h115 : kind = 115
  · subst h115; exact rt_115 w
  by_cases h36 : kind = 36
  · subst h36; exact rt_36 w
  by_cases h38 : kind = 38
  · subst h38; exact rt_38 w
  by_cases h49 : kind = 49
  · subst h49; exact rt_49 w
  rw [ftab_no (kind := kind) (fun k hk => by
    simp only [List.mem_cons, List.not_mem_nil, or_false] at hk
    rcases hk with rfl | rfl | rfl | rfl | rfl | rfl | rfl | rfl | rfl | rfl | rfl | rfl | rfl | rfl | rfl | rfl | rfl | rfl | rfl | rfl | rfl | rfl | rfl | rfl | rfl | rfl | rfl | rfl | rfl <;> assumption)]
  have b16 : (kind == 16) = false := by simpa using h16
  have b17 : (kind == 17) = false := by simpa using h17
  have b18 : (kind == 18) = false := by simpa using h18
  have b19 : (kind == 19) = false := by simpa using h19
  have b20 : (kind == 20) = false := by simpa using h20
  have b21 : (kind == 21) = false := by simpa using h21
  have b22 : (kind == 22) = false := by simpa using h22
  have b23 : (kind == 23) = false := by simpa using h23
  have b24 : (kind == 24) = false := by simpa using h24
  have b29 : (kind == 29) = false := by simpa using h29
  have b35 : (kind == 35) = false := by simpa using h35
  have b37 : (kind == 37) = false := by simpa using h37
  have b39 : (kind == 39) = false := by simpa using h39
  have b40 : (kind == 40) = false := by simpa using h40
  have b41 : (kind == 41) = false := by simpa using h41
  have b48 : (kind == 48) = false := by simpa using h48
  have b50 : (kind == 50) = false := by simpa using h50
  have b51 : (kind == 51) = false := by simpa using h51
  have b52 : (kind == 52) = false := by simpa using h52
  have b64 : (kind == 64) = false := by simpa using h64
  have b65 : (kind == 65) = false := by simpa using h65
  have b66 : (kind == 66) = false := by simpa using h66
  have b67 : (kind == 67) = false := by simpa using h67
  have b68 : (kind == 68) = false := by simpa using h68
  have b112 : (kind == 112) = false := by simpa using h112
  have b115 : (kind == 115) = false := by simpa using h115
  have b36 : (kind == 36) = false := by simpa using h36
  have b38 : (kind == 38) = false := by simpa using h38
  have b49 : (kind == 49) = false := by simpa using h49
  clear h16 h17 h18 h19 h20 h21 h22 h23 h24 h29 h35 h37 h39 h40 h41 h48 h50 h51 h52 h64 h65 h66 h67 h68 h112 h115 h36 h38 h49
  go_enter Tryz.func32, Tryz.ntmps32
  go_wp2_with fail
  go_ret2
  exact ⟨rfl, Below.refl _ _⟩
set_option maxRecDepth 100000 in
theorem rfields_any (kind : Int) (w : World) : Calls Tryz.prog 9 #[.int .i64 kind] w (RAll (ftab kind) w) := by
  have HX := hide (rtable_any kind w)
  cases hf : ftab kind with
  | none =>
    rw [hf] at HX
    go_enter Tryz.func9, Tryz.ntmps9
    go_wp2_with (go_at_call 32; refine Calls.mono HX.out ?_; rintro e w1 ⟨rfl, h3⟩)
    go_ret2
    exact ⟨rfl, h3⟩
  | some l =>
    rw [hf] at HX
    go_enter Tryz.func9, Tryz.ntmps9
    go_wp2_with (go_at_call 32; refine Calls.mono HX.out ?_; rintro e w1 ⟨a, c, fs, rfl, h1, h2, h3⟩; have HH := hide (And.intro h2 h3); clear h2 h3)
    go_ret2
    exact ⟨a, c, fs, rfl, h1, HH.out.1, HH.out.2⟩
end Go.Proofs.YtgldcchleoklcaaGreatDoor
