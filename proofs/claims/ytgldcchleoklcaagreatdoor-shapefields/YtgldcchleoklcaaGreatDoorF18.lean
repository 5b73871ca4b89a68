/- HGTd, HGT -/
import Derived.Test.YtgldcchleoklcaaGreatDoorF14
import Derived.Test.YtgldcchleoklcaaGreatDoorF15
import Derived.Test.YtgldcchleoklcaaGreatDoorF16
import Derived.Test.YtgldcchleoklcaaGreatDoorF17
namespace Go.Proofs.YtgldcchleoklcaaGreatDoor
open Go.RowKit
set_option linter.unusedVariables false
set_option linter.unusedSimpArgs false
def fs_transferFields : List FS := [⟨⟨#[104, 97, 110, 100, 108, 101]⟩, 4, [], true, 0, 0, ⟨#[]⟩⟩, ⟨⟨#[105, 100]⟩, 4, [], false, 0, 0, ⟨#[]⟩⟩, ⟨⟨#[116, 97, 103]⟩, 18, [], false, 0, 0, ⟨#[]⟩⟩, ⟨⟨#[102, 111, 114, 109, 97, 116]⟩, 4, [], false, 0, 0, ⟨#[]⟩⟩, ⟨⟨#[115, 101, 116, 116, 108, 101, 100]⟩, 1, [], false, 0, 0, ⟨#[]⟩⟩, ⟨⟨#[109, 111, 114, 101]⟩, 1, [], false, 1, 0, ⟨#[]⟩⟩, ⟨⟨#[115, 116, 97, 116, 101]⟩, 102, [35, 36, 37, 38, 39, 51, 52], false, 0, 0, ⟨#[]⟩⟩, ⟨⟨#[114, 101, 115, 117, 109, 101]⟩, 1, [], false, 1, 0, ⟨#[]⟩⟩, ⟨⟨#[97, 98, 111, 114, 116, 101, 100]⟩, 1, [], false, 1, 0, ⟨#[]⟩⟩, ⟨⟨#[98, 97, 116, 99, 104, 97, 98, 108, 101]⟩, 1, [], false, 1, 0, ⟨#[]⟩⟩]
set_option maxRecDepth 100000 in
set_option maxHeartbeats 8000000 in
theorem transferFields_row (w : World) : Calls Tryz.prog 52 #[] w (FieldsRow fs_transferFields w) := by
  have HC_states := hide (fun W => states_any W)
  go_enter Tryz.func52, Tryz.ntmps52
  go_wp2_with fail
  refine (HC_states.out _).mono ?_
  rintro e1 w1 ⟨rfl, rfl⟩
  go_wp2
  go_ret
  refine ⟨some ⟨w.heap.size + 1, 0, none⟩, [⟨⟨#[104, 97, 110, 100, 108, 101]⟩, 4, none, 0, 0, true, leaf 0 0 ⟨#[]⟩⟩, ⟨⟨#[105, 100]⟩, 4, none, 0, 0, false, leaf 0 0 ⟨#[]⟩⟩, ⟨⟨#[116, 97, 103]⟩, 18, none, 0, 0, false, leaf 0 0 ⟨#[]⟩⟩, ⟨⟨#[102, 111, 114, 109, 97, 116]⟩, 4, none, 0, 0, false, leaf 0 0 ⟨#[]⟩⟩, ⟨⟨#[115, 101, 116, 116, 108, 101, 100]⟩, 1, none, 0, 0, false, leaf 0 0 ⟨#[]⟩⟩, ⟨⟨#[109, 111, 114, 101]⟩, 1, none, 0, 0, false, leaf 1 0 ⟨#[]⟩⟩, ⟨⟨#[115, 116, 97, 116, 101]⟩, 102, some ⟨w.heap.size, 0, none⟩, 7, 7, false, leaf 0 0 ⟨#[]⟩⟩, ⟨⟨#[114, 101, 115, 117, 109, 101]⟩, 1, none, 0, 0, false, leaf 1 0 ⟨#[]⟩⟩, ⟨⟨#[97, 98, 111, 114, 116, 101, 100]⟩, 1, none, 0, 0, false, leaf 1 0 ⟨#[]⟩⟩, ⟨⟨#[98, 97, 116, 99, 104, 97, 98, 108, 101]⟩, 1, none, 0, 0, false, leaf 1 0 ⟨#[]⟩⟩], rfl, ⟨rfl, fun _ => ⟨_, rfl, by omega, by simp, ?_⟩, ?_⟩, ?_⟩
  · exact FRow.flat (heap_at1 _ _ _) rfl
  · intro i h h'
    have h3 : i < 10 := h
    obtain rfl | rfl | rfl | rfl | rfl | rfl | rfl | rfl | rfl | rfl : i = 0 ∨ i = 1 ∨ i = 2 ∨ i = 3 ∨ i = 4 ∨ i = 5 ∨ i = 6 ∨ i = 7 ∨ i = 8 ∨ i = 9 := by omega
    · exact ⟨rfl, rfl, rfl, rfl, rfl, rfl, fun h => absurd h (Nat.lt_irrefl 0)⟩
    · exact ⟨rfl, rfl, rfl, rfl, rfl, rfl, fun h => absurd h (Nat.lt_irrefl 0)⟩
    · exact ⟨rfl, rfl, rfl, rfl, rfl, rfl, fun h => absurd h (Nat.lt_irrefl 0)⟩
    · exact ⟨rfl, rfl, rfl, rfl, rfl, rfl, fun h => absurd h (Nat.lt_irrefl 0)⟩
    · exact ⟨rfl, rfl, rfl, rfl, rfl, rfl, fun h => absurd h (Nat.lt_irrefl 0)⟩
    · exact ⟨rfl, rfl, rfl, rfl, rfl, rfl, fun h => absurd h (Nat.lt_irrefl 0)⟩
    · exact ⟨rfl, rfl, rfl, rfl, rfl, rfl, fun _ => ⟨_, rfl, by omega, (by first | (simp; done) | (simp; omega)), heap_past (World.alloc_heap_new _ _) _⟩⟩
    · exact ⟨rfl, rfl, rfl, rfl, rfl, rfl, fun h => absurd h (Nat.lt_irrefl 0)⟩
    · exact ⟨rfl, rfl, rfl, rfl, rfl, rfl, fun h => absurd h (Nat.lt_irrefl 0)⟩
    · exact ⟨rfl, rfl, rfl, rfl, rfl, rfl, fun h => absurd h (Nat.lt_irrefl 0)⟩
  · exact bel2 (Below.refl _ _) (Nat.le_refl _) _ _
def fs_onlyFault : List FS := [⟨⟨#[102, 97, 117, 108, 116]⟩, 102, [29], false, 0, 0, ⟨#[]⟩⟩]
set_option maxRecDepth 100000 in
set_option maxHeartbeats 8000000 in
theorem onlyFault_row (w : World) : Calls Tryz.prog 55 #[] w (FieldsRow fs_onlyFault w) := by
  go_enter Tryz.func55, Tryz.ntmps55
  go_wp2
  go_ret
  refine ⟨some ⟨w.heap.size + 1, 0, none⟩, [⟨⟨#[102, 97, 117, 108, 116]⟩, 102, some ⟨w.heap.size, 0, none⟩, 1, 1, false, leaf 0 0 ⟨#[]⟩⟩], rfl, ⟨rfl, fun _ => ⟨_, rfl, by omega, by simp, ?_⟩, ?_⟩, ?_⟩
  · exact FRow.flat (heap_at1 _ _ _) rfl
  · intro i h h'
    have h3 : i < 1 := h
    obtain rfl : i = 0 := by omega
    · exact ⟨rfl, rfl, rfl, rfl, rfl, rfl, fun _ => ⟨_, rfl, by omega, (by first | (simp; done) | (simp; omega)), heap_past (World.alloc_heap_new _ _) _⟩⟩
  · exact bel2 (Below.refl _ _) (Nat.le_refl _) _ _
def fs_faultFields : List FS := [⟨⟨#[99, 111, 110, 100]⟩, 20, [], true, 0, 0, ⟨#[]⟩⟩, ⟨⟨#[116, 101, 120, 116]⟩, 19, [], false, 0, 0, ⟨#[]⟩⟩, ⟨⟨#[105, 110, 102, 111]⟩, 22, [], false, 0, 0, ⟨#[]⟩⟩]
set_option maxRecDepth 100000 in
set_option maxHeartbeats 8000000 in
theorem faultFields_row (w : World) : Calls Tryz.prog 56 #[] w (FieldsRow fs_faultFields w) := by
  go_enter Tryz.func56, Tryz.ntmps56
  go_wp2
  go_ret
  refine ⟨some ⟨w.heap.size, 0, none⟩, [⟨⟨#[99, 111, 110, 100]⟩, 20, none, 0, 0, true, leaf 0 0 ⟨#[]⟩⟩, ⟨⟨#[116, 101, 120, 116]⟩, 19, none, 0, 0, false, leaf 0 0 ⟨#[]⟩⟩, ⟨⟨#[105, 110, 102, 111]⟩, 22, none, 0, 0, false, leaf 0 0 ⟨#[]⟩⟩], rfl, ⟨rfl, fun _ => ⟨_, rfl, by omega, by simp, ?_⟩, ?_⟩, ?_⟩
  · exact FRow.flat (World.alloc_heap_new _ _) rfl
  · intro i h h'
    have h3 : i < 3 := h
    obtain rfl | rfl | rfl : i = 0 ∨ i = 1 ∨ i = 2 := by omega
    · exact ⟨rfl, rfl, rfl, rfl, rfl, rfl, fun h => absurd h (Nat.lt_irrefl 0)⟩
    · exact ⟨rfl, rfl, rfl, rfl, rfl, rfl, fun h => absurd h (Nat.lt_irrefl 0)⟩
    · exact ⟨rfl, rfl, rfl, rfl, rfl, rfl, fun h => absurd h (Nat.lt_irrefl 0)⟩
  · exact bel1 (Below.refl _ _) (Nat.le_refl _) _
def fs_sourceFields : List FS := [⟨⟨#[97, 100, 100, 114, 101, 115, 115]⟩, 19, [], false, 0, 0, ⟨#[]⟩⟩, ⟨⟨#[100, 117, 114, 97, 98, 108, 101]⟩, 4, [], false, 4, 0, ⟨#[]⟩⟩, ⟨⟨#[101, 120, 112, 105, 114, 121]⟩, 20, [], false, 20, 0, ⟨#[115, 101, 115, 115, 105, 111, 110, 45, 101, 110, 100]⟩⟩, ⟨⟨#[116, 105, 109, 101, 111, 117, 116]⟩, 4, [], false, 4, 0, ⟨#[]⟩⟩, ⟨⟨#[100, 121, 110, 97, 109, 105, 99]⟩, 1, [], false, 1, 0, ⟨#[]⟩⟩, ⟨⟨#[109, 111, 100, 101]⟩, 20, [], false, 0, 0, ⟨#[]⟩⟩, ⟨⟨#[102, 105, 108, 116, 101, 114]⟩, 19, [], false, 0, 0, ⟨#[]⟩⟩, ⟨⟨#[100, 101, 102, 97, 117, 108, 116]⟩, 102, [36, 37, 38, 39], false, 0, 0, ⟨#[]⟩⟩, ⟨⟨#[111, 117, 116, 99, 111, 109, 101, 115]⟩, 101, [], false, 0, 0, ⟨#[]⟩⟩, ⟨⟨#[99, 97, 112, 115]⟩, 101, [], false, 0, 0, ⟨#[]⟩⟩]
set_option maxRecDepth 100000 in
set_option maxHeartbeats 8000000 in
theorem sourceFields_row (w : World) : Calls Tryz.prog 60 #[] w (FieldsRow fs_sourceFields w) := by
  have HC_outcomes := hide (fun W => outcomes_any W)
  go_enter Tryz.func60, Tryz.ntmps60
  go_wp2_with fail
  refine (HC_outcomes.out _).mono ?_
  rintro e1 w1 ⟨rfl, rfl⟩
  go_wp2
  go_ret
  refine ⟨some ⟨w.heap.size + 1, 0, none⟩, [⟨⟨#[97, 100, 100, 114, 101, 115, 115]⟩, 19, none, 0, 0, false, leaf 0 0 ⟨#[]⟩⟩, ⟨⟨#[100, 117, 114, 97, 98, 108, 101]⟩, 4, none, 0, 0, false, leaf 4 0 ⟨#[]⟩⟩, ⟨⟨#[101, 120, 112, 105, 114, 121]⟩, 20, none, 0, 0, false, leaf 20 0 ⟨#[115, 101, 115, 115, 105, 111, 110, 45, 101, 110, 100]⟩⟩, ⟨⟨#[116, 105, 109, 101, 111, 117, 116]⟩, 4, none, 0, 0, false, leaf 4 0 ⟨#[]⟩⟩, ⟨⟨#[100, 121, 110, 97, 109, 105, 99]⟩, 1, none, 0, 0, false, leaf 1 0 ⟨#[]⟩⟩, ⟨⟨#[109, 111, 100, 101]⟩, 20, none, 0, 0, false, leaf 0 0 ⟨#[]⟩⟩, ⟨⟨#[102, 105, 108, 116, 101, 114]⟩, 19, none, 0, 0, false, leaf 0 0 ⟨#[]⟩⟩, ⟨⟨#[100, 101, 102, 97, 117, 108, 116]⟩, 102, some ⟨w.heap.size, 0, none⟩, 4, 4, false, leaf 0 0 ⟨#[]⟩⟩, ⟨⟨#[111, 117, 116, 99, 111, 109, 101, 115]⟩, 101, none, 0, 0, false, leaf 0 0 ⟨#[]⟩⟩, ⟨⟨#[99, 97, 112, 115]⟩, 101, none, 0, 0, false, leaf 0 0 ⟨#[]⟩⟩], rfl, ⟨rfl, fun _ => ⟨_, rfl, by omega, by simp, ?_⟩, ?_⟩, ?_⟩
  · exact FRow.flat (heap_at1 _ _ _) rfl
  · intro i h h'
    have h3 : i < 10 := h
    obtain rfl | rfl | rfl | rfl | rfl | rfl | rfl | rfl | rfl | rfl : i = 0 ∨ i = 1 ∨ i = 2 ∨ i = 3 ∨ i = 4 ∨ i = 5 ∨ i = 6 ∨ i = 7 ∨ i = 8 ∨ i = 9 := by omega
    · exact ⟨rfl, rfl, rfl, rfl, rfl, rfl, fun h => absurd h (Nat.lt_irrefl 0)⟩
    · exact ⟨rfl, rfl, rfl, rfl, rfl, rfl, fun h => absurd h (Nat.lt_irrefl 0)⟩
    · exact ⟨rfl, rfl, rfl, rfl, rfl, rfl, fun h => absurd h (Nat.lt_irrefl 0)⟩
    · exact ⟨rfl, rfl, rfl, rfl, rfl, rfl, fun h => absurd h (Nat.lt_irrefl 0)⟩
    · exact ⟨rfl, rfl, rfl, rfl, rfl, rfl, fun h => absurd h (Nat.lt_irrefl 0)⟩
    · exact ⟨rfl, rfl, rfl, rfl, rfl, rfl, fun h => absurd h (Nat.lt_irrefl 0)⟩
    · exact ⟨rfl, rfl, rfl, rfl, rfl, rfl, fun h => absurd h (Nat.lt_irrefl 0)⟩
    · exact ⟨rfl, rfl, rfl, rfl, rfl, rfl, fun _ => ⟨_, rfl, by omega, (by first | (simp; done) | (simp; omega)), heap_past (World.alloc_heap_new _ _) _⟩⟩
    · exact ⟨rfl, rfl, rfl, rfl, rfl, rfl, fun h => absurd h (Nat.lt_irrefl 0)⟩
    · exact ⟨rfl, rfl, rfl, rfl, rfl, rfl, fun h => absurd h (Nat.lt_irrefl 0)⟩
  · exact bel2 (Below.refl _ _) (Nat.le_refl _) _ _
def fs_dischargeFields : List FS := [⟨⟨#[116, 120, 110]⟩, 18, [], true, 0, 0, ⟨#[]⟩⟩, ⟨⟨#[102, 97, 105, 108]⟩, 1, [], false, 1, 0, ⟨#[]⟩⟩]
set_option maxRecDepth 100000 in
set_option maxHeartbeats 8000000 in
theorem dischargeFields_row (w : World) : Calls Tryz.prog 63 #[] w (FieldsRow fs_dischargeFields w) := by
  go_enter Tryz.func63, Tryz.ntmps63
  go_wp2
  go_ret
  refine ⟨some ⟨w.heap.size, 0, none⟩, [⟨⟨#[116, 120, 110]⟩, 18, none, 0, 0, true, leaf 0 0 ⟨#[]⟩⟩, ⟨⟨#[102, 97, 105, 108]⟩, 1, none, 0, 0, false, leaf 1 0 ⟨#[]⟩⟩], rfl, ⟨rfl, fun _ => ⟨_, rfl, by omega, by simp, ?_⟩, ?_⟩, ?_⟩
  · exact FRow.flat (World.alloc_heap_new _ _) rfl
  · intro i h h'
    have h3 : i < 2 := h
    obtain rfl | rfl : i = 0 ∨ i = 1 := by omega
    · exact ⟨rfl, rfl, rfl, rfl, rfl, rfl, fun h => absurd h (Nat.lt_irrefl 0)⟩
    · exact ⟨rfl, rfl, rfl, rfl, rfl, rfl, fun h => absurd h (Nat.lt_irrefl 0)⟩
  · exact bel1 (Below.refl _ _) (Nat.le_refl _) _
def fs_declaredFields : List FS := [⟨⟨#[116, 120, 110]⟩, 18, [], true, 0, 0, ⟨#[]⟩⟩]
set_option maxRecDepth 100000 in
set_option maxHeartbeats 8000000 in
theorem declaredFields_row (w : World) : Calls Tryz.prog 64 #[] w (FieldsRow fs_declaredFields w) := by
  go_enter Tryz.func64, Tryz.ntmps64
  go_wp2
  go_ret
  refine ⟨some ⟨w.heap.size, 0, none⟩, [⟨⟨#[116, 120, 110]⟩, 18, none, 0, 0, true, leaf 0 0 ⟨#[]⟩⟩], rfl, ⟨rfl, fun _ => ⟨_, rfl, by omega, by simp, ?_⟩, ?_⟩, ?_⟩
  · exact FRow.flat (World.alloc_heap_new _ _) rfl
  · intro i h h'
    have h3 : i < 1 := h
    obtain rfl : i = 0 := by omega
    · exact ⟨rfl, rfl, rfl, rfl, rfl, rfl, fun h => absurd h (Nat.lt_irrefl 0)⟩
  · exact bel1 (Below.refl _ _) (Nat.le_refl _) _
def fs_noFields : List FS := []
set_option maxRecDepth 100000 in
set_option maxHeartbeats 8000000 in
theorem noFields_row (w : World) : Calls Tryz.prog 58 #[] w (FieldsRow fs_noFields w) := by
  go_enter Tryz.func58, Tryz.ntmps58
  go_wp2
  go_ret
  exact ⟨none, [], rfl, ⟨rfl, fun h => absurd h (by simp), fun i h => absurd h (by simp)⟩, Below.refl _ _⟩
def ftabL : List (Int × Option (List FS)) := [(16, some fs_openFields), (17, some fs_beginFields), (18, some fs_attachFields), (19, some fs_flowFields), (20, some fs_transferFields), (21, some fs_dispositionFields), (22, some fs_detachFields), (23, some fs_onlyFault), (24, some fs_onlyFault), (29, some fs_faultFields), (35, some fs_receivedFields), (36, some fs_noFields), (37, some fs_onlyFault), (38, some fs_noFields), (39, some fs_modifiedFields), (40, some fs_sourceFields), (41, some fs_targetFields), (48, some fs_coordinatorFields), (49, some fs_noFields), (50, some fs_dischargeFields), (51, some fs_declaredFields), (52, some fs_transactionalFields), (64, some fs_mechanismsFields), (65, some fs_initFields), (66, some fs_challengeFields), (67, some fs_responseFields), (68, some fs_outcomeFields), (112, some fs_headerFields), (115, some fs_propertiesFields), (113, none), (114, none), (116, none), (120, none), (117, none), (118, none), (119, none)]
def ftab (k : Int) : Option (List FS) := ((ftabL.find? fun p => p.1 == k).bind Prod.snd)
def RowOk (i : Nat) : Prop := ∀ (h : i < krows.length), (krows[i].2.2 = .nilFunc ∧ ftab krows[i].1 = none) ∨ (∃ g l, krows[i].2.2 = .func (.func g) #[] #[] ∧ ftab krows[i].1 = some l ∧ (∀ args w, (callFunc g args).run Tryz.prog w = .ok (.enter g args) w) ∧ ∀ W, Calls Tryz.prog g #[] W (FieldsRow l W))
set_option maxRecDepth 100000 in
theorem row_ok (i : Nat) (hi : i < 36) : RowOk i := by
  intro h
  match i, hi with
  | 0, _ => exact .inr ⟨_, _, rfl, rfl, enters_of Tryz.func48 (by kernel_rfl) rfl, openFields_row⟩
  | 1, _ => exact .inr ⟨_, _, rfl, rfl, enters_of Tryz.func49 (by kernel_rfl) rfl, beginFields_row⟩
  | 2, _ => exact .inr ⟨_, _, rfl, rfl, enters_of Tryz.func50 (by kernel_rfl) rfl, attachFields_row⟩
  | 3, _ => exact .inr ⟨_, _, rfl, rfl, enters_of Tryz.func51 (by kernel_rfl) rfl, flowFields_row⟩
  | 4, _ => exact .inr ⟨_, _, rfl, rfl, enters_of Tryz.func52 (by kernel_rfl) rfl, transferFields_row⟩
  | 5, _ => exact .inr ⟨_, _, rfl, rfl, enters_of Tryz.func53 (by kernel_rfl) rfl, dispositionFields_row⟩
  | 6, _ => exact .inr ⟨_, _, rfl, rfl, enters_of Tryz.func54 (by kernel_rfl) rfl, detachFields_row⟩
  | 7, _ => exact .inr ⟨_, _, rfl, rfl, enters_of Tryz.func55 (by kernel_rfl) rfl, onlyFault_row⟩
  | 8, _ => exact .inr ⟨_, _, rfl, rfl, enters_of Tryz.func55 (by kernel_rfl) rfl, onlyFault_row⟩
  | 9, _ => exact .inr ⟨_, _, rfl, rfl, enters_of Tryz.func56 (by kernel_rfl) rfl, faultFields_row⟩
  | 10, _ => exact .inr ⟨_, _, rfl, rfl, enters_of Tryz.func57 (by kernel_rfl) rfl, receivedFields_row⟩
  | 11, _ => exact .inr ⟨_, _, rfl, rfl, enters_of Tryz.func58 (by kernel_rfl) rfl, noFields_row⟩
  | 12, _ => exact .inr ⟨_, _, rfl, rfl, enters_of Tryz.func55 (by kernel_rfl) rfl, onlyFault_row⟩
  | 13, _ => exact .inr ⟨_, _, rfl, rfl, enters_of Tryz.func58 (by kernel_rfl) rfl, noFields_row⟩
  | 14, _ => exact .inr ⟨_, _, rfl, rfl, enters_of Tryz.func59 (by kernel_rfl) rfl, modifiedFields_row⟩
  | 15, _ => exact .inr ⟨_, _, rfl, rfl, enters_of Tryz.func60 (by kernel_rfl) rfl, sourceFields_row⟩
  | 16, _ => exact .inr ⟨_, _, rfl, rfl, enters_of Tryz.func61 (by kernel_rfl) rfl, targetFields_row⟩
  | 17, _ => exact .inr ⟨_, _, rfl, rfl, enters_of Tryz.func62 (by kernel_rfl) rfl, coordinatorFields_row⟩
  | 18, _ => exact .inr ⟨_, _, rfl, rfl, enters_of Tryz.func58 (by kernel_rfl) rfl, noFields_row⟩
  | 19, _ => exact .inr ⟨_, _, rfl, rfl, enters_of Tryz.func63 (by kernel_rfl) rfl, dischargeFields_row⟩
  | 20, _ => exact .inr ⟨_, _, rfl, rfl, enters_of Tryz.func64 (by kernel_rfl) rfl, declaredFields_row⟩
  | 21, _ => exact .inr ⟨_, _, rfl, rfl, enters_of Tryz.func65 (by kernel_rfl) rfl, transactionalFields_row⟩
  | 22, _ => exact .inr ⟨_, _, rfl, rfl, enters_of Tryz.func66 (by kernel_rfl) rfl, mechanismsFields_row⟩
  | 23, _ => exact .inr ⟨_, _, rfl, rfl, enters_of Tryz.func67 (by kernel_rfl) rfl, initFields_row⟩
  | 24, _ => exact .inr ⟨_, _, rfl, rfl, enters_of Tryz.func68 (by kernel_rfl) rfl, challengeFields_row⟩
  | 25, _ => exact .inr ⟨_, _, rfl, rfl, enters_of Tryz.func69 (by kernel_rfl) rfl, responseFields_row⟩
  | 26, _ => exact .inr ⟨_, _, rfl, rfl, enters_of Tryz.func70 (by kernel_rfl) rfl, outcomeFields_row⟩
  | 27, _ => exact .inr ⟨_, _, rfl, rfl, enters_of Tryz.func71 (by kernel_rfl) rfl, headerFields_row⟩
  | 28, _ => exact .inr ⟨_, _, rfl, rfl, enters_of Tryz.func72 (by kernel_rfl) rfl, propertiesFields_row⟩
  | 29, _ => exact .inl ⟨rfl, rfl⟩
  | 30, _ => exact .inl ⟨rfl, rfl⟩
  | 31, _ => exact .inl ⟨rfl, rfl⟩
  | 32, _ => exact .inl ⟨rfl, rfl⟩
  | 33, _ => exact .inl ⟨rfl, rfl⟩
  | 34, _ => exact .inl ⟨rfl, rfl⟩
  | 35, _ => exact .inl ⟨rfl, rfl⟩
  | n + 36, h => omega
set_option maxRecDepth 100000 in
theorem ftab_rows : krows.map (fun r => r.1) = ftabL.map (fun p => p.1) := rfl
theorem ftab_none {k : Int} (h : ∀ i (hi : i < krows.length), krows[i].1 = k → krows[i].2.2 = .nilFunc) : ftab k = none := by
  unfold ftab
  cases hf : ftabL.find? (fun p => p.1 == k) with
  | none => rfl
  | some p =>
    have hp := List.find?_some hf
    have hk : p.1 = k := by simpa using hp
    obtain ⟨i, hi, he⟩ := List.mem_iff_getElem.1 (List.mem_of_find?_eq_some hf)
    have hi' : i < krows.length := by rw [krows_len]; exact hi
    have h1 : krows[i].1 = k := by
      have h2 : (krows.map fun r => r.1)[i]? = (ftabL.map fun p => p.1)[i]? := by rw [ftab_rows]
      rw [List.getElem?_map, List.getElem?_map, List.getElem?_eq_getElem hi', List.getElem?_eq_getElem hi, he] at h2
      exact (Option.some.inj h2).trans hk
    have h3 := h i hi' h1
    rcases row_ok i hi hi' with ⟨_, e⟩ | ⟨g, l, e, _⟩
    · rw [h1] at e
      unfold ftab at e
      rw [hf] at e
      exact e
    · rw [h3] at e
      cases e
end Go.Proofs.YtgldcchleoklcaaGreatDoor
