/- HGTd, HGT, HKind, HGFields -/
import Derived.Test.YtgldcchleoklcaaGreatDoorP18
import Derived.Test.YtgldcchleoklcaaGreatDoorP17
import Derived.Test.YtgldcchleoklcaaGreatDoorP06
import Derived.Deep.RegionHeld
namespace Go.Proofs.YtgldcchleoklcaaGreatDoor
open Go.RowKit
set_option linter.unusedVariables false
set_option linter.unusedSimpArgs false
def fs_transferFields : List FS := [⟨⟨#[104, 97, 110, 100, 108, 101]⟩, 4, [], true, 0, 0, ⟨#[]⟩⟩, ⟨⟨#[105, 100]⟩, 4, [], false, 0, 0, ⟨#[]⟩⟩, ⟨⟨#[116, 97, 103]⟩, 18, [], false, 0, 0, ⟨#[]⟩⟩, ⟨⟨#[102, 111, 114, 109, 97, 116]⟩, 4, [], false, 0, 0, ⟨#[]⟩⟩, ⟨⟨#[115, 101, 116, 116, 108, 101, 100]⟩, 1, [], false, 0, 0, ⟨#[]⟩⟩, ⟨⟨#[109, 111, 114, 101]⟩, 1, [], false, 1, 0, ⟨#[]⟩⟩, ⟨⟨#[115, 116, 97, 116, 101]⟩, 102, [35, 36, 37, 38, 39, 51, 52], false, 0, 0, ⟨#[]⟩⟩, ⟨⟨#[114, 101, 115, 117, 109, 101]⟩, 1, [], false, 1, 0, ⟨#[]⟩⟩, ⟨⟨#[97, 98, 111, 114, 116, 101, 100]⟩, 1, [], false, 1, 0, ⟨#[]⟩⟩, ⟨⟨#[98, 97, 116, 99, 104, 97, 98, 108, 101]⟩, 1, [], false, 1, 0, ⟨#[]⟩⟩]
set_option maxRecDepth 100000 in
set_option maxHeartbeats 8000000 in
theorem transferFields_row (w : World) : Calls Tryz.prog 52 #[] w (FieldsRow fs_transferFields w) := by
  have HC_states := hide (fun W => states_any W)
  go_enter Tryz.func52, Tryz.ntmps52
  go_wp2_with fail
  refine (HC_states.out _).mono ?_
  rintro e1 w1 ⟨rfl, rfl⟩
  go_wp2
  go_ret
  refine ⟨some ⟨w.heap.size + 1, 0, none⟩, [⟨⟨#[104, 97, 110, 100, 108, 101]⟩, 4, none, 0, 0, true, leaf 0 0 ⟨#[]⟩⟩, ⟨⟨#[105, 100]⟩, 4, none, 0, 0, false, leaf 0 0 ⟨#[]⟩⟩, ⟨⟨#[116, 97, 103]⟩, 18, none, 0, 0, false, leaf 0 0 ⟨#[]⟩⟩, ⟨⟨#[102, 111, 114, 109, 97, 116]⟩, 4, none, 0, 0, false, leaf 0 0 ⟨#[]⟩⟩, ⟨⟨#[115, 101, 116, 116, 108, 101, 100]⟩, 1, none, 0, 0, false, leaf 0 0 ⟨#[]⟩⟩, ⟨⟨#[109, 111, 114, 101]⟩, 1, none, 0, 0, false, leaf 1 0 ⟨#[]⟩⟩, ⟨⟨#[115, 116, 97, 116, 101]⟩, 102, some ⟨w.heap.size, 0, none⟩, 7, 7, false, leaf 0 0 ⟨#[]⟩⟩, ⟨⟨#[114, 101, 115, 117, 109, 101]⟩, 1, none, 0, 0, false, leaf 1 0 ⟨#[]⟩⟩, ⟨⟨#[97, 98, 111, 114, 116, 101, 100]⟩, 1, none, 0, 0, false, leaf 1 0 ⟨#[]⟩⟩, ⟨⟨#[98, 97, 116, 99, 104, 97, 98, 108, 101]⟩, 1, none, 0, 0, false, leaf 1 0 ⟨#[]⟩⟩], rfl, ⟨rfl, fun _ => ⟨_, rfl, by omega, by simp, ?_⟩, ?_⟩, ?_⟩
  · exact FRow.flat (heap_at1 _ _ _) rfl
  · intro i h h'
    have h3 : i < 10 := h
    obtain rfl | rfl | rfl | rfl | rfl | rfl | rfl | rfl | rfl | rfl : i = 0 ∨ i = 1 ∨ i = 2 ∨ i = 3 ∨ i = 4 ∨ i = 5 ∨ i = 6 ∨ i = 7 ∨ i = 8 ∨ i = 9 := by omega
    · exact ⟨rfl, rfl, rfl, rfl, rfl, rfl, fun h => absurd h (Nat.lt_irrefl 0)⟩
    · exact ⟨rfl, rfl, rfl, rfl, rfl, rfl, fun h => absurd h (Nat.lt_irrefl 0)⟩
    · exact ⟨rfl, rfl, rfl, rfl, rfl, rfl, fun h => absurd h (Nat.lt_irrefl 0)⟩
    · exact ⟨rfl, rfl, rfl, rfl, rfl, rfl, fun h => absurd h (Nat.lt_irrefl 0)⟩
    · exact ⟨rfl, rfl, rfl, rfl, rfl, rfl, fun h => absurd h (Nat.lt_irrefl 0)⟩
    · exact ⟨rfl, rfl, rfl, rfl, rfl, rfl, fun h => absurd h (Nat.lt_irrefl 0)⟩
    · exact ⟨rfl, rfl, rfl, rfl, rfl, rfl, fun _ => ⟨_, rfl, by omega, (by first | (simp; done) | (simp; omega)), heap_past (World.alloc_heap_new _ _) _⟩⟩
    · exact ⟨rfl, rfl, rfl, rfl, rfl, rfl, fun h => absurd h (Nat.lt_irrefl 0)⟩
    · exact ⟨rfl, rfl, rfl, rfl, rfl, rfl, fun h => absurd h (Nat.lt_irrefl 0)⟩
    · exact ⟨rfl, rfl, rfl, rfl, rfl, rfl, fun h => absurd h (Nat.lt_irrefl 0)⟩
  · exact bel2 (Below.refl _ _) (Nat.le_refl _) _ _
def fs_onlyFault : List FS := [⟨⟨#[102, 97, 117, 108, 116]⟩, 102, [29], false, 0, 0, ⟨#[]⟩⟩]
set_option maxRecDepth 100000 in
set_option maxHeartbeats 8000000 in
theorem onlyFault_row (w : World) : Calls Tryz.prog 55 #[] w (FieldsRow fs_onlyFault w) := by
  go_enter Tryz.func55, Tryz.ntmps55
  go_wp2
  go_ret
  refine ⟨some ⟨w.heap.size + 1, 0, none⟩, [⟨⟨#[102, 97, 117, 108, 116]⟩, 102, some ⟨w.heap.size, 0, none⟩, 1, 1, false, leaf 0 0 ⟨#[]⟩⟩], rfl, ⟨rfl, fun _ => ⟨_, rfl, by omega, by simp, ?_⟩, ?_⟩, ?_⟩
  · exact FRow.flat (heap_at1 _ _ _) rfl
  · intro i h h'
    have h3 : i < 1 := h
    obtain rfl : i = 0 := by omega
    · exact ⟨rfl, rfl, rfl, rfl, rfl, rfl, fun _ => ⟨_, rfl, by omega, (by first | (simp; done) | (simp; omega)), heap_past (World.alloc_heap_new _ _) _⟩⟩
  · exact bel2 (Below.refl _ _) (Nat.le_refl _) _ _
def fs_faultFields : List FS := [⟨⟨#[99, 111, 110, 100]⟩, 20, [], true, 0, 0, ⟨#[]⟩⟩, ⟨⟨#[116, 101, 120, 116]⟩, 19, [], false, 0, 0, ⟨#[]⟩⟩, ⟨⟨#[105, 110, 102, 111]⟩, 22, [], false, 0, 0, ⟨#[]⟩⟩]
set_option maxRecDepth 100000 in
set_option maxHeartbeats 8000000 in
theorem faultFields_row (w : World) : Calls Tryz.prog 56 #[] w (FieldsRow fs_faultFields w) := by
  go_enter Tryz.func56, Tryz.ntmps56
  go_wp2
  go_ret
  refine ⟨some ⟨w.heap.size, 0, none⟩, [⟨⟨#[99, 111, 110, 100]⟩, 20, none, 0, 0, true, leaf 0 0 ⟨#[]⟩⟩, ⟨⟨#[116, 101, 120, 116]⟩, 19, none, 0, 0, false, leaf 0 0 ⟨#[]⟩⟩, ⟨⟨#[105, 110, 102, 111]⟩, 22, none, 0, 0, false, leaf 0 0 ⟨#[]⟩⟩], rfl, ⟨rfl, fun _ => ⟨_, rfl, by omega, by simp, ?_⟩, ?_⟩, ?_⟩
  · exact FRow.flat (World.alloc_heap_new _ _) rfl
  · intro i h h'
    have h3 : i < 3 := h
    obtain rfl | rfl | rfl : i = 0 ∨ i = 1 ∨ i = 2 := by omega
    · exact ⟨rfl, rfl, rfl, rfl, rfl, rfl, fun h => absurd h (Nat.lt_irrefl 0)⟩
    · exact ⟨rfl, rfl, rfl, rfl, rfl, rfl, fun h => absurd h (Nat.lt_irrefl 0)⟩
    · exact ⟨rfl, rfl, rfl, rfl, rfl, rfl, fun h => absurd h (Nat.lt_irrefl 0)⟩
  · exact bel1 (Below.refl _ _) (Nat.le_refl _) _
def fs_sourceFields : List FS := [⟨⟨#[97, 100, 100, 114, 101, 115, 115]⟩, 19, [], false, 0, 0, ⟨#[]⟩⟩, ⟨⟨#[100, 117, 114, 97, 98, 108, 101]⟩, 4, [], false, 4, 0, ⟨#[]⟩⟩, ⟨⟨#[101, 120, 112, 105, 114, 121]⟩, 20, [], false, 20, 0, ⟨#[115, 101, 115, 115, 105, 111, 110, 45, 101, 110, 100]⟩⟩, ⟨⟨#[116, 105, 109, 101, 111, 117, 116]⟩, 4, [], false, 4, 0, ⟨#[]⟩⟩, ⟨⟨#[100, 121, 110, 97, 109, 105, 99]⟩, 1, [], false, 1, 0, ⟨#[]⟩⟩, ⟨⟨#[109, 111, 100, 101]⟩, 20, [], false, 0, 0, ⟨#[]⟩⟩, ⟨⟨#[102, 105, 108, 116, 101, 114]⟩, 19, [], false, 0, 0, ⟨#[]⟩⟩, ⟨⟨#[100, 101, 102, 97, 117, 108, 116]⟩, 102, [36, 37, 38, 39], false, 0, 0, ⟨#[]⟩⟩, ⟨⟨#[111, 117, 116, 99, 111, 109, 101, 115]⟩, 101, [], false, 0, 0, ⟨#[]⟩⟩, ⟨⟨#[99, 97, 112, 115]⟩, 101, [], false, 0, 0, ⟨#[]⟩⟩]
set_option maxRecDepth 100000 in
set_option maxHeartbeats 8000000 in
theorem sourceFields_row (w : World) : Calls Tryz.prog 60 #[] w (FieldsRow fs_sourceFields w) := by
  have HC_outcomes := hide (fun W => outcomes_any W)
  go_enter Tryz.func60, Tryz.ntmps60
  go_wp2_with fail
  refine (HC_outcomes.out _).mono ?_
  rintro e1 w1 ⟨rfl, rfl⟩
  go_wp2
  go_ret
  refine ⟨some ⟨w.heap.size + 1, 0, none⟩, [⟨⟨#[97, 100, 100, 114, 101, 115, 115]⟩, 19, none, 0, 0, false, leaf 0 0 ⟨#[]⟩⟩, ⟨⟨#[100, 117, 114, 97, 98, 108, 101]⟩, 4, none, 0, 0, false, leaf 4 0 ⟨#[]⟩⟩, ⟨⟨#[101, 120, 112, 105, 114, 121]⟩, 20, none, 0, 0, false, leaf 20 0 ⟨#[115, 101, 115, 115, 105, 111, 110, 45, 101, 110, 100]⟩⟩, ⟨⟨#[116, 105, 109, 101, 111, 117, 116]⟩, 4, none, 0, 0, false, leaf 4 0 ⟨#[]⟩⟩, ⟨⟨#[100, 121, 110, 97, 109, 105, 99]⟩, 1, none, 0, 0, false, leaf 1 0 ⟨#[]⟩⟩, ⟨⟨#[109, 111, 100, 101]⟩, 20, none, 0, 0, false, leaf 0 0 ⟨#[]⟩⟩, ⟨⟨#[102, 105, 108, 116, 101, 114]⟩, 19, none, 0, 0, false, leaf 0 0 ⟨#[]⟩⟩, ⟨⟨#[100, 101, 102, 97, 117, 108, 116]⟩, 102, some ⟨w.heap.size, 0, none⟩, 4, 4, false, leaf 0 0 ⟨#[]⟩⟩, ⟨⟨#[111, 117, 116, 99, 111, 109, 101, 115]⟩, 101, none, 0, 0, false, leaf 0 0 ⟨#[]⟩⟩, ⟨⟨#[99, 97, 112, 115]⟩, 101, none, 0, 0, false, leaf 0 0 ⟨#[]⟩⟩], rfl, ⟨rfl, fun _ => ⟨_, rfl, by omega, by simp, ?_⟩, ?_⟩, ?_⟩
  · exact FRow.flat (heap_at1 _ _ _) rfl
  · intro i h h'
    have h3 : i < 10 := h
    obtain rfl | rfl | rfl | rfl | rfl | rfl | rfl | rfl | rfl | rfl : i = 0 ∨ i = 1 ∨ i = 2 ∨ i = 3 ∨ i = 4 ∨ i = 5 ∨ i = 6 ∨ i = 7 ∨ i = 8 ∨ i = 9 := by omega
    · exact ⟨rfl, rfl, rfl, rfl, rfl, rfl, fun h => absurd h (Nat.lt_irrefl 0)⟩
    · exact ⟨rfl, rfl, rfl, rfl, rfl, rfl, fun h => absurd h (Nat.lt_irrefl 0)⟩
    · exact ⟨rfl, rfl, rfl, rfl, rfl, rfl, fun h => absurd h (Nat.lt_irrefl 0)⟩
    · exact ⟨rfl, rfl, rfl, rfl, rfl, rfl, fun h => absurd h (Nat.lt_irrefl 0)⟩
    · exact ⟨rfl, rfl, rfl, rfl, rfl, rfl, fun h => absurd h (Nat.lt_irrefl 0)⟩
    · exact ⟨rfl, rfl, rfl, rfl, rfl, rfl, fun h => absurd h (Nat.lt_irrefl 0)⟩
    · exact ⟨rfl, rfl, rfl, rfl, rfl, rfl, fun h => absurd h (Nat.lt_irrefl 0)⟩
    · exact ⟨rfl, rfl, rfl, rfl, rfl, rfl, fun _ => ⟨_, rfl, by omega, (by first | (simp; done) | (simp; omega)), heap_past (World.alloc_heap_new _ _) _⟩⟩
    · exact ⟨rfl, rfl, rfl, rfl, rfl, rfl, fun h => absurd h (Nat.lt_irrefl 0)⟩
    · exact ⟨rfl, rfl, rfl, rfl, rfl, rfl, fun h => absurd h (Nat.lt_irrefl 0)⟩
  · exact bel2 (Below.refl _ _) (Nat.le_refl _) _ _
def fs_dischargeFields : List FS := [⟨⟨#[116, 120, 110]⟩, 18, [], true, 0, 0, ⟨#[]⟩⟩, ⟨⟨#[102, 97, 105, 108]⟩, 1, [], false, 1, 0, ⟨#[]⟩⟩]
set_option maxRecDepth 100000 in
set_option maxHeartbeats 8000000 in
theorem dischargeFields_row (w : World) : Calls Tryz.prog 63 #[] w (FieldsRow fs_dischargeFields w) := by
  go_enter Tryz.func63, Tryz.ntmps63
  go_wp2
  go_ret
  refine ⟨some ⟨w.heap.size, 0, none⟩, [⟨⟨#[116, 120, 110]⟩, 18, none, 0, 0, true, leaf 0 0 ⟨#[]⟩⟩, ⟨⟨#[102, 97, 105, 108]⟩, 1, none, 0, 0, false, leaf 1 0 ⟨#[]⟩⟩], rfl, ⟨rfl, fun _ => ⟨_, rfl, by omega, by simp, ?_⟩, ?_⟩, ?_⟩
  · exact FRow.flat (World.alloc_heap_new _ _) rfl
  · intro i h h'
    have h3 : i < 2 := h
    obtain rfl | rfl : i = 0 ∨ i = 1 := by omega
    · exact ⟨rfl, rfl, rfl, rfl, rfl, rfl, fun h => absurd h (Nat.lt_irrefl 0)⟩
    · exact ⟨rfl, rfl, rfl, rfl, rfl, rfl, fun h => absurd h (Nat.lt_irrefl 0)⟩
  · exact bel1 (Below.refl _ _) (Nat.le_refl _) _
def fs_declaredFields : List FS := [⟨⟨#[116, 120, 110]⟩, 18, [], true, 0, 0, ⟨#[]⟩⟩]
set_option maxRecDepth 100000 in
set_option maxHeartbeats 8000000 in
theorem declaredFields_row (w : World) : Calls Tryz.prog 64 #[] w (FieldsRow fs_declaredFields w) := by
  go_enter Tryz.func64, Tryz.ntmps64
  go_wp2
  go_ret
  refine ⟨some ⟨w.heap.size, 0, none⟩, [⟨⟨#[116, 120, 110]⟩, 18, none, 0, 0, true, leaf 0 0 ⟨#[]⟩⟩], rfl, ⟨rfl, fun _ => ⟨_, rfl, by omega, by simp, ?_⟩, ?_⟩, ?_⟩
  · exact FRow.flat (World.alloc_heap_new _ _) rfl
  · intro i h h'
    have h3 : i < 1 := h
    obtain rfl : i = 0 := by omega
    · exact ⟨rfl, rfl, rfl, rfl, rfl, rfl, fun h => absurd h (Nat.lt_irrefl 0)⟩
  · exact bel1 (Below.refl _ _) (Nat.le_refl _) _
def fs_noFields : List FS := []
set_option maxRecDepth 100000 in
set_option maxHeartbeats 8000000 in
theorem noFields_row (w : World) : Calls Tryz.prog 58 #[] w (FieldsRow fs_noFields w) := by
  go_enter Tryz.func58, Tryz.ntmps58
  go_wp2
  go_ret
  exact ⟨none, [], rfl, ⟨rfl, fun h => absurd h (by simp), fun i h => absurd h (by simp)⟩, Below.refl _ _⟩
def ftabL : List (Int × Option (List FS)) := [(16, some fs_openFields), (17, some fs_beginFields), (18, some fs_attachFields), (19, some fs_flowFields), (20, some fs_transferFields), (21, some fs_dispositionFields), (22, some fs_detachFields), (23, some fs_onlyFault), (24, some fs_onlyFault), (29, some fs_faultFields), (35, some fs_receivedFields), (36, some fs_noFields), (37, some fs_onlyFault), (38, some fs_noFields), (39, some fs_modifiedFields), (40, some fs_sourceFields), (41, some fs_targetFields), (48, some fs_coordinatorFields), (49, some fs_noFields), (50, some fs_dischargeFields), (51, some fs_declaredFields), (52, some fs_transactionalFields), (64, some fs_mechanismsFields), (65, some fs_initFields), (66, some fs_challengeFields), (67, some fs_responseFields), (68, some fs_outcomeFields), (112, some fs_headerFields), (115, some fs_propertiesFields), (113, none), (114, none), (116, none), (120, none), (117, none), (118, none), (119, none)]
def ftab (k : Int) : Option (List FS) := ((ftabL.find? fun p => p.1 == k).bind Prod.snd)
def RowOk (i : Nat) : Prop := ∀ (h : i < krows.length), (krows[i].2.2 = .nilFunc ∧ ftab krows[i].1 = none) ∨ (∃ g l, krows[i].2.2 = .func (.func g) #[] #[] ∧ ftab krows[i].1 = some l ∧ (∀ args w, (callFunc g args).run Tryz.prog w = .ok (.enter g args) w) ∧ ∀ W, Calls Tryz.prog g #[] W (FieldsRow l W))
set_option maxRecDepth 100000 in
theorem row_ok (i : Nat) (hi : i < 36) : RowOk i := by
  intro h
  match i, hi with
  | 0, _ => exact .inr ⟨_, _, rfl, rfl, enters_of Tryz.func48 (by kernel_rfl) rfl, openFields_row⟩
  | 1, _ => exact .inr ⟨_, _, rfl, rfl, enters_of Tryz.func49 (by kernel_rfl) rfl, beginFields_row⟩
  | 2, _ => exact .inr ⟨_, _, rfl, rfl, enters_of Tryz.func50 (by kernel_rfl) rfl, attachFields_row⟩
  | 3, _ => exact .inr ⟨_, _, rfl, rfl, enters_of Tryz.func51 (by kernel_rfl) rfl, flowFields_row⟩
  | 4, _ => exact .inr ⟨_, _, rfl, rfl, enters_of Tryz.func52 (by kernel_rfl) rfl, transferFields_row⟩
  | 5, _ => exact .inr ⟨_, _, rfl, rfl, enters_of Tryz.func53 (by kernel_rfl) rfl, dispositionFields_row⟩
  | 6, _ => exact .inr ⟨_, _, rfl, rfl, enters_of Tryz.func54 (by kernel_rfl) rfl, detachFields_row⟩
  | 7, _ => exact .inr ⟨_, _, rfl, rfl, enters_of Tryz.func55 (by kernel_rfl) rfl, onlyFault_row⟩
  | 8, _ => exact .inr ⟨_, _, rfl, rfl, enters_of Tryz.func55 (by kernel_rfl) rfl, onlyFault_row⟩
  | 9, _ => exact .inr ⟨_, _, rfl, rfl, enters_of Tryz.func56 (by kernel_rfl) rfl, faultFields_row⟩
  | 10, _ => exact .inr ⟨_, _, rfl, rfl, enters_of Tryz.func57 (by kernel_rfl) rfl, receivedFields_row⟩
  | 11, _ => exact .inr ⟨_, _, rfl, rfl, enters_of Tryz.func58 (by kernel_rfl) rfl, noFields_row⟩
  | 12, _ => exact .inr ⟨_, _, rfl, rfl, enters_of Tryz.func55 (by kernel_rfl) rfl, onlyFault_row⟩
  | 13, _ => exact .inr ⟨_, _, rfl, rfl, enters_of Tryz.func58 (by kernel_rfl) rfl, noFields_row⟩
  | 14, _ => exact .inr ⟨_, _, rfl, rfl, enters_of Tryz.func59 (by kernel_rfl) rfl, modifiedFields_row⟩
  | 15, _ => exact .inr ⟨_, _, rfl, rfl, enters_of Tryz.func60 (by kernel_rfl) rfl, sourceFields_row⟩
  | 16, _ => exact .inr ⟨_, _, rfl, rfl, enters_of Tryz.func61 (by kernel_rfl) rfl, targetFields_row⟩
  | 17, _ => exact .inr ⟨_, _, rfl, rfl, enters_of Tryz.func62 (by kernel_rfl) rfl, coordinatorFields_row⟩
  | 18, _ => exact .inr ⟨_, _, rfl, rfl, enters_of Tryz.func58 (by kernel_rfl) rfl, noFields_row⟩
  | 19, _ => exact .inr ⟨_, _, rfl, rfl, enters_of Tryz.func63 (by kernel_rfl) rfl, dischargeFields_row⟩
  | 20, _ => exact .inr ⟨_, _, rfl, rfl, enters_of Tryz.func64 (by kernel_rfl) rfl, declaredFields_row⟩
  | 21, _ => exact .inr ⟨_, _, rfl, rfl, enters_of Tryz.func65 (by kernel_rfl) rfl, transactionalFields_row⟩
  | 22, _ => exact .inr ⟨_, _, rfl, rfl, enters_of Tryz.func66 (by kernel_rfl) rfl, mechanismsFields_row⟩
  | 23, _ => exact .inr ⟨_, _, rfl, rfl, enters_of Tryz.func67 (by kernel_rfl) rfl, initFields_row⟩
  | 24, _ => exact .inr ⟨_, _, rfl, rfl, enters_of Tryz.func68 (by kernel_rfl) rfl, challengeFields_row⟩
  | 25, _ => exact .inr ⟨_, _, rfl, rfl, enters_of Tryz.func69 (by kernel_rfl) rfl, responseFields_row⟩
  | 26, _ => exact .inr ⟨_, _, rfl, rfl, enters_of Tryz.func70 (by kernel_rfl) rfl, outcomeFields_row⟩
  | 27, _ => exact .inr ⟨_, _, rfl, rfl, enters_of Tryz.func71 (by kernel_rfl) rfl, headerFields_row⟩
  | 28, _ => exact .inr ⟨_, _, rfl, rfl, enters_of Tryz.func72 (by kernel_rfl) rfl, propertiesFields_row⟩
  | 29, _ => exact .inl ⟨rfl, rfl⟩
  | 30, _ => exact .inl ⟨rfl, rfl⟩
  | 31, _ => exact .inl ⟨rfl, rfl⟩
  | 32, _ => exact .inl ⟨rfl, rfl⟩
  | 33, _ => exact .inl ⟨rfl, rfl⟩
  | 34, _ => exact .inl ⟨rfl, rfl⟩
  | 35, _ => exact .inl ⟨rfl, rfl⟩
  | n + 36, h => omega
set_option maxRecDepth 100000 in
theorem ftab_rows : krows.map (fun r => r.1) = ftabL.map (fun p => p.1) := rfl
theorem ftab_none {k : Int} (h : ∀ i (hi : i < krows.length), krows[i].1 = k → krows[i].2.2 = .nilFunc) : ftab k = none := by
  unfold ftab
  cases hf : ftabL.find? (fun p => p.1 == k) with
  | none => rfl
  | some p =>
    have hp := List.find?_some hf
    have hk : p.1 = k := by simpa using hp
    obtain ⟨i, hi, he⟩ := List.mem_iff_getElem.1 (List.mem_of_find?_eq_some hf)
    have hi' : i < krows.length := by rw [krows_len]; exact hi
    have h1 : krows[i].1 = k := by
      have h2 : (krows.map fun r => r.1)[i]? = (ftabL.map fun p => p.1)[i]? := by rw [ftab_rows]
      rw [List.getElem?_map, List.getElem?_map, List.getElem?_eq_getElem hi', List.getElem?_eq_getElem hi, he] at h2
      exact (Option.some.inj h2).trans hk
    have h3 := h i hi' h1
    rcases row_ok i hi hi' with ⟨_, e⟩ | ⟨g, l, e, _⟩
    · rw [h1] at e
      unfold ftab at e
      rw [hf] at e
      exact e
    · rw [h3] at e
      cases e
def kindL (x : T) : List (Int × ByteArray × Value) → Option Int
  | [] => none
  | r :: rs => if (eqT x (leaf 5 r.1 ⟨#[]⟩).t || eqT x (leaf 20 0 r.2.1).t) = true then some r.1 else kindL x rs
theorem kindL_step (x : T) (l : List (Int × ByteArray × Value)) (i : Nat) (h : i < l.length) : kindL x (l.drop i) = if (eqT x (leaf 5 l[i].1 ⟨#[]⟩).t || eqT x (leaf 20 0 l[i].2.1).t) = true then some l[i].1 else kindL x (l.drop (i + 1)) := by
  rw [List.drop_eq_getElem_cons h, kindL]
def kindV (k : Int) : List V → Option Int
  | [x, _] => if k = 24 then kindL x.t krows else none
  | _ => none
theorem kindV_two (x y : V) : kindV 24 [x, y] = kindL x.t krows := rfl
theorem kindV_k {k : Int} (h : k ≠ 24) (l : List V) : kindV k l = none := by
  unfold kindV
  split
  · rw [if_neg h]
  · rfl
theorem kindV_l {l : List V} (k : Int) (h : l.length ≠ 2) : kindV k l = none := by
  unfold kindV
  split
  · exact absurd rfl h
  · rfl
set_option maxRecDepth 100000 in
theorem krows_ok : ∀ i (h : i < krows.length), (0 ≤ krows[i].1 ∧ krows[i].1 ≤ 200 ∧ krows[i].2.1.size ≤ 100) ∧ ((∃ g, krows[i].2.2 = .func (.func g) #[] #[]) ∨ krows[i].2.2 = .nilFunc) := by
  intro i h
  have h' : i < 36 := h
  match i, h' with
  | 0, _ => exact ⟨⟨of_decide_eq_true rfl, of_decide_eq_true rfl, of_decide_eq_true rfl⟩, .inl ⟨_, rfl⟩⟩
  | 1, _ => exact ⟨⟨of_decide_eq_true rfl, of_decide_eq_true rfl, of_decide_eq_true rfl⟩, .inl ⟨_, rfl⟩⟩
  | 2, _ => exact ⟨⟨of_decide_eq_true rfl, of_decide_eq_true rfl, of_decide_eq_true rfl⟩, .inl ⟨_, rfl⟩⟩
  | 3, _ => exact ⟨⟨of_decide_eq_true rfl, of_decide_eq_true rfl, of_decide_eq_true rfl⟩, .inl ⟨_, rfl⟩⟩
  | 4, _ => exact ⟨⟨of_decide_eq_true rfl, of_decide_eq_true rfl, of_decide_eq_true rfl⟩, .inl ⟨_, rfl⟩⟩
  | 5, _ => exact ⟨⟨of_decide_eq_true rfl, of_decide_eq_true rfl, of_decide_eq_true rfl⟩, .inl ⟨_, rfl⟩⟩
  | 6, _ => exact ⟨⟨of_decide_eq_true rfl, of_decide_eq_true rfl, of_decide_eq_true rfl⟩, .inl ⟨_, rfl⟩⟩
  | 7, _ => exact ⟨⟨of_decide_eq_true rfl, of_decide_eq_true rfl, of_decide_eq_true rfl⟩, .inl ⟨_, rfl⟩⟩
  | 8, _ => exact ⟨⟨of_decide_eq_true rfl, of_decide_eq_true rfl, of_decide_eq_true rfl⟩, .inl ⟨_, rfl⟩⟩
  | 9, _ => exact ⟨⟨of_decide_eq_true rfl, of_decide_eq_true rfl, of_decide_eq_true rfl⟩, .inl ⟨_, rfl⟩⟩
  | 10, _ => exact ⟨⟨of_decide_eq_true rfl, of_decide_eq_true rfl, of_decide_eq_true rfl⟩, .inl ⟨_, rfl⟩⟩
  | 11, _ => exact ⟨⟨of_decide_eq_true rfl, of_decide_eq_true rfl, of_decide_eq_true rfl⟩, .inl ⟨_, rfl⟩⟩
  | 12, _ => exact ⟨⟨of_decide_eq_true rfl, of_decide_eq_true rfl, of_decide_eq_true rfl⟩, .inl ⟨_, rfl⟩⟩
  | 13, _ => exact ⟨⟨of_decide_eq_true rfl, of_decide_eq_true rfl, of_decide_eq_true rfl⟩, .inl ⟨_, rfl⟩⟩
  | 14, _ => exact ⟨⟨of_decide_eq_true rfl, of_decide_eq_true rfl, of_decide_eq_true rfl⟩, .inl ⟨_, rfl⟩⟩
  | 15, _ => exact ⟨⟨of_decide_eq_true rfl, of_decide_eq_true rfl, of_decide_eq_true rfl⟩, .inl ⟨_, rfl⟩⟩
  | 16, _ => exact ⟨⟨of_decide_eq_true rfl, of_decide_eq_true rfl, of_decide_eq_true rfl⟩, .inl ⟨_, rfl⟩⟩
  | 17, _ => exact ⟨⟨of_decide_eq_true rfl, of_decide_eq_true rfl, of_decide_eq_true rfl⟩, .inl ⟨_, rfl⟩⟩
  | 18, _ => exact ⟨⟨of_decide_eq_true rfl, of_decide_eq_true rfl, of_decide_eq_true rfl⟩, .inl ⟨_, rfl⟩⟩
  | 19, _ => exact ⟨⟨of_decide_eq_true rfl, of_decide_eq_true rfl, of_decide_eq_true rfl⟩, .inl ⟨_, rfl⟩⟩
  | 20, _ => exact ⟨⟨of_decide_eq_true rfl, of_decide_eq_true rfl, of_decide_eq_true rfl⟩, .inl ⟨_, rfl⟩⟩
  | 21, _ => exact ⟨⟨of_decide_eq_true rfl, of_decide_eq_true rfl, of_decide_eq_true rfl⟩, .inl ⟨_, rfl⟩⟩
  | 22, _ => exact ⟨⟨of_decide_eq_true rfl, of_decide_eq_true rfl, of_decide_eq_true rfl⟩, .inl ⟨_, rfl⟩⟩
  | 23, _ => exact ⟨⟨of_decide_eq_true rfl, of_decide_eq_true rfl, of_decide_eq_true rfl⟩, .inl ⟨_, rfl⟩⟩
  | 24, _ => exact ⟨⟨of_decide_eq_true rfl, of_decide_eq_true rfl, of_decide_eq_true rfl⟩, .inl ⟨_, rfl⟩⟩
  | 25, _ => exact ⟨⟨of_decide_eq_true rfl, of_decide_eq_true rfl, of_decide_eq_true rfl⟩, .inl ⟨_, rfl⟩⟩
  | 26, _ => exact ⟨⟨of_decide_eq_true rfl, of_decide_eq_true rfl, of_decide_eq_true rfl⟩, .inl ⟨_, rfl⟩⟩
  | 27, _ => exact ⟨⟨of_decide_eq_true rfl, of_decide_eq_true rfl, of_decide_eq_true rfl⟩, .inl ⟨_, rfl⟩⟩
  | 28, _ => exact ⟨⟨of_decide_eq_true rfl, of_decide_eq_true rfl, of_decide_eq_true rfl⟩, .inl ⟨_, rfl⟩⟩
  | 29, _ => exact ⟨⟨of_decide_eq_true rfl, of_decide_eq_true rfl, of_decide_eq_true rfl⟩, .inr rfl⟩
  | 30, _ => exact ⟨⟨of_decide_eq_true rfl, of_decide_eq_true rfl, of_decide_eq_true rfl⟩, .inr rfl⟩
  | 31, _ => exact ⟨⟨of_decide_eq_true rfl, of_decide_eq_true rfl, of_decide_eq_true rfl⟩, .inr rfl⟩
  | 32, _ => exact ⟨⟨of_decide_eq_true rfl, of_decide_eq_true rfl, of_decide_eq_true rfl⟩, .inr rfl⟩
  | 33, _ => exact ⟨⟨of_decide_eq_true rfl, of_decide_eq_true rfl, of_decide_eq_true rfl⟩, .inr rfl⟩
  | 34, _ => exact ⟨⟨of_decide_eq_true rfl, of_decide_eq_true rfl, of_decide_eq_true rfl⟩, .inr rfl⟩
  | 35, _ => exact ⟨⟨of_decide_eq_true rfl, of_decide_eq_true rfl, of_decide_eq_true rfl⟩, .inr rfl⟩
  | n + 36, h => omega
theorem take_skip {P : Program} {md : Region.Mode} {ops : Array Oper} {Q : Exit → Act → World → Prop} {S : World → Prop} {i d j : Nat} {b : Bool} {oi : Oper} {fuel : Nat} {listed : Array Bool} {tmps : Array Value} {df : List Deferred} {w : World} (hi : ops[i]? = some oi) (hd : oi.dst = some d)
    (hs : Region.noSelect ops = true) (hf : Region.free md ops listed i = true) (hr : (Region.ready md ops listed).contains i = true)
    (hQ : ∀ c a w, Q (.panic c) (a.put (some d) undef) w → Q (.panic c) a w) (hg : oi.guard = some (j, b)) (hy : yielded ops tmps j = some (!b)) (hS : S w)
    (h : wpAnyH P md ops Q S fuel (listed.setIfInBounds i true) ⟨tmps.setIfInBounds d undef, df⟩ w) : wpAnyH P md ops Q S (fuel + 1) listed ⟨tmps, df⟩ w :=
  wpAnyH_take hi hs hf hr (by rw [hd]; exact hQ) (.inr ⟨by unfold Region.wanted; rw [hg]; show (yielded ops tmps j == some b) = false; rw [hy]; cases b <;> rfl, rfl⟩) hS (by rw [hd]; exact h)
theorem take_do {P : Program} {md : Region.Mode} {ops : Array Oper} {Q : Exit → Act → World → Prop} {S : World → Prop} {i d : Nat} {v : Value} {oi : Oper} {fuel : Nat} {listed : Array Bool} {tmps : Array Value} {df : List Deferred} {w : World} (hi : ops[i]? = some oi) (hd : oi.dst = some d)
    (hs : Region.noSelect ops = true) (hf : Region.free md ops listed i = true) (hr : (Region.ready md ops listed).contains i = true)
    (hQ : ∀ c a w, Q (.panic c) (a.put (some d) v) w → Q (.panic c) a w) (hg : oi.guard = none) (hy : ∀ w, S w → (execOp (Act.eval ⟨tmps, df⟩) oi).run P w = .ok (.value v) w) (hS : S w)
    (h : wpAnyH P md ops Q S fuel (listed.setIfInBounds i true) ⟨tmps.setIfInBounds d v, df⟩ w) : wpAnyH P md ops Q S (fuel + 1) listed ⟨tmps, df⟩ w :=
  wpAnyH_take hi hs hf hr (by rw [hd]; exact hQ) (.inl ⟨by unfold Region.wanted; rw [hg], hy⟩) hS (by rw [hd]; exact h)
def KindPost (o : Option Int) (w : World) (e : Ending) (w' : World) : Prop := e = .returned (.tuple #[.int .i64 (o.getD 0), .bool o.isSome]) ∧ Below w.heap.size w w'
set_option maxRecDepth 100000 in
set_option maxHeartbeats 20000000 in
theorem kind_any (v : V) (n₀ : Nat) (w : World) (hn : n₀ ≤ w.heap.size) (hl : Lies n₀ w v) :
    Calls Tryz.prog 105 #[v.val] w (KindPost (kindV v.k v.l) w) := by
  obtain ⟨k, n, s, a, c, e, l, rfl⟩ := V.ex v
  rw [V.k_of, V.l_of]
  have HM := hide hl
  have hll := hl.ok.c
  have hlc := hl.ok.l
  clear hl
  rw [V.val_of]
  by_cases hk : k = 24
  · subst hk
    by_cases h2 : l.length = 2
    · obtain ⟨x, y, rfl⟩ : ∃ x y, l = [x, y] := by
        match l, h2 with
        | [x, y], _ => exact ⟨x, y, rfl⟩
      rw [kindV_two]
      obtain ⟨b, o, rfl, hlt, hr⟩ := HM.out.row (by simp)
      have hx := HM.out.sub x (by simp)
      have hr0 := hr 0 (by simp)
      obtain ⟨W0, hW0⟩ : ∃ W0, w.alloc (Obj.cells #[.int .i64 24, .int .u64 n, .string s, .slice (some ⟨b, o, none⟩) 2 c, .int .i64 e] 42) = W0 := ⟨_, rfl⟩
      have hs0 : W0.heap.size = w.heap.size + 1 := by rw [← hW0]; simp
      have hb0 : Below w.heap.size w W0 := by rw [← hW0]; exact bel1 (Below.refl _ _) (Nat.le_refl _) _
      have hv0 : W0.cell? ⟨w.heap.size, 3, none⟩ = some (.slice (some ⟨b, o, none⟩) 2 c) := by
        rw [← hW0]
        unfold World.cell?
        simp only [World.alloc_heap_new]
        rfl
      have HK := hide (kinds_any W0)
      have HX := hide hx
      clear hx HM
      have HW0 := hide hW0
      clear hW0
      show Calls Tryz.prog 105 #[.agg #[.int .i64 24, .int .u64 n, .string s, .slice (some ⟨b, o, none⟩) 2 c, .int .i64 e]] w _
      go_enter Tryz.func105, Tryz.ntmps105
      go_wp2_with fail
      rw [HW0.out]
      clear HW0
      refine HK.out.mono ?_
      rintro e w1 ⟨rfl, rfl⟩
      obtain ⟨W1, hW1⟩ : ∃ W1, W0.alloc (.cells kcells 61) = W1 := ⟨_, rfl⟩
      have hs1 : W1.heap.size = w.heap.size + 2 := by rw [← hW1]; simp; omega
      have hb1 : Below w.heap.size w W1 := by rw [← hW1]; exact bel1 hb0 (by omega) _
      have hv1 : W1.cell? ⟨w.heap.size, 3, none⟩ = some (.slice (some ⟨b, o, none⟩) 2 c) := by
        rw [← hW1, ← hv0]
        exact (bel1 (Below.refl _ _) (Nat.le_refl W0.heap.size) _).cell (p := ⟨w.heap.size, 3, none⟩) (by show w.heap.size < _; omega)
      have hk1 : KT W1 W0.heap.size := by rw [← hW1]; exact World.alloc_heap_new _ _
      rw [hs0] at hk1 ⊢
      rw [hW1]
      clear hW1 HK
      go_wp2
      go_loopw [17] (fun u wr => ∃ i : Nat, u = .int .i64 i ∧ i ≤ 36 ∧ Below W1.heap.size W1 wr ∧ Hid (kindL x.t krows = kindL x.t (krows.drop i))) (fun u _ => 37 - (intOf u).toNat)
      case atStart => exact ⟨0, rfl, by omega, Below.refl _ _, rfl⟩
      case round =>
        obtain ⟨i, rfl, hi, hb, HO⟩ := hrel
        have hsz := hb.size
        have hbw : Below w.heap.size w wr := belOn hb1 (by omega) hb
        by_cases h36 : i < 36
        · obtain ⟨k0, k1, k2⟩ := (hk1.below hb (by omega)).cells i h36
          obtain ⟨⟨n0a, n0b, n1c⟩, hf⟩ := krows_ok i h36
          have hst := kindL_step x.t krows i h36
          generalize (krows[i]'h36).1 = m0 at k0 hst n0a n0b
          generalize (krows[i]'h36).2.1 = m1 at k1 hst n1c
          generalize (krows[i]'h36).2.2 = m2 at k2 hf
          have HST := hide hst
          clear hst
          have hki : w.heap.size + 1 < wr.heap.size := by omega
          obtain ⟨WR, hWR⟩ : ∃ WR, wr.alloc (.cells #[.int .i64 m0, .string m1, m2] 61) = WR := ⟨_, rfl⟩
          have hsR : WR.heap.size = wr.heap.size + 1 := by rw [← hWR]; simp
          have hbR : Below w.heap.size w WR := by rw [← hWR]; exact bel1 hbw (by omega) _
          have hbR1 : Below W1.heap.size W1 WR := by rw [← hWR]; exact bel1 hb (by omega) _
          have hkR : WR.heap[wr.heap.size]? = some (.cells #[.int .i64 m0, .string m1, m2] 61) := by rw [← hWR]; exact World.alloc_heap_new _ _
          have HS : Hid (∀ W', Below WR.heap.size WR W' → W'.cell? ⟨w.heap.size, 3, none⟩ = some (.slice (some ⟨b, o, none⟩) 2 c) ∧ W'.cell? ⟨b, o, none⟩ = some (.int .i64 x.k) ∧ W'.cell? ⟨b, o + 1, none⟩ = some (.int .u64 x.n) ∧ W'.cell? ⟨b, o + 2, none⟩ = some (.string x.s) ∧ W'.cell? ⟨b, o + 3, none⟩ = some (.slice x.a x.l.length x.c) ∧ W'.cell? ⟨b, o + 4, none⟩ = some (.int .i64 x.e) ∧ W'.cell? ⟨wr.heap.size, 0, none⟩ = some (.int .i64 m0) ∧ W'.cell? ⟨wr.heap.size, 1, none⟩ = some (.string m1)) := by
            intro W' hb'
            have hbW := belOn hbR (by omega) hb'
            have e1 : ∀ o', W'.cell? ⟨b, o', none⟩ = w.cell? ⟨b, o', none⟩ := fun o' => hbW.cell (p := ⟨b, o', none⟩) (by show b < _; omega)
            have e2 : W'.heap[wr.heap.size]? = some (.cells #[.int .i64 m0, .string m1, m2] 61) := (hb'.block _ (by omega)).trans hkR
            have e3 : W'.cell? ⟨w.heap.size, 3, none⟩ = W1.cell? ⟨w.heap.size, 3, none⟩ := (hbR1.trans (hb'.mono (by omega))).cell (p := ⟨w.heap.size, 3, none⟩) (by show w.heap.size < _; omega)
            obtain ⟨q0, q1, q2, q3, q4⟩ := hr0
            refine ⟨e3.trans hv1, (e1 _).trans q0, (e1 _).trans q1, (e1 _).trans q2, (e1 _).trans q3, (e1 _).trans q4, ?_, ?_⟩
            · unfold World.cell?; simp only [e2]; rfl
            · unfold World.cell?; simp only [e2]; rfl
          have HB0 : Hid (Below WR.heap.size WR WR.drew) := (Below.refl _ _).drew
          have HN := hide (fun W => numbered_any m0 n0a (by omega) W)
          have HD := hide (fun W => named_any m1 W)
          have HE1 : Hid (∀ W', Below WR.heap.size WR W' → Calls Tryz.prog 114 #[x.val, (leaf 5 m0 ⟨#[]⟩).val] W' (fun e w' => e = .returned (.bool (eqT x.t (leaf 5 m0 ⟨#[]⟩).t)) ∧ Below W'.heap.size W' w')) := fun W' hb' => by
            have hbW := belOn hbR (by omega) hb'
            exact equal_any x (leaf 5 m0 ⟨#[]⟩) n₀ W' (Nat.le_trans hn hbW.size) (HX.out.keep hbW hn) (leaf_lies _ _ _ _ _ (by decide) ⟨n0a, by omega⟩ (by decide))
          have HE2 : Hid (∀ W', Below WR.heap.size WR W' → Calls Tryz.prog 114 #[x.val, (leaf 20 0 m1).val] W' (fun e w' => e = .returned (.bool (eqT x.t (leaf 20 0 m1).t)) ∧ Below W'.heap.size W' w')) := fun W' hb' => by
            have hbW := belOn hbR (by omega) hb'
            exact equal_any x (leaf 20 0 m1) n₀ W' (Nat.le_trans hn hbW.size) (HX.out.keep hbW hn) (leaf_lies _ _ _ _ _ (by decide) (by decide) (by omega))
          rw [leaf_val, V.val_eq] at HE1 HE2
          rw [leaf_val] at HN HD
          have HF := hide hf
          have HWR := hide hWR
          have hbl : b < wr.heap.size := by omega
          clear hWR hf hr hr0
          generalize hg1 : eqT x.t (leaf 5 m0 ⟨#[]⟩).t = r1 at HE1 HST
          generalize hg2 : eqT x.t (leaf 20 0 m1).t = r2 at HE2 HST
          clear hg1 hg2
          rcases HF.out with ⟨g, rfl⟩ | rfl
          all_goals
            clear HF
            go_wp2_with fail
            rw [HWR.out]
            cases r1
            · cases r2
              · go_region_held (fun W' => W'.cell? ⟨w.heap.size, 3, none⟩ = some (.slice (some ⟨b, o, none⟩) 2 c) ∧ W'.cell? ⟨b, o, none⟩ = some (.int .i64 x.k) ∧ W'.cell? ⟨b, o + 1, none⟩ = some (.int .u64 x.n) ∧ W'.cell? ⟨b, o + 2, none⟩ = some (.string x.s) ∧ W'.cell? ⟨b, o + 3, none⟩ = some (.slice x.a x.l.length x.c) ∧ W'.cell? ⟨b, o + 4, none⟩ = some (.int .i64 x.e) ∧ W'.cell? ⟨wr.heap.size, 0, none⟩ = some (.int .i64 m0) ∧ W'.cell? ⟨wr.heap.size, 1, none⟩ = some (.string m1)) (first | exact HS.out _ HB4.out | exact HS.out _ HB3.out | exact HS.out _ HB2.out | exact HS.out _ HB1.out | exact HS.out _ HB0.out) (first | (go_at_call 115; refine Calls.mono (HN.out _) ?_; rintro e1 w1 ⟨rfl, hb1⟩; have HB1 : Hid (Below WR.heap.size WR w1) := belOn HB0.out HB0.out.size hb1; clear hb1) | (go_at_call 125; refine Calls.mono (HD.out _) ?_; rintro e3 w3 ⟨rfl, hb3⟩; have HB3 : Hid (Below WR.heap.size WR w3) := belOn HB2.out HB2.out.size hb3; clear hb3) | (go_at_call 114; have HB5 := HB3; refine Calls.mono (HE2.out _ HB5.out) ?_; clear HB5; rintro e4 w4 ⟨rfl, hb4⟩; have HB4 : Hid (Below WR.heap.size WR w4) := belOn HB3.out HB3.out.size hb4; clear hb4) | (go_at_call 114; refine Calls.mono (HE1.out _ HB1.out) ?_; rintro e2 w2 ⟨rfl, hb2⟩; have HB2 : Hid (Below WR.heap.size WR w2) := belOn HB1.out HB1.out.size hb2; clear hb2))
                have hsz' := HB4.out.size
                go_wp2
                go_roundw
                case rel => exact ⟨i + 1, by go_num, by omega, hbR1.trans (HB4.out.mono (by omega)), by rw [HO.out, HST.out]; rfl⟩
                case measure => simp [intOf]; omega
              · go_region_held (fun W' => W'.cell? ⟨w.heap.size, 3, none⟩ = some (.slice (some ⟨b, o, none⟩) 2 c) ∧ W'.cell? ⟨b, o, none⟩ = some (.int .i64 x.k) ∧ W'.cell? ⟨b, o + 1, none⟩ = some (.int .u64 x.n) ∧ W'.cell? ⟨b, o + 2, none⟩ = some (.string x.s) ∧ W'.cell? ⟨b, o + 3, none⟩ = some (.slice x.a x.l.length x.c) ∧ W'.cell? ⟨b, o + 4, none⟩ = some (.int .i64 x.e) ∧ W'.cell? ⟨wr.heap.size, 0, none⟩ = some (.int .i64 m0) ∧ W'.cell? ⟨wr.heap.size, 1, none⟩ = some (.string m1)) (first | exact HS.out _ HB4.out | exact HS.out _ HB3.out | exact HS.out _ HB2.out | exact HS.out _ HB1.out | exact HS.out _ HB0.out) (first | (go_at_call 115; refine Calls.mono (HN.out _) ?_; rintro e1 w1 ⟨rfl, hb1⟩; have HB1 : Hid (Below WR.heap.size WR w1) := belOn HB0.out HB0.out.size hb1; clear hb1) | (go_at_call 125; refine Calls.mono (HD.out _) ?_; rintro e3 w3 ⟨rfl, hb3⟩; have HB3 : Hid (Below WR.heap.size WR w3) := belOn HB2.out HB2.out.size hb3; clear hb3) | (go_at_call 114; have HB5 := HB3; refine Calls.mono (HE2.out _ HB5.out) ?_; clear HB5; rintro e4 w4 ⟨rfl, hb4⟩; have HB4 : Hid (Below WR.heap.size WR w4) := belOn HB3.out HB3.out.size hb4; clear hb4) | (go_at_call 114; refine Calls.mono (HE1.out _ HB1.out) ?_; rintro e2 w2 ⟨rfl, hb2⟩; have HB2 : Hid (Below WR.heap.size WR w2) := belOn HB1.out HB1.out.size hb2; clear hb2))
                have hkk := (HS.out _ HB4.out).2.2.2.2.2.2.1
                have hsz' := HB4.out.size
                have hwl : wr.heap.size < w4.heap.size := by omega
                go_wp2
                refine bodyPost_ret (v := .tuple #[.int .i64 m0, .bool true]) (by simp [results, Tryz.results105, go_sem]) rfl ⟨?_, belOn hbR (by omega) HB4.out⟩
                rw [HO.out, HST.out]
                rfl
            · refine wp_region_held_drew (S := (fun W' => W'.cell? ⟨w.heap.size, 3, none⟩ = some (.slice (some ⟨b, o, none⟩) 2 c) ∧ W'.cell? ⟨b, o, none⟩ = some (.int .i64 x.k) ∧ W'.cell? ⟨b, o + 1, none⟩ = some (.int .u64 x.n) ∧ W'.cell? ⟨b, o + 2, none⟩ = some (.string x.s) ∧ W'.cell? ⟨b, o + 3, none⟩ = some (.slice x.a x.l.length x.c) ∧ W'.cell? ⟨b, o + 4, none⟩ = some (.int .i64 x.e) ∧ W'.cell? ⟨wr.heap.size, 0, none⟩ = some (.int .i64 m0) ∧ W'.cell? ⟨wr.heap.size, 1, none⟩ = some (.string m1))) (by kernel_rfl) (HS.out _ HB0.out) (fun hHeld => ?_)
              refine take_do (i := 0) (d := 21) (v := ?_) rfl rfl (by kernel_rfl) (by kernel_rfl) (by kernel_rfl) (fun _ _ _ h => h) rfl ?_ (by assumption) ?_
              rotate_left
              · intro w hSw
                try dsimp only at hSw
                go_simp
                try with_reducible rfl
              try simp only [List.setIfInBounds_toArray, List.set_cons_zero, List.set_cons_succ]
              refine take_do (i := 1) (d := 22) (v := ?_) rfl rfl (by kernel_rfl) (by kernel_rfl) (by kernel_rfl) (fun _ _ _ h => h) rfl ?_ (by assumption) ?_
              rotate_left
              · intro w hSw
                try dsimp only at hSw
                go_simp
                try with_reducible rfl
              try simp only [List.setIfInBounds_toArray, List.set_cons_zero, List.set_cons_succ]
              refine take_do (i := 2) (d := 23) (v := ?_) rfl rfl (by kernel_rfl) (by kernel_rfl) (by kernel_rfl) (fun _ _ _ h => h) rfl ?_ (by assumption) ?_
              rotate_left
              · intro w hSw
                try dsimp only at hSw
                go_simp
                try with_reducible rfl
              try simp only [List.setIfInBounds_toArray, List.set_cons_zero, List.set_cons_succ]
              refine take_do (i := 3) (d := 24) (v := ?_) rfl rfl (by kernel_rfl) (by kernel_rfl) (by kernel_rfl) (fun _ _ _ h => h) rfl ?_ (by assumption) ?_
              rotate_left
              · intro w hSw
                try dsimp only at hSw
                go_simp
                try with_reducible rfl
              try simp only [List.setIfInBounds_toArray, List.set_cons_zero, List.set_cons_succ]
              refine take_do (i := 4) (d := 25) (v := ?_) rfl rfl (by kernel_rfl) (by kernel_rfl) (by kernel_rfl) (fun _ _ _ h => h) rfl ?_ (by assumption) ?_
              rotate_left
              · intro w hSw
                try dsimp only at hSw
                go_simp
                try with_reducible rfl
              try simp only [List.setIfInBounds_toArray, List.set_cons_zero, List.set_cons_succ]
              refine take_do (i := 5) (d := 26) (v := ?_) rfl rfl (by kernel_rfl) (by kernel_rfl) (by kernel_rfl) (fun _ _ _ h => h) rfl ?_ (by assumption) ?_
              rotate_left
              · intro w hSw
                try dsimp only at hSw
                go_simp
                try with_reducible rfl
              try simp only [List.setIfInBounds_toArray, List.set_cons_zero, List.set_cons_succ]
              refine wpAnyH_ready (rs := [6]) (by kernel_rfl) (by simp) ?_
              refine AllReadyH.cons rfl (fun K hK => ?_) AllReadyH.nil
              go_simp
              go_wp2_with (go_at_call 115; refine Calls.mono (HN.out _) ?_; rintro e1 w1 ⟨rfl, hb1⟩; have HB1 : Hid (Below WR.heap.size WR w1) := belOn HB0.out HB0.out.size hb1; clear hb1)
              refine hK.out _ _ (HS.out _ HB1.out) (fun hHeld => ?_)
              clear hK K
              refine wpAnyH_ready (rs := [7]) (by kernel_rfl) (by simp) ?_
              refine AllReadyH.cons rfl (fun K hK => ?_) AllReadyH.nil
              go_simp
              go_wp2_with (go_at_call 114; refine Calls.mono (HE1.out _ HB1.out) ?_; rintro e2 w2 ⟨rfl, hb2⟩; have HB2 : Hid (Below WR.heap.size WR w2) := belOn HB1.out HB1.out.size hb2; clear hb2)
              refine hK.out _ _ (HS.out _ HB2.out) (fun hHeld => ?_)
              clear hK K
              refine take_do (i := 8) (d := 29) (v := ?_) rfl rfl (by kernel_rfl) (by kernel_rfl) (by kernel_rfl) (fun _ _ _ h => h) rfl ?_ (by assumption) ?_
              rotate_left
              · intro w hSw
                try dsimp only at hSw
                go_simp
                try with_reducible rfl
              try simp only [List.setIfInBounds_toArray, List.set_cons_zero, List.set_cons_succ]
              refine take_skip (i := 9) (d := 30) (j := 8) (b := false) rfl rfl (by kernel_rfl) (by kernel_rfl) (by kernel_rfl) (fun _ _ _ h => h) rfl rfl (by assumption) ?_
              try simp only [List.setIfInBounds_toArray, List.set_cons_zero, List.set_cons_succ]
              refine take_skip (i := 10) (d := 31) (j := 8) (b := false) rfl rfl (by kernel_rfl) (by kernel_rfl) (by kernel_rfl) (fun _ _ _ h => h) rfl rfl (by assumption) ?_
              try simp only [List.setIfInBounds_toArray, List.set_cons_zero, List.set_cons_succ]
              refine take_skip (i := 11) (d := 32) (j := 8) (b := false) rfl rfl (by kernel_rfl) (by kernel_rfl) (by kernel_rfl) (fun _ _ _ h => h) rfl rfl (by assumption) ?_
              try simp only [List.setIfInBounds_toArray, List.set_cons_zero, List.set_cons_succ]
              refine take_skip (i := 12) (d := 33) (j := 8) (b := false) rfl rfl (by kernel_rfl) (by kernel_rfl) (by kernel_rfl) (fun _ _ _ h => h) rfl rfl (by assumption) ?_
              try simp only [List.setIfInBounds_toArray, List.set_cons_zero, List.set_cons_succ]
              refine take_skip (i := 13) (d := 34) (j := 8) (b := false) rfl rfl (by kernel_rfl) (by kernel_rfl) (by kernel_rfl) (fun _ _ _ h => h) rfl rfl (by assumption) ?_
              try simp only [List.setIfInBounds_toArray, List.set_cons_zero, List.set_cons_succ]
              refine take_skip (i := 14) (d := 35) (j := 8) (b := false) rfl rfl (by kernel_rfl) (by kernel_rfl) (by kernel_rfl) (fun _ _ _ h => h) rfl rfl (by assumption) ?_
              try simp only [List.setIfInBounds_toArray, List.set_cons_zero, List.set_cons_succ]
              refine take_skip (i := 15) (d := 36) (j := 8) (b := false) rfl rfl (by kernel_rfl) (by kernel_rfl) (by kernel_rfl) (fun _ _ _ h => h) rfl rfl (by assumption) ?_
              try simp only [List.setIfInBounds_toArray, List.set_cons_zero, List.set_cons_succ]
              refine take_skip (i := 16) (d := 37) (j := 8) (b := false) rfl rfl (by kernel_rfl) (by kernel_rfl) (by kernel_rfl) (fun _ _ _ h => h) rfl rfl (by assumption) ?_
              try simp only [List.setIfInBounds_toArray, List.set_cons_zero, List.set_cons_succ]
              refine take_do (i := 17) (d := 38) (v := ?_) rfl rfl (by kernel_rfl) (by kernel_rfl) (by kernel_rfl) (fun _ _ _ h => h) rfl ?_ (by assumption) ?_
              rotate_left
              · intro w hSw
                try dsimp only at hSw
                go_simp
                try with_reducible rfl
              try simp only [List.setIfInBounds_toArray, List.set_cons_zero, List.set_cons_succ]
              refine wpAnyH_done (by kernel_rfl) ?_ _
              have hkk := (HS.out _ HB2.out).2.2.2.2.2.2.1
              have hsz' := HB2.out.size
              have hwl : wr.heap.size < w2.heap.size := by omega
              go_wp2
              refine bodyPost_ret (v := .tuple #[.int .i64 m0, .bool true]) (by simp [results, Tryz.results105, go_sem]) rfl ⟨?_, belOn hbR (by omega) HB2.out⟩
              rw [HO.out, HST.out]
              rfl
        · have h36' : i = 36 := by omega
          subst h36'
          go_wp2
          refine bodyPost_ret (v := .tuple #[.int .i64 0, .bool false]) (by simp [results, Tryz.results105, go_sem]) rfl ⟨?_, hbw⟩
          rw [HO.out]
          rfl
    · rw [kindV_l _ h2]
      go_enter Tryz.func105, Tryz.ntmps105
      have h2' : ((l.length : Int) == 2) = false := by rw [beq_eq_false_iff_ne]; omega
      have h2n : ((l.length : Int) != 2) = true := by simpa using h2'
      go_wp2
      exact bodyPost_ret (v := .tuple #[.int .i64 0, .bool false]) (by simp [results, Tryz.results105, go_sem]) rfl ⟨rfl, bel1 (Below.refl _ _) (Nat.le_refl _) _⟩
  · rw [kindV_k hk]
    go_enter Tryz.func105, Tryz.ntmps105
    have hkb : ((k : Int) == 24) = false := by simpa using hk
    have hkn : (k != 24) = true := by simpa using hk
    go_wp2
    exact bodyPost_ret (v := .tuple #[.int .i64 0, .bool false]) (by simp [results, Tryz.results105, go_sem]) rfl ⟨rfl, bel1 (Below.refl _ _) (Nat.le_refl _) _⟩
def FieldsAll (o : Option (List FS)) (W : World) (e : Ending) (w' : World) : Prop := Below W.heap.size W w' ∧ match o with
  | none => e = .returned (.tuple #[.slice none 0 0, .bool false])
  | some l => ∃ (a : Option Addr) (fs : List Fd), e = .returned (.tuple #[.slice a l.length l.length, .bool true]) ∧ Hid (FieldsIn l W a fs w')
set_option maxRecDepth 100000 in
theorem run_neq_nil2 (w : World) : (binOp BinOp.neq 59 .nilFunc .nilFunc).run Tryz.prog w = .ok (.bool false) w := by
  first
  | rfl
  | kernel_rfl
  | simp [binOp, run_underlying Tryz.underlying59, go_sem]
theorem FieldsIn.from {l : List FS} {W W2 : World} {a : Option Addr} {fs : List Fd} {w' : World} (h : FieldsIn l W2 a fs w') (hs : W.heap.size ≤ W2.heap.size) : FieldsIn l W a fs w' := by
  refine ⟨h.1, fun h0 => ?_, fun i hi hi' => ?_⟩
  · obtain ⟨b, e, h1, h2, h3⟩ := h.2.1 h0
    exact ⟨b, e, by omega, h2, h3⟩
  · obtain ⟨e1, e2, e3, e4, e5, e6, e7⟩ := h.2.2 i hi hi'
    refine ⟨e1, e2, e3, e4, e5, e6, fun h0 => ?_⟩
    obtain ⟨b, e, h1, h2, h3⟩ := e7 h0
    exact ⟨b, e, by omega, h2, h3⟩
set_option maxRecDepth 100000 in
set_option maxHeartbeats 2000000 in
theorem fields_any (kind : Int) (w : World) : Calls Tryz.prog 8 #[.int .i64 kind] w (FieldsAll (ftab kind) w) := by
  have HK := hide (kinds_any w)
  go_enter Tryz.func8, Tryz.ntmps8
  go_wp2_with fail
  refine HK.out.mono ?_
  rintro e w1 ⟨rfl, rfl⟩
  obtain ⟨W1, hW1⟩ : ∃ W1, w.alloc (.cells kcells 61) = W1 := ⟨_, rfl⟩
  have hs1 : W1.heap.size = w.heap.size + 1 := by rw [← hW1]; simp
  have hb1 : Below w.heap.size w W1 := by rw [← hW1]; exact bel1 (Below.refl _ _) (Nat.le_refl _) _
  have hk1 : KT W1 w.heap.size := by rw [← hW1]; exact World.alloc_heap_new _ _
  rw [hW1]
  clear hW1
  go_wp2
  go_loopw [8] (fun u wr => ∃ i : Nat, u = .int .i64 i ∧ i ≤ 36 ∧ Below W1.heap.size W1 wr ∧ Hid (∀ j (hj : j < krows.length), j < i → krows[j].1 = kind → krows[j].2.2 = .nilFunc)) (fun u _ => 37 - (intOf u).toNat)
  case atStart => exact ⟨0, rfl, by omega, Below.refl _ _, fun j _ h => absurd h (by omega)⟩
  case round =>
    obtain ⟨i, rfl, hi, hb, HN⟩ := hrel
    have hsz := hb.size
    have hlt : w.heap.size < wr.heap.size := by omega
    have hbw : Below w.heap.size w wr := belOn hb1 (by omega) hb
    by_cases h36 : i < 36
    · have hik : i < krows.length := by rw [krows_len]; exact h36
      have hc := (hk1.below hb (by omega)).cells i hik
      obtain ⟨k0, k1, k2⟩ := hc
      have hrow := row_ok i h36 hik
      generalize hr : krows[i] = r at k0 k1 k2 hrow
      obtain ⟨n0, n1, n2⟩ := r
      dsimp only at k0 k1 k2 hrow
      have HNX : Hid ((n0 = kind → n2 = .nilFunc) → ∀ j (hj : j < krows.length), j < i + 1 → krows[j].1 = kind → krows[j].2.2 = .nilFunc) := by
        intro hq j hj hlt he
        by_cases e : j = i
        · subst e
          rw [hr] at he ⊢
          exact hq he
        · exact HN.out j hj (by omega) he
      clear hr HN
      by_cases hk : n0 = kind
      · subst hk
        have hkb : ((n0 : Int) == n0) = true := by simp
        rcases hrow with ⟨rfl, hft⟩ | ⟨g, l, rfl, hft, hen, hg⟩
        · clear hft
          go_wp2_with fail
          try rw [run_neq_nil2]
          go_wp2
          go_roundw
          case rel => exact ⟨i + 1, by go_num, by omega, bel1 hb (by omega) _, HNX.out (fun _ => by first | rfl | trivial)⟩
          case measure => simp [intOf]; omega
        · have HFT := hide hft
          have HG := hide hg
          have HEN := hide hen
          clear hft hg hen HNX
          go_wp2_with fail
          rw [run_neq_nil]
          go_wp2_with fail
          rw [HEN.out]
          refine (HG.out _).mono ?_
          rintro e2 w2 ⟨a, fs, rfl, HF, hb2⟩
          have hbx : Below w.heap.size w w2 := belOn (bel1 hbw (by omega) _) (by simp; omega) hb2
          clear hb2
          go_wp2
          exact bodyPost_ret (v := .tuple #[.slice a l.length l.length, .bool true]) (by simp [results, Tryz.results8, go_sem]) rfl ⟨hbx, by rw [HFT.out]; exact ⟨a, fs, rfl, HF.out.from (by simp; omega)⟩⟩
      · have hkb : (n0 == kind) = false := by simpa using hk
        have HNY := hide (HNX.out (fun h => absurd h hk))
        clear HNX
        rcases hrow with ⟨rfl, _⟩ | ⟨g, l, rfl, _, _, _⟩
        all_goals
          go_wp2
          go_roundw
          case rel => exact ⟨i + 1, by go_num, by omega, bel1 hb (by omega) _, HNY⟩
          case measure => simp [intOf]; omega
    · have hie : i = 36 := by omega
      subst hie
      have hft : ftab kind = none := ftab_none (fun j hj he => HN.out j hj (by rw [krows_len] at hj; exact hj) he)
      have HFT := hide hft
      clear hft HN
      go_wp2
      exact bodyPost_ret (v := .tuple #[.slice none 0 0, .bool false]) (by simp [results, Tryz.results8, go_sem]) rfl ⟨hbw, by rw [HFT.out]⟩
theorem fields_some {kind : Int} {fs0 : List FS} {N : Nat} (hft : ftab kind = some fs0) (hN : fs0.length = N) (W : World) : Calls Tryz.prog 8 #[.int .i64 kind] W fun e w' => ∃ (a : Option Addr) (fs : List Fd), e = .returned (.tuple #[.slice a N N, .bool true]) ∧ Hid (FieldsIn fs0 W a fs w') ∧ Below W.heap.size W w' := by
  refine (fields_any kind W).mono ?_
  rintro e w' ⟨hb, h⟩
  rw [hft] at h
  obtain ⟨a, fs, rfl, h⟩ := h
  rw [hN]
  exact ⟨a, fs, rfl, h, hb⟩
theorem fields_none {kind : Int} (hft : ftab kind = none) (W : World) : Calls Tryz.prog 8 #[.int .i64 kind] W fun e w' => e = .returned (.tuple #[.slice none 0 0, .bool false]) ∧ Below W.heap.size W w' := by
  refine (fields_any kind W).mono ?_
  rintro e w' ⟨hb, h⟩
  rw [hft] at h
  exact ⟨h, hb⟩
theorem FRA.below {B : Nat} {W w : World} {a : Option Addr} {fs : List Fd} {lo hi : Nat} (h : FRA W a fs lo hi) (hb : Below B W w) (hlt : hi ≤ B) : FRA w a fs lo hi := by
  intro h0
  obtain ⟨b, e, h1, h2, h3⟩ := h h0
  exact ⟨b, e, h1, h2, h3.below hb (by omega)⟩
theorem FRA.same {W w : World} {a : Option Addr} {fs : List Fd} {lo hi : Nat} (h : FRA W a fs lo hi) (hs : ∀ b, b < hi → Same W w b) : FRA w a fs lo hi := by
  intro h0
  obtain ⟨b, e, h1, h2, h3⟩ := h h0
  exact ⟨b, e, h1, h2, fun i hi j hj => (hs b h2 _).trans (h3 i hi j hj)⟩
def okFS (f : FS) : Bool := decide (0 ≤ f.dk) && decide (f.dk ≤ 24) && decide (0 ≤ f.dn) && decide (f.dn ≤ 4294967295) && decide (f.ds.size ≤ 100) && decide (0 ≤ f.ty) && decide (f.ty ≤ 102) && decide (f.ks.length ≤ 10) && decide (f.name.size ≤ 100)
set_option maxRecDepth 100000 in
theorem ftab_small : ftabL.all (fun p => decide ((p.2.getD []).length ≤ 20) && (p.2.getD []).all okFS) = true := by kernel_rfl
theorem ftab_ok {k : Int} {fs : List FS} (h : ftab k = some fs) : fs.length ≤ 20 ∧ ∀ f ∈ fs, okFS f = true := by
  unfold ftab at h
  cases hf : ftabL.find? (fun p => p.1 == k) with
  | none => rw [hf] at h; cases h
  | some p =>
    rw [hf] at h
    have h1 := List.all_eq_true.1 ftab_small p (List.mem_of_find?_eq_some hf)
    have h2 : p.2 = some fs := h
    rw [h2, Bool.and_eq_true] at h1
    exact ⟨of_decide_eq_true h1.1, fun f hf => List.all_eq_true.1 h1.2 f hf⟩
theorem okFS_lies {f : FS} (h : okFS f = true) (n : Nat) (W : World) : Lies n W f.d := by
  unfold okFS at h
  simp only [Bool.and_eq_true, decide_eq_true_eq] at h
  exact leaf_lies _ _ _ _ _ ⟨by omega, by omega⟩ ⟨by omega, by omega⟩ (by omega)
theorem ftab_pos {k : Int} {fs : List FS} (h : ftab k = some fs) : 1 ≤ k ∧ k ≤ 200 := by
  unfold ftab at h
  cases hf : ftabL.find? (fun p => p.1 == k) with
  | none => rw [hf] at h; cases h
  | some p =>
    have hk : p.1 = k := by simpa using List.find?_some hf
    have h1 : ftabL.all (fun p => decide (1 ≤ p.1) && decide (p.1 ≤ 200)) = true := by kernel_rfl
    have h2 := List.all_eq_true.1 h1 p (List.mem_of_find?_eq_some hf)
    rw [Bool.and_eq_true] at h2
    rw [← hk]
    exact ⟨of_decide_eq_true h2.1, of_decide_eq_true h2.2⟩
end Go.Proofs.YtgldcchleoklcaaGreatDoor
