import Derived.Test.YtlpngpininkjnaaGreatDoorHGTabZ

/- shape: the table of fields. -/
namespace Go.Proofs.YtlpngpininkjnaaGreatDoor
open Go.RowKit
set_option linter.unusedVariables false
set_option linter.unusedSimpArgs false
def fs_dispositionFields : List FS := [⟨⟨#[114, 111, 108, 101]⟩, 1, [], true, 0, 0, ⟨#[]⟩⟩, ⟨⟨#[102, 105, 114, 115, 116]⟩, 4, [], true, 0, 0, ⟨#[]⟩⟩, ⟨⟨#[108, 97, 115, 116]⟩, 4, [], false, 0, 0, ⟨#[]⟩⟩, ⟨⟨#[115, 101, 116, 116, 108, 101, 100]⟩, 1, [], false, 1, 0, ⟨#[]⟩⟩, ⟨⟨#[115, 116, 97, 116, 101]⟩, 102, [35, 36, 37, 38, 39, 51, 52], false, 0, 0, ⟨#[]⟩⟩, ⟨⟨#[98, 97, 116, 99, 104, 97, 98, 108, 101]⟩, 1, [], false, 1, 0, ⟨#[]⟩⟩]
set_option maxRecDepth 100000 in
set_option maxHeartbeats 8000000 in
theorem dispositionFields_row (w : World) : Calls Tryz.prog 33 #[] w (FieldsRow fs_dispositionFields w) := by
  have HC_states := hide (fun W => states_any W)
  go_enter Tryz.func33, Tryz.ntmps33
  go_wp2_with fail
  refine (HC_states.out _).mono ?_
  rintro e1 w1 ⟨rfl, rfl⟩
  go_wp2
  go_ret
  refine ⟨some ⟨w.heap.size + 1, 0, none⟩, [⟨⟨#[114, 111, 108, 101]⟩, 1, none, 0, 0, true, leaf 0 0 ⟨#[]⟩⟩, ⟨⟨#[102, 105, 114, 115, 116]⟩, 4, none, 0, 0, true, leaf 0 0 ⟨#[]⟩⟩, ⟨⟨#[108, 97, 115, 116]⟩, 4, none, 0, 0, false, leaf 0 0 ⟨#[]⟩⟩, ⟨⟨#[115, 101, 116, 116, 108, 101, 100]⟩, 1, none, 0, 0, false, leaf 1 0 ⟨#[]⟩⟩, ⟨⟨#[115, 116, 97, 116, 101]⟩, 102, some ⟨w.heap.size, 0, none⟩, 7, 7, false, leaf 0 0 ⟨#[]⟩⟩, ⟨⟨#[98, 97, 116, 99, 104, 97, 98, 108, 101]⟩, 1, none, 0, 0, false, leaf 1 0 ⟨#[]⟩⟩], rfl, ⟨rfl, fun _ => ⟨_, rfl, by omega, by simp, ?_⟩, ?_⟩, ?_⟩
  · exact FRow.flat (heap_at1 _ _ _) rfl
  · intro i h h'
    have h3 : i < 6 := h
    obtain rfl | rfl | rfl | rfl | rfl | rfl : i = 0 ∨ i = 1 ∨ i = 2 ∨ i = 3 ∨ i = 4 ∨ i = 5 := by omega
    · exact ⟨rfl, rfl, rfl, rfl, rfl, rfl, fun h => absurd h (Nat.lt_irrefl 0)⟩
    · exact ⟨rfl, rfl, rfl, rfl, rfl, rfl, fun h => absurd h (Nat.lt_irrefl 0)⟩
    · exact ⟨rfl, rfl, rfl, rfl, rfl, rfl, fun h => absurd h (Nat.lt_irrefl 0)⟩
    · exact ⟨rfl, rfl, rfl, rfl, rfl, rfl, fun h => absurd h (Nat.lt_irrefl 0)⟩
    · exact ⟨rfl, rfl, rfl, rfl, rfl, rfl, fun _ => ⟨_, rfl, by omega, (by first | (simp; done) | (simp; omega)), heap_past (World.alloc_heap_new _ _) _⟩⟩
    · exact ⟨rfl, rfl, rfl, rfl, rfl, rfl, fun h => absurd h (Nat.lt_irrefl 0)⟩
  · exact bel2 (Below.refl _ _) (Nat.le_refl _) _ _
def fs_detachFields : List FS := [⟨⟨#[104, 97, 110, 100, 108, 101]⟩, 4, [], true, 0, 0, ⟨#[]⟩⟩, ⟨⟨#[99, 108, 111, 115, 101, 100]⟩, 1, [], false, 1, 0, ⟨#[]⟩⟩, ⟨⟨#[102, 97, 117, 108, 116]⟩, 102, [29], false, 0, 0, ⟨#[]⟩⟩]
set_option maxRecDepth 100000 in
set_option maxHeartbeats 8000000 in
theorem detachFields_row (w : World) : Calls Tryz.prog 34 #[] w (FieldsRow fs_detachFields w) := by
  go_enter Tryz.func34, Tryz.ntmps34
  go_wp2
  go_ret
  refine ⟨some ⟨w.heap.size + 1, 0, none⟩, [⟨⟨#[104, 97, 110, 100, 108, 101]⟩, 4, none, 0, 0, true, leaf 0 0 ⟨#[]⟩⟩, ⟨⟨#[99, 108, 111, 115, 101, 100]⟩, 1, none, 0, 0, false, leaf 1 0 ⟨#[]⟩⟩, ⟨⟨#[102, 97, 117, 108, 116]⟩, 102, some ⟨w.heap.size, 0, none⟩, 1, 1, false, leaf 0 0 ⟨#[]⟩⟩], rfl, ⟨rfl, fun _ => ⟨_, rfl, by omega, by simp, ?_⟩, ?_⟩, ?_⟩
  · exact FRow.flat (heap_at1 _ _ _) rfl
  · intro i h h'
    have h3 : i < 3 := h
    obtain rfl | rfl | rfl : i = 0 ∨ i = 1 ∨ i = 2 := by omega
    · exact ⟨rfl, rfl, rfl, rfl, rfl, rfl, fun h => absurd h (Nat.lt_irrefl 0)⟩
    · exact ⟨rfl, rfl, rfl, rfl, rfl, rfl, fun h => absurd h (Nat.lt_irrefl 0)⟩
    · exact ⟨rfl, rfl, rfl, rfl, rfl, rfl, fun _ => ⟨_, rfl, by omega, (by first | (simp; done) | (simp; omega)), heap_past (World.alloc_heap_new _ _) _⟩⟩
  · exact bel2 (Below.refl _ _) (Nat.le_refl _) _ _
def fs_coordinatorFields : List FS := [⟨⟨#[99, 97, 112, 115]⟩, 101, [], false, 0, 0, ⟨#[]⟩⟩]
set_option maxRecDepth 100000 in
set_option maxHeartbeats 8000000 in
theorem coordinatorFields_row (w : World) : Calls Tryz.prog 42 #[] w (FieldsRow fs_coordinatorFields w) := by
  go_enter Tryz.func42, Tryz.ntmps42
  go_wp2
  go_ret
  refine ⟨some ⟨w.heap.size, 0, none⟩, [⟨⟨#[99, 97, 112, 115]⟩, 101, none, 0, 0, false, leaf 0 0 ⟨#[]⟩⟩], rfl, ⟨rfl, fun _ => ⟨_, rfl, by omega, by simp, ?_⟩, ?_⟩, ?_⟩
  · exact FRow.flat (World.alloc_heap_new _ _) rfl
  · intro i h h'
    have h3 : i < 1 := h
    obtain rfl : i = 0 := by omega
    · exact ⟨rfl, rfl, rfl, rfl, rfl, rfl, fun h => absurd h (Nat.lt_irrefl 0)⟩
  · exact bel1 (Below.refl _ _) (Nat.le_refl _) _
def fs_mechanismsFields : List FS := [⟨⟨#[109, 101, 99, 104, 115]⟩, 101, [], true, 0, 0, ⟨#[]⟩⟩]
set_option maxRecDepth 100000 in
set_option maxHeartbeats 8000000 in
theorem mechanismsFields_row (w : World) : Calls Tryz.prog 46 #[] w (FieldsRow fs_mechanismsFields w) := by
  go_enter Tryz.func46, Tryz.ntmps46
  go_wp2
  go_ret
  refine ⟨some ⟨w.heap.size, 0, none⟩, [⟨⟨#[109, 101, 99, 104, 115]⟩, 101, none, 0, 0, true, leaf 0 0 ⟨#[]⟩⟩], rfl, ⟨rfl, fun _ => ⟨_, rfl, by omega, by simp, ?_⟩, ?_⟩, ?_⟩
  · exact FRow.flat (World.alloc_heap_new _ _) rfl
  · intro i h h'
    have h3 : i < 1 := h
    obtain rfl : i = 0 := by omega
    · exact ⟨rfl, rfl, rfl, rfl, rfl, rfl, fun h => absurd h (Nat.lt_irrefl 0)⟩
  · exact bel1 (Below.refl _ _) (Nat.le_refl _) _
def fs_initFields : List FS := [⟨⟨#[109, 101, 99, 104]⟩, 20, [], true, 0, 0, ⟨#[]⟩⟩, ⟨⟨#[114, 101, 115, 112, 111, 110, 115, 101]⟩, 18, [], false, 0, 0, ⟨#[]⟩⟩, ⟨⟨#[104, 111, 115, 116]⟩, 19, [], false, 0, 0, ⟨#[]⟩⟩]
set_option maxRecDepth 100000 in
set_option maxHeartbeats 8000000 in
theorem initFields_row (w : World) : Calls Tryz.prog 47 #[] w (FieldsRow fs_initFields w) := by
  go_enter Tryz.func47, Tryz.ntmps47
  go_wp2
  go_ret
  refine ⟨some ⟨w.heap.size, 0, none⟩, [⟨⟨#[109, 101, 99, 104]⟩, 20, none, 0, 0, true, leaf 0 0 ⟨#[]⟩⟩, ⟨⟨#[114, 101, 115, 112, 111, 110, 115, 101]⟩, 18, none, 0, 0, false, leaf 0 0 ⟨#[]⟩⟩, ⟨⟨#[104, 111, 115, 116]⟩, 19, none, 0, 0, false, leaf 0 0 ⟨#[]⟩⟩], rfl, ⟨rfl, fun _ => ⟨_, rfl, by omega, by simp, ?_⟩, ?_⟩, ?_⟩
  · exact FRow.flat (World.alloc_heap_new _ _) rfl
  · intro i h h'
    have h3 : i < 3 := h
    obtain rfl | rfl | rfl : i = 0 ∨ i = 1 ∨ i = 2 := by omega
    · exact ⟨rfl, rfl, rfl, rfl, rfl, rfl, fun h => absurd h (Nat.lt_irrefl 0)⟩
    · exact ⟨rfl, rfl, rfl, rfl, rfl, rfl, fun h => absurd h (Nat.lt_irrefl 0)⟩
    · exact ⟨rfl, rfl, rfl, rfl, rfl, rfl, fun h => absurd h (Nat.lt_irrefl 0)⟩
  · exact bel1 (Below.refl _ _) (Nat.le_refl _) _
def fs_propertiesFields : List FS := [⟨⟨#[109, 101, 115, 115, 97, 103, 101, 45, 105, 100]⟩, 100, [], false, 0, 0, ⟨#[]⟩⟩, ⟨⟨#[117, 115, 101, 114, 45, 105, 100]⟩, 18, [], false, 0, 0, ⟨#[]⟩⟩, ⟨⟨#[116, 111]⟩, 19, [], false, 0, 0, ⟨#[]⟩⟩, ⟨⟨#[115, 117, 98, 106, 101, 99, 116]⟩, 19, [], false, 0, 0, ⟨#[]⟩⟩, ⟨⟨#[114, 101, 112, 108, 121, 45, 116, 111]⟩, 19, [], false, 0, 0, ⟨#[]⟩⟩, ⟨⟨#[99, 111, 114, 114, 101, 108, 97, 116, 105, 111, 110]⟩, 100, [], false, 0, 0, ⟨#[]⟩⟩, ⟨⟨#[99, 111, 110, 116, 101, 110, 116, 45, 116, 121, 112, 101]⟩, 20, [], false, 0, 0, ⟨#[]⟩⟩, ⟨⟨#[101, 110, 99, 111, 100, 105, 110, 103]⟩, 20, [], false, 0, 0, ⟨#[]⟩⟩, ⟨⟨#[101, 120, 112, 105, 114, 121]⟩, 16, [], false, 0, 0, ⟨#[]⟩⟩, ⟨⟨#[99, 114, 101, 97, 116, 101, 100]⟩, 16, [], false, 0, 0, ⟨#[]⟩⟩, ⟨⟨#[103, 114, 111, 117, 112]⟩, 19, [], false, 0, 0, ⟨#[]⟩⟩, ⟨⟨#[115, 101, 113, 117, 101, 110, 99, 101]⟩, 4, [], false, 0, 0, ⟨#[]⟩⟩, ⟨⟨#[114, 101, 112, 108, 121, 45, 103, 114, 111, 117, 112]⟩, 19, [], false, 0, 0, ⟨#[]⟩⟩]
set_option maxRecDepth 100000 in
set_option maxHeartbeats 8000000 in
theorem propertiesFields_row (w : World) : Calls Tryz.prog 52 #[] w (FieldsRow fs_propertiesFields w) := by
  go_enter Tryz.func52, Tryz.ntmps52
  go_wp2
  go_ret
  refine ⟨some ⟨w.heap.size, 0, none⟩, [⟨⟨#[109, 101, 115, 115, 97, 103, 101, 45, 105, 100]⟩, 100, none, 0, 0, false, leaf 0 0 ⟨#[]⟩⟩, ⟨⟨#[117, 115, 101, 114, 45, 105, 100]⟩, 18, none, 0, 0, false, leaf 0 0 ⟨#[]⟩⟩, ⟨⟨#[116, 111]⟩, 19, none, 0, 0, false, leaf 0 0 ⟨#[]⟩⟩, ⟨⟨#[115, 117, 98, 106, 101, 99, 116]⟩, 19, none, 0, 0, false, leaf 0 0 ⟨#[]⟩⟩, ⟨⟨#[114, 101, 112, 108, 121, 45, 116, 111]⟩, 19, none, 0, 0, false, leaf 0 0 ⟨#[]⟩⟩, ⟨⟨#[99, 111, 114, 114, 101, 108, 97, 116, 105, 111, 110]⟩, 100, none, 0, 0, false, leaf 0 0 ⟨#[]⟩⟩, ⟨⟨#[99, 111, 110, 116, 101, 110, 116, 45, 116, 121, 112, 101]⟩, 20, none, 0, 0, false, leaf 0 0 ⟨#[]⟩⟩, ⟨⟨#[101, 110, 99, 111, 100, 105, 110, 103]⟩, 20, none, 0, 0, false, leaf 0 0 ⟨#[]⟩⟩, ⟨⟨#[101, 120, 112, 105, 114, 121]⟩, 16, none, 0, 0, false, leaf 0 0 ⟨#[]⟩⟩, ⟨⟨#[99, 114, 101, 97, 116, 101, 100]⟩, 16, none, 0, 0, false, leaf 0 0 ⟨#[]⟩⟩, ⟨⟨#[103, 114, 111, 117, 112]⟩, 19, none, 0, 0, false, leaf 0 0 ⟨#[]⟩⟩, ⟨⟨#[115, 101, 113, 117, 101, 110, 99, 101]⟩, 4, none, 0, 0, false, leaf 0 0 ⟨#[]⟩⟩, ⟨⟨#[114, 101, 112, 108, 121, 45, 103, 114, 111, 117, 112]⟩, 19, none, 0, 0, false, leaf 0 0 ⟨#[]⟩⟩], rfl, ⟨rfl, fun _ => ⟨_, rfl, by omega, by simp, ?_⟩, ?_⟩, ?_⟩
  · exact FRow.flat (World.alloc_heap_new _ _) rfl
  · intro i h h'
    have h3 : i < 13 := h
    obtain rfl | rfl | rfl | rfl | rfl | rfl | rfl | rfl | rfl | rfl | rfl | rfl | rfl : i = 0 ∨ i = 1 ∨ i = 2 ∨ i = 3 ∨ i = 4 ∨ i = 5 ∨ i = 6 ∨ i = 7 ∨ i = 8 ∨ i = 9 ∨ i = 10 ∨ i = 11 ∨ i = 12 := by omega
    · exact ⟨rfl, rfl, rfl, rfl, rfl, rfl, fun h => absurd h (Nat.lt_irrefl 0)⟩
    · exact ⟨rfl, rfl, rfl, rfl, rfl, rfl, fun h => absurd h (Nat.lt_irrefl 0)⟩
    · exact ⟨rfl, rfl, rfl, rfl, rfl, rfl, fun h => absurd h (Nat.lt_irrefl 0)⟩
    · exact ⟨rfl, rfl, rfl, rfl, rfl, rfl, fun h => absurd h (Nat.lt_irrefl 0)⟩
    · exact ⟨rfl, rfl, rfl, rfl, rfl, rfl, fun h => absurd h (Nat.lt_irrefl 0)⟩
    · exact ⟨rfl, rfl, rfl, rfl, rfl, rfl, fun h => absurd h (Nat.lt_irrefl 0)⟩
    · exact ⟨rfl, rfl, rfl, rfl, rfl, rfl, fun h => absurd h (Nat.lt_irrefl 0)⟩
    · exact ⟨rfl, rfl, rfl, rfl, rfl, rfl, fun h => absurd h (Nat.lt_irrefl 0)⟩
    · exact ⟨rfl, rfl, rfl, rfl, rfl, rfl, fun h => absurd h (Nat.lt_irrefl 0)⟩
    · exact ⟨rfl, rfl, rfl, rfl, rfl, rfl, fun h => absurd h (Nat.lt_irrefl 0)⟩
    · exact ⟨rfl, rfl, rfl, rfl, rfl, rfl, fun h => absurd h (Nat.lt_irrefl 0)⟩
    · exact ⟨rfl, rfl, rfl, rfl, rfl, rfl, fun h => absurd h (Nat.lt_irrefl 0)⟩
    · exact ⟨rfl, rfl, rfl, rfl, rfl, rfl, fun h => absurd h (Nat.lt_irrefl 0)⟩
  · exact bel1 (Below.refl _ _) (Nat.le_refl _) _
end Go.Proofs.YtlpngpininkjnaaGreatDoor


/- shape: the table of fields. -/
namespace Go.Proofs.YtlpngpininkjnaaGreatDoor
open Go.RowKit
set_option linter.unusedVariables false
set_option linter.unusedSimpArgs false
def fs_beginFields : List FS := [⟨⟨#[114, 101, 109, 111, 116, 101]⟩, 3, [], false, 0, 0, ⟨#[]⟩⟩, ⟨⟨#[110, 101, 120, 116, 45, 111, 117, 116]⟩, 4, [], true, 0, 0, ⟨#[]⟩⟩, ⟨⟨#[105, 110, 45, 119, 105, 110, 100, 111, 119]⟩, 4, [], true, 0, 0, ⟨#[]⟩⟩, ⟨⟨#[111, 117, 116, 45, 119, 105, 110, 100, 111, 119]⟩, 4, [], true, 0, 0, ⟨#[]⟩⟩, ⟨⟨#[104, 97, 110, 100, 108, 101, 45, 109, 97, 120]⟩, 4, [], false, 4, 4294967295, ⟨#[]⟩⟩, ⟨⟨#[112, 114, 111, 112, 115]⟩, 22, [], false, 0, 0, ⟨#[]⟩⟩]
set_option maxRecDepth 100000 in
set_option maxHeartbeats 8000000 in
theorem beginFields_row (w : World) : Calls Tryz.prog 29 #[] w (FieldsRow fs_beginFields w) := by
  go_enter Tryz.func29, Tryz.ntmps29
  go_wp2
  go_ret
  refine ⟨some ⟨w.heap.size, 0, none⟩, [⟨⟨#[114, 101, 109, 111, 116, 101]⟩, 3, none, 0, 0, false, leaf 0 0 ⟨#[]⟩⟩, ⟨⟨#[110, 101, 120, 116, 45, 111, 117, 116]⟩, 4, none, 0, 0, true, leaf 0 0 ⟨#[]⟩⟩, ⟨⟨#[105, 110, 45, 119, 105, 110, 100, 111, 119]⟩, 4, none, 0, 0, true, leaf 0 0 ⟨#[]⟩⟩, ⟨⟨#[111, 117, 116, 45, 119, 105, 110, 100, 111, 119]⟩, 4, none, 0, 0, true, leaf 0 0 ⟨#[]⟩⟩, ⟨⟨#[104, 97, 110, 100, 108, 101, 45, 109, 97, 120]⟩, 4, none, 0, 0, false, leaf 4 4294967295 ⟨#[]⟩⟩, ⟨⟨#[112, 114, 111, 112, 115]⟩, 22, none, 0, 0, false, leaf 0 0 ⟨#[]⟩⟩], rfl, ⟨rfl, fun _ => ⟨_, rfl, by omega, by simp, ?_⟩, ?_⟩, ?_⟩
  · exact FRow.flat (World.alloc_heap_new _ _) rfl
  · intro i h h'
    have h3 : i < 6 := h
    obtain rfl | rfl | rfl | rfl | rfl | rfl : i = 0 ∨ i = 1 ∨ i = 2 ∨ i = 3 ∨ i = 4 ∨ i = 5 := by omega
    · exact ⟨rfl, rfl, rfl, rfl, rfl, rfl, fun h => absurd h (Nat.lt_irrefl 0)⟩
    · exact ⟨rfl, rfl, rfl, rfl, rfl, rfl, fun h => absurd h (Nat.lt_irrefl 0)⟩
    · exact ⟨rfl, rfl, rfl, rfl, rfl, rfl, fun h => absurd h (Nat.lt_irrefl 0)⟩
    · exact ⟨rfl, rfl, rfl, rfl, rfl, rfl, fun h => absurd h (Nat.lt_irrefl 0)⟩
    · exact ⟨rfl, rfl, rfl, rfl, rfl, rfl, fun h => absurd h (Nat.lt_irrefl 0)⟩
    · exact ⟨rfl, rfl, rfl, rfl, rfl, rfl, fun h => absurd h (Nat.lt_irrefl 0)⟩
  · exact bel1 (Below.refl _ _) (Nat.le_refl _) _
def fs_attachFields : List FS := [⟨⟨#[110, 97, 109, 101]⟩, 19, [], true, 0, 0, ⟨#[]⟩⟩, ⟨⟨#[104, 97, 110, 100, 108, 101]⟩, 4, [], true, 0, 0, ⟨#[]⟩⟩, ⟨⟨#[114, 111, 108, 101]⟩, 1, [], true, 0, 0, ⟨#[]⟩⟩, ⟨⟨#[115, 110, 100, 45, 109, 111, 100, 101]⟩, 2, [], false, 2, 2, ⟨#[]⟩⟩, ⟨⟨#[114, 99, 118, 45, 109, 111, 100, 101]⟩, 2, [], false, 2, 0, ⟨#[]⟩⟩, ⟨⟨#[115, 111, 117, 114, 99, 101]⟩, 102, [40], false, 0, 0, ⟨#[]⟩⟩, ⟨⟨#[116, 97, 114, 103, 101, 116]⟩, 102, [41, 48], false, 0, 0, ⟨#[]⟩⟩, ⟨⟨#[117, 110, 115, 101, 116, 116, 108, 101, 100]⟩, 22, [], false, 0, 0, ⟨#[]⟩⟩, ⟨⟨#[105, 110, 99, 111, 109, 112, 108, 101, 116, 101]⟩, 1, [], false, 1, 0, ⟨#[]⟩⟩, ⟨⟨#[105, 110, 105, 116, 105, 97, 108, 45, 99, 111, 117, 110, 116]⟩, 4, [], false, 0, 0, ⟨#[]⟩⟩, ⟨⟨#[109, 97, 120, 45, 109, 101, 115, 115, 97, 103, 101]⟩, 5, [], false, 0, 0, ⟨#[]⟩⟩, ⟨⟨#[112, 114, 111, 112, 115]⟩, 22, [], false, 0, 0, ⟨#[]⟩⟩]
set_option maxRecDepth 100000 in
set_option maxHeartbeats 8000000 in
theorem attachFields_row (w : World) : Calls Tryz.prog 30 #[] w (FieldsRow fs_attachFields w) := by
  go_enter Tryz.func30, Tryz.ntmps30
  go_wp2
  go_ret
  refine ⟨some ⟨w.heap.size + 1 + 1, 0, none⟩, [⟨⟨#[110, 97, 109, 101]⟩, 19, none, 0, 0, true, leaf 0 0 ⟨#[]⟩⟩, ⟨⟨#[104, 97, 110, 100, 108, 101]⟩, 4, none, 0, 0, true, leaf 0 0 ⟨#[]⟩⟩, ⟨⟨#[114, 111, 108, 101]⟩, 1, none, 0, 0, true, leaf 0 0 ⟨#[]⟩⟩, ⟨⟨#[115, 110, 100, 45, 109, 111, 100, 101]⟩, 2, none, 0, 0, false, leaf 2 2 ⟨#[]⟩⟩, ⟨⟨#[114, 99, 118, 45, 109, 111, 100, 101]⟩, 2, none, 0, 0, false, leaf 2 0 ⟨#[]⟩⟩, ⟨⟨#[115, 111, 117, 114, 99, 101]⟩, 102, some ⟨w.heap.size, 0, none⟩, 1, 1, false, leaf 0 0 ⟨#[]⟩⟩, ⟨⟨#[116, 97, 114, 103, 101, 116]⟩, 102, some ⟨w.heap.size + 1, 0, none⟩, 2, 2, false, leaf 0 0 ⟨#[]⟩⟩, ⟨⟨#[117, 110, 115, 101, 116, 116, 108, 101, 100]⟩, 22, none, 0, 0, false, leaf 0 0 ⟨#[]⟩⟩, ⟨⟨#[105, 110, 99, 111, 109, 112, 108, 101, 116, 101]⟩, 1, none, 0, 0, false, leaf 1 0 ⟨#[]⟩⟩, ⟨⟨#[105, 110, 105, 116, 105, 97, 108, 45, 99, 111, 117, 110, 116]⟩, 4, none, 0, 0, false, leaf 0 0 ⟨#[]⟩⟩, ⟨⟨#[109, 97, 120, 45, 109, 101, 115, 115, 97, 103, 101]⟩, 5, none, 0, 0, false, leaf 0 0 ⟨#[]⟩⟩, ⟨⟨#[112, 114, 111, 112, 115]⟩, 22, none, 0, 0, false, leaf 0 0 ⟨#[]⟩⟩], rfl, ⟨rfl, fun _ => ⟨_, rfl, by omega, by simp, ?_⟩, ?_⟩, ?_⟩
  · exact FRow.flat (heap_at2 _ _ _ _) rfl
  · intro i h h'
    have h3 : i < 12 := h
    obtain rfl | rfl | rfl | rfl | rfl | rfl | rfl | rfl | rfl | rfl | rfl | rfl : i = 0 ∨ i = 1 ∨ i = 2 ∨ i = 3 ∨ i = 4 ∨ i = 5 ∨ i = 6 ∨ i = 7 ∨ i = 8 ∨ i = 9 ∨ i = 10 ∨ i = 11 := by omega
    · exact ⟨rfl, rfl, rfl, rfl, rfl, rfl, fun h => absurd h (Nat.lt_irrefl 0)⟩
    · exact ⟨rfl, rfl, rfl, rfl, rfl, rfl, fun h => absurd h (Nat.lt_irrefl 0)⟩
    · exact ⟨rfl, rfl, rfl, rfl, rfl, rfl, fun h => absurd h (Nat.lt_irrefl 0)⟩
    · exact ⟨rfl, rfl, rfl, rfl, rfl, rfl, fun h => absurd h (Nat.lt_irrefl 0)⟩
    · exact ⟨rfl, rfl, rfl, rfl, rfl, rfl, fun h => absurd h (Nat.lt_irrefl 0)⟩
    · exact ⟨rfl, rfl, rfl, rfl, rfl, rfl, fun _ => ⟨_, rfl, by omega, (by first | (simp; done) | (simp; omega)), heap_past (heap_past (World.alloc_heap_new _ _) _) _⟩⟩
    · exact ⟨rfl, rfl, rfl, rfl, rfl, rfl, fun _ => ⟨_, rfl, by omega, (by first | (simp; done) | (simp; omega)), heap_past (heap_at1 _ _ _) _⟩⟩
    · exact ⟨rfl, rfl, rfl, rfl, rfl, rfl, fun h => absurd h (Nat.lt_irrefl 0)⟩
    · exact ⟨rfl, rfl, rfl, rfl, rfl, rfl, fun h => absurd h (Nat.lt_irrefl 0)⟩
    · exact ⟨rfl, rfl, rfl, rfl, rfl, rfl, fun h => absurd h (Nat.lt_irrefl 0)⟩
    · exact ⟨rfl, rfl, rfl, rfl, rfl, rfl, fun h => absurd h (Nat.lt_irrefl 0)⟩
    · exact ⟨rfl, rfl, rfl, rfl, rfl, rfl, fun h => absurd h (Nat.lt_irrefl 0)⟩
  · exact bel1 (bel2 (Below.refl _ _) (Nat.le_refl _) _ _) (by simp; omega) _
def fs_receivedFields : List FS := [⟨⟨#[115, 101, 99, 116, 105, 111, 110]⟩, 4, [], true, 0, 0, ⟨#[]⟩⟩, ⟨⟨#[111, 102, 102, 115, 101, 116]⟩, 5, [], true, 0, 0, ⟨#[]⟩⟩]
set_option maxRecDepth 100000 in
set_option maxHeartbeats 8000000 in
theorem receivedFields_row (w : World) : Calls Tryz.prog 37 #[] w (FieldsRow fs_receivedFields w) := by
  go_enter Tryz.func37, Tryz.ntmps37
  go_wp2
  go_ret
  refine ⟨some ⟨w.heap.size, 0, none⟩, [⟨⟨#[115, 101, 99, 116, 105, 111, 110]⟩, 4, none, 0, 0, true, leaf 0 0 ⟨#[]⟩⟩, ⟨⟨#[111, 102, 102, 115, 101, 116]⟩, 5, none, 0, 0, true, leaf 0 0 ⟨#[]⟩⟩], rfl, ⟨rfl, fun _ => ⟨_, rfl, by omega, by simp, ?_⟩, ?_⟩, ?_⟩
  · exact FRow.flat (World.alloc_heap_new _ _) rfl
  · intro i h h'
    have h3 : i < 2 := h
    obtain rfl | rfl : i = 0 ∨ i = 1 := by omega
    · exact ⟨rfl, rfl, rfl, rfl, rfl, rfl, fun h => absurd h (Nat.lt_irrefl 0)⟩
    · exact ⟨rfl, rfl, rfl, rfl, rfl, rfl, fun h => absurd h (Nat.lt_irrefl 0)⟩
  · exact bel1 (Below.refl _ _) (Nat.le_refl _) _
def fs_transactionalFields : List FS := [⟨⟨#[116, 120, 110]⟩, 18, [], true, 0, 0, ⟨#[]⟩⟩, ⟨⟨#[111, 117, 116, 99, 111, 109, 101]⟩, 102, [36, 37, 38, 39], false, 0, 0, ⟨#[]⟩⟩]
set_option maxRecDepth 100000 in
set_option maxHeartbeats 8000000 in
theorem transactionalFields_row (w : World) : Calls Tryz.prog 45 #[] w (FieldsRow fs_transactionalFields w) := by
  have HC_outcomes := hide (fun W => outcomes_any W)
  go_enter Tryz.func45, Tryz.ntmps45
  go_wp2_with fail
  refine (HC_outcomes.out _).mono ?_
  rintro e1 w1 ⟨rfl, rfl⟩
  go_wp2
  go_ret
  refine ⟨some ⟨w.heap.size + 1, 0, none⟩, [⟨⟨#[116, 120, 110]⟩, 18, none, 0, 0, true, leaf 0 0 ⟨#[]⟩⟩, ⟨⟨#[111, 117, 116, 99, 111, 109, 101]⟩, 102, some ⟨w.heap.size, 0, none⟩, 4, 4, false, leaf 0 0 ⟨#[]⟩⟩], rfl, ⟨rfl, fun _ => ⟨_, rfl, by omega, by simp, ?_⟩, ?_⟩, ?_⟩
  · exact FRow.flat (heap_at1 _ _ _) rfl
  · intro i h h'
    have h3 : i < 2 := h
    obtain rfl | rfl : i = 0 ∨ i = 1 := by omega
    · exact ⟨rfl, rfl, rfl, rfl, rfl, rfl, fun h => absurd h (Nat.lt_irrefl 0)⟩
    · exact ⟨rfl, rfl, rfl, rfl, rfl, rfl, fun _ => ⟨_, rfl, by omega, (by first | (simp; done) | (simp; omega)), heap_past (World.alloc_heap_new _ _) _⟩⟩
  · exact bel2 (Below.refl _ _) (Nat.le_refl _) _ _
def fs_challengeFields : List FS := [⟨⟨#[99, 104, 97, 108, 108, 101, 110, 103, 101]⟩, 18, [], true, 0, 0, ⟨#[]⟩⟩]
set_option maxRecDepth 100000 in
set_option maxHeartbeats 8000000 in
theorem challengeFields_row (w : World) : Calls Tryz.prog 48 #[] w (FieldsRow fs_challengeFields w) := by
  go_enter Tryz.func48, Tryz.ntmps48
  go_wp2
  go_ret
  refine ⟨some ⟨w.heap.size, 0, none⟩, [⟨⟨#[99, 104, 97, 108, 108, 101, 110, 103, 101]⟩, 18, none, 0, 0, true, leaf 0 0 ⟨#[]⟩⟩], rfl, ⟨rfl, fun _ => ⟨_, rfl, by omega, by simp, ?_⟩, ?_⟩, ?_⟩
  · exact FRow.flat (World.alloc_heap_new _ _) rfl
  · intro i h h'
    have h3 : i < 1 := h
    obtain rfl : i = 0 := by omega
    · exact ⟨rfl, rfl, rfl, rfl, rfl, rfl, fun h => absurd h (Nat.lt_irrefl 0)⟩
  · exact bel1 (Below.refl _ _) (Nat.le_refl _) _
def fs_headerFields : List FS := [⟨⟨#[100, 117, 114, 97, 98, 108, 101]⟩, 1, [], false, 1, 0, ⟨#[]⟩⟩, ⟨⟨#[112, 114, 105, 111, 114, 105, 116, 121]⟩, 2, [], false, 2, 4, ⟨#[]⟩⟩, ⟨⟨#[116, 116, 108]⟩, 4, [], false, 0, 0, ⟨#[]⟩⟩, ⟨⟨#[102, 105, 114, 115, 116]⟩, 1, [], false, 1, 0, ⟨#[]⟩⟩, ⟨⟨#[99, 111, 117, 110, 116]⟩, 4, [], false, 4, 0, ⟨#[]⟩⟩]
set_option maxRecDepth 100000 in
set_option maxHeartbeats 8000000 in
theorem headerFields_row (w : World) : Calls Tryz.prog 51 #[] w (FieldsRow fs_headerFields w) := by
  go_enter Tryz.func51, Tryz.ntmps51
  go_wp2
  go_ret
  refine ⟨some ⟨w.heap.size, 0, none⟩, [⟨⟨#[100, 117, 114, 97, 98, 108, 101]⟩, 1, none, 0, 0, false, leaf 1 0 ⟨#[]⟩⟩, ⟨⟨#[112, 114, 105, 111, 114, 105, 116, 121]⟩, 2, none, 0, 0, false, leaf 2 4 ⟨#[]⟩⟩, ⟨⟨#[116, 116, 108]⟩, 4, none, 0, 0, false, leaf 0 0 ⟨#[]⟩⟩, ⟨⟨#[102, 105, 114, 115, 116]⟩, 1, none, 0, 0, false, leaf 1 0 ⟨#[]⟩⟩, ⟨⟨#[99, 111, 117, 110, 116]⟩, 4, none, 0, 0, false, leaf 4 0 ⟨#[]⟩⟩], rfl, ⟨rfl, fun _ => ⟨_, rfl, by omega, by simp, ?_⟩, ?_⟩, ?_⟩
  · exact FRow.flat (World.alloc_heap_new _ _) rfl
  · intro i h h'
    have h3 : i < 5 := h
    obtain rfl | rfl | rfl | rfl | rfl : i = 0 ∨ i = 1 ∨ i = 2 ∨ i = 3 ∨ i = 4 := by omega
    · exact ⟨rfl, rfl, rfl, rfl, rfl, rfl, fun h => absurd h (Nat.lt_irrefl 0)⟩
    · exact ⟨rfl, rfl, rfl, rfl, rfl, rfl, fun h => absurd h (Nat.lt_irrefl 0)⟩
    · exact ⟨rfl, rfl, rfl, rfl, rfl, rfl, fun h => absurd h (Nat.lt_irrefl 0)⟩
    · exact ⟨rfl, rfl, rfl, rfl, rfl, rfl, fun h => absurd h (Nat.lt_irrefl 0)⟩
    · exact ⟨rfl, rfl, rfl, rfl, rfl, rfl, fun h => absurd h (Nat.lt_irrefl 0)⟩
  · exact bel1 (Below.refl _ _) (Nat.le_refl _) _
end Go.Proofs.YtlpngpininkjnaaGreatDoor


/- shape: the table of fields. -/
namespace Go.Proofs.YtlpngpininkjnaaGreatDoor
open Go.RowKit
set_option linter.unusedVariables false
set_option linter.unusedSimpArgs false
def fs_openFields : List FS := [⟨⟨#[105, 100]⟩, 19, [], true, 0, 0, ⟨#[]⟩⟩, ⟨⟨#[104, 111, 115, 116]⟩, 19, [], false, 0, 0, ⟨#[]⟩⟩, ⟨⟨#[109, 97, 120, 45, 102, 114, 97, 109, 101]⟩, 4, [], false, 4, 4294967295, ⟨#[]⟩⟩, ⟨⟨#[99, 104, 97, 110, 110, 101, 108, 45, 109, 97, 120]⟩, 3, [], false, 3, 65535, ⟨#[]⟩⟩, ⟨⟨#[105, 100, 108, 101]⟩, 4, [], false, 0, 0, ⟨#[]⟩⟩, ⟨⟨#[112, 114, 111, 112, 115]⟩, 22, [], false, 0, 0, ⟨#[]⟩⟩]
set_option maxRecDepth 100000 in
set_option maxHeartbeats 8000000 in
theorem openFields_row (w : World) : Calls Tryz.prog 28 #[] w (FieldsRow fs_openFields w) := by
  go_enter Tryz.func28, Tryz.ntmps28
  go_wp2
  go_ret
  refine ⟨some ⟨w.heap.size, 0, none⟩, [⟨⟨#[105, 100]⟩, 19, none, 0, 0, true, leaf 0 0 ⟨#[]⟩⟩, ⟨⟨#[104, 111, 115, 116]⟩, 19, none, 0, 0, false, leaf 0 0 ⟨#[]⟩⟩, ⟨⟨#[109, 97, 120, 45, 102, 114, 97, 109, 101]⟩, 4, none, 0, 0, false, leaf 4 4294967295 ⟨#[]⟩⟩, ⟨⟨#[99, 104, 97, 110, 110, 101, 108, 45, 109, 97, 120]⟩, 3, none, 0, 0, false, leaf 3 65535 ⟨#[]⟩⟩, ⟨⟨#[105, 100, 108, 101]⟩, 4, none, 0, 0, false, leaf 0 0 ⟨#[]⟩⟩, ⟨⟨#[112, 114, 111, 112, 115]⟩, 22, none, 0, 0, false, leaf 0 0 ⟨#[]⟩⟩], rfl, ⟨rfl, fun _ => ⟨_, rfl, by omega, by simp, ?_⟩, ?_⟩, ?_⟩
  · exact FRow.flat (World.alloc_heap_new _ _) rfl
  · intro i h h'
    have h3 : i < 6 := h
    obtain rfl | rfl | rfl | rfl | rfl | rfl : i = 0 ∨ i = 1 ∨ i = 2 ∨ i = 3 ∨ i = 4 ∨ i = 5 := by omega
    · exact ⟨rfl, rfl, rfl, rfl, rfl, rfl, fun h => absurd h (Nat.lt_irrefl 0)⟩
    · exact ⟨rfl, rfl, rfl, rfl, rfl, rfl, fun h => absurd h (Nat.lt_irrefl 0)⟩
    · exact ⟨rfl, rfl, rfl, rfl, rfl, rfl, fun h => absurd h (Nat.lt_irrefl 0)⟩
    · exact ⟨rfl, rfl, rfl, rfl, rfl, rfl, fun h => absurd h (Nat.lt_irrefl 0)⟩
    · exact ⟨rfl, rfl, rfl, rfl, rfl, rfl, fun h => absurd h (Nat.lt_irrefl 0)⟩
    · exact ⟨rfl, rfl, rfl, rfl, rfl, rfl, fun h => absurd h (Nat.lt_irrefl 0)⟩
  · exact bel1 (Below.refl _ _) (Nat.le_refl _) _
def fs_flowFields : List FS := [⟨⟨#[110, 101, 120, 116, 45, 105, 110]⟩, 4, [], false, 0, 0, ⟨#[]⟩⟩, ⟨⟨#[105, 110, 45, 119, 105, 110, 100, 111, 119]⟩, 4, [], true, 0, 0, ⟨#[]⟩⟩, ⟨⟨#[110, 101, 120, 116, 45, 111, 117, 116]⟩, 4, [], true, 0, 0, ⟨#[]⟩⟩, ⟨⟨#[111, 117, 116, 45, 119, 105, 110, 100, 111, 119]⟩, 4, [], true, 0, 0, ⟨#[]⟩⟩, ⟨⟨#[104, 97, 110, 100, 108, 101]⟩, 4, [], false, 0, 0, ⟨#[]⟩⟩, ⟨⟨#[99, 111, 117, 110, 116]⟩, 4, [], false, 0, 0, ⟨#[]⟩⟩, ⟨⟨#[99, 114, 101, 100, 105, 116]⟩, 4, [], false, 0, 0, ⟨#[]⟩⟩, ⟨⟨#[97, 118, 97, 105, 108, 97, 98, 108, 101]⟩, 4, [], false, 0, 0, ⟨#[]⟩⟩, ⟨⟨#[100, 114, 97, 105, 110]⟩, 1, [], false, 1, 0, ⟨#[]⟩⟩, ⟨⟨#[101, 99, 104, 111]⟩, 1, [], false, 1, 0, ⟨#[]⟩⟩, ⟨⟨#[112, 114, 111, 112, 115]⟩, 22, [], false, 0, 0, ⟨#[]⟩⟩]
set_option maxRecDepth 100000 in
set_option maxHeartbeats 8000000 in
theorem flowFields_row (w : World) : Calls Tryz.prog 31 #[] w (FieldsRow fs_flowFields w) := by
  go_enter Tryz.func31, Tryz.ntmps31
  go_wp2
  go_ret
  refine ⟨some ⟨w.heap.size, 0, none⟩, [⟨⟨#[110, 101, 120, 116, 45, 105, 110]⟩, 4, none, 0, 0, false, leaf 0 0 ⟨#[]⟩⟩, ⟨⟨#[105, 110, 45, 119, 105, 110, 100, 111, 119]⟩, 4, none, 0, 0, true, leaf 0 0 ⟨#[]⟩⟩, ⟨⟨#[110, 101, 120, 116, 45, 111, 117, 116]⟩, 4, none, 0, 0, true, leaf 0 0 ⟨#[]⟩⟩, ⟨⟨#[111, 117, 116, 45, 119, 105, 110, 100, 111, 119]⟩, 4, none, 0, 0, true, leaf 0 0 ⟨#[]⟩⟩, ⟨⟨#[104, 97, 110, 100, 108, 101]⟩, 4, none, 0, 0, false, leaf 0 0 ⟨#[]⟩⟩, ⟨⟨#[99, 111, 117, 110, 116]⟩, 4, none, 0, 0, false, leaf 0 0 ⟨#[]⟩⟩, ⟨⟨#[99, 114, 101, 100, 105, 116]⟩, 4, none, 0, 0, false, leaf 0 0 ⟨#[]⟩⟩, ⟨⟨#[97, 118, 97, 105, 108, 97, 98, 108, 101]⟩, 4, none, 0, 0, false, leaf 0 0 ⟨#[]⟩⟩, ⟨⟨#[100, 114, 97, 105, 110]⟩, 1, none, 0, 0, false, leaf 1 0 ⟨#[]⟩⟩, ⟨⟨#[101, 99, 104, 111]⟩, 1, none, 0, 0, false, leaf 1 0 ⟨#[]⟩⟩, ⟨⟨#[112, 114, 111, 112, 115]⟩, 22, none, 0, 0, false, leaf 0 0 ⟨#[]⟩⟩], rfl, ⟨rfl, fun _ => ⟨_, rfl, by omega, by simp, ?_⟩, ?_⟩, ?_⟩
  · exact FRow.flat (World.alloc_heap_new _ _) rfl
  · intro i h h'
    have h3 : i < 11 := h
    obtain rfl | rfl | rfl | rfl | rfl | rfl | rfl | rfl | rfl | rfl | rfl : i = 0 ∨ i = 1 ∨ i = 2 ∨ i = 3 ∨ i = 4 ∨ i = 5 ∨ i = 6 ∨ i = 7 ∨ i = 8 ∨ i = 9 ∨ i = 10 := by omega
    · exact ⟨rfl, rfl, rfl, rfl, rfl, rfl, fun h => absurd h (Nat.lt_irrefl 0)⟩
    · exact ⟨rfl, rfl, rfl, rfl, rfl, rfl, fun h => absurd h (Nat.lt_irrefl 0)⟩
    · exact ⟨rfl, rfl, rfl, rfl, rfl, rfl, fun h => absurd h (Nat.lt_irrefl 0)⟩
    · exact ⟨rfl, rfl, rfl, rfl, rfl, rfl, fun h => absurd h (Nat.lt_irrefl 0)⟩
    · exact ⟨rfl, rfl, rfl, rfl, rfl, rfl, fun h => absurd h (Nat.lt_irrefl 0)⟩
    · exact ⟨rfl, rfl, rfl, rfl, rfl, rfl, fun h => absurd h (Nat.lt_irrefl 0)⟩
    · exact ⟨rfl, rfl, rfl, rfl, rfl, rfl, fun h => absurd h (Nat.lt_irrefl 0)⟩
    · exact ⟨rfl, rfl, rfl, rfl, rfl, rfl, fun h => absurd h (Nat.lt_irrefl 0)⟩
    · exact ⟨rfl, rfl, rfl, rfl, rfl, rfl, fun h => absurd h (Nat.lt_irrefl 0)⟩
    · exact ⟨rfl, rfl, rfl, rfl, rfl, rfl, fun h => absurd h (Nat.lt_irrefl 0)⟩
    · exact ⟨rfl, rfl, rfl, rfl, rfl, rfl, fun h => absurd h (Nat.lt_irrefl 0)⟩
  · exact bel1 (Below.refl _ _) (Nat.le_refl _) _
def fs_modifiedFields : List FS := [⟨⟨#[102, 97, 105, 108, 101, 100]⟩, 1, [], false, 0, 0, ⟨#[]⟩⟩, ⟨⟨#[101, 108, 115, 101, 119, 104, 101, 114, 101]⟩, 1, [], false, 0, 0, ⟨#[]⟩⟩, ⟨⟨#[97, 110, 110]⟩, 22, [], false, 0, 0, ⟨#[]⟩⟩]
set_option maxRecDepth 100000 in
set_option maxHeartbeats 8000000 in
theorem modifiedFields_row (w : World) : Calls Tryz.prog 39 #[] w (FieldsRow fs_modifiedFields w) := by
  go_enter Tryz.func39, Tryz.ntmps39
  go_wp2
  go_ret
  refine ⟨some ⟨w.heap.size, 0, none⟩, [⟨⟨#[102, 97, 105, 108, 101, 100]⟩, 1, none, 0, 0, false, leaf 0 0 ⟨#[]⟩⟩, ⟨⟨#[101, 108, 115, 101, 119, 104, 101, 114, 101]⟩, 1, none, 0, 0, false, leaf 0 0 ⟨#[]⟩⟩, ⟨⟨#[97, 110, 110]⟩, 22, none, 0, 0, false, leaf 0 0 ⟨#[]⟩⟩], rfl, ⟨rfl, fun _ => ⟨_, rfl, by omega, by simp, ?_⟩, ?_⟩, ?_⟩
  · exact FRow.flat (World.alloc_heap_new _ _) rfl
  · intro i h h'
    have h3 : i < 3 := h
    obtain rfl | rfl | rfl : i = 0 ∨ i = 1 ∨ i = 2 := by omega
    · exact ⟨rfl, rfl, rfl, rfl, rfl, rfl, fun h => absurd h (Nat.lt_irrefl 0)⟩
    · exact ⟨rfl, rfl, rfl, rfl, rfl, rfl, fun h => absurd h (Nat.lt_irrefl 0)⟩
    · exact ⟨rfl, rfl, rfl, rfl, rfl, rfl, fun h => absurd h (Nat.lt_irrefl 0)⟩
  · exact bel1 (Below.refl _ _) (Nat.le_refl _) _
def fs_targetFields : List FS := [⟨⟨#[97, 100, 100, 114, 101, 115, 115]⟩, 19, [], false, 0, 0, ⟨#[]⟩⟩, ⟨⟨#[100, 117, 114, 97, 98, 108, 101]⟩, 4, [], false, 4, 0, ⟨#[]⟩⟩, ⟨⟨#[101, 120, 112, 105, 114, 121]⟩, 20, [], false, 20, 0, ⟨#[115, 101, 115, 115, 105, 111, 110, 45, 101, 110, 100]⟩⟩, ⟨⟨#[116, 105, 109, 101, 111, 117, 116]⟩, 4, [], false, 4, 0, ⟨#[]⟩⟩, ⟨⟨#[100, 121, 110, 97, 109, 105, 99]⟩, 1, [], false, 1, 0, ⟨#[]⟩⟩, ⟨⟨#[99, 97, 112, 115]⟩, 101, [], false, 0, 0, ⟨#[]⟩⟩]
set_option maxRecDepth 100000 in
set_option maxHeartbeats 8000000 in
theorem targetFields_row (w : World) : Calls Tryz.prog 41 #[] w (FieldsRow fs_targetFields w) := by
  go_enter Tryz.func41, Tryz.ntmps41
  go_wp2
  go_ret
  refine ⟨some ⟨w.heap.size, 0, none⟩, [⟨⟨#[97, 100, 100, 114, 101, 115, 115]⟩, 19, none, 0, 0, false, leaf 0 0 ⟨#[]⟩⟩, ⟨⟨#[100, 117, 114, 97, 98, 108, 101]⟩, 4, none, 0, 0, false, leaf 4 0 ⟨#[]⟩⟩, ⟨⟨#[101, 120, 112, 105, 114, 121]⟩, 20, none, 0, 0, false, leaf 20 0 ⟨#[115, 101, 115, 115, 105, 111, 110, 45, 101, 110, 100]⟩⟩, ⟨⟨#[116, 105, 109, 101, 111, 117, 116]⟩, 4, none, 0, 0, false, leaf 4 0 ⟨#[]⟩⟩, ⟨⟨#[100, 121, 110, 97, 109, 105, 99]⟩, 1, none, 0, 0, false, leaf 1 0 ⟨#[]⟩⟩, ⟨⟨#[99, 97, 112, 115]⟩, 101, none, 0, 0, false, leaf 0 0 ⟨#[]⟩⟩], rfl, ⟨rfl, fun _ => ⟨_, rfl, by omega, by simp, ?_⟩, ?_⟩, ?_⟩
  · exact FRow.flat (World.alloc_heap_new _ _) rfl
  · intro i h h'
    have h3 : i < 6 := h
    obtain rfl | rfl | rfl | rfl | rfl | rfl : i = 0 ∨ i = 1 ∨ i = 2 ∨ i = 3 ∨ i = 4 ∨ i = 5 := by omega
    · exact ⟨rfl, rfl, rfl, rfl, rfl, rfl, fun h => absurd h (Nat.lt_irrefl 0)⟩
    · exact ⟨rfl, rfl, rfl, rfl, rfl, rfl, fun h => absurd h (Nat.lt_irrefl 0)⟩
    · exact ⟨rfl, rfl, rfl, rfl, rfl, rfl, fun h => absurd h (Nat.lt_irrefl 0)⟩
    · exact ⟨rfl, rfl, rfl, rfl, rfl, rfl, fun h => absurd h (Nat.lt_irrefl 0)⟩
    · exact ⟨rfl, rfl, rfl, rfl, rfl, rfl, fun h => absurd h (Nat.lt_irrefl 0)⟩
    · exact ⟨rfl, rfl, rfl, rfl, rfl, rfl, fun h => absurd h (Nat.lt_irrefl 0)⟩
  · exact bel1 (Below.refl _ _) (Nat.le_refl _) _
def fs_responseFields : List FS := [⟨⟨#[114, 101, 115, 112, 111, 110, 115, 101]⟩, 18, [], true, 0, 0, ⟨#[]⟩⟩]
set_option maxRecDepth 100000 in
set_option maxHeartbeats 8000000 in
theorem responseFields_row (w : World) : Calls Tryz.prog 49 #[] w (FieldsRow fs_responseFields w) := by
  go_enter Tryz.func49, Tryz.ntmps49
  go_wp2
  go_ret
  refine ⟨some ⟨w.heap.size, 0, none⟩, [⟨⟨#[114, 101, 115, 112, 111, 110, 115, 101]⟩, 18, none, 0, 0, true, leaf 0 0 ⟨#[]⟩⟩], rfl, ⟨rfl, fun _ => ⟨_, rfl, by omega, by simp, ?_⟩, ?_⟩, ?_⟩
  · exact FRow.flat (World.alloc_heap_new _ _) rfl
  · intro i h h'
    have h3 : i < 1 := h
    obtain rfl : i = 0 := by omega
    · exact ⟨rfl, rfl, rfl, rfl, rfl, rfl, fun h => absurd h (Nat.lt_irrefl 0)⟩
  · exact bel1 (Below.refl _ _) (Nat.le_refl _) _
def fs_outcomeFields : List FS := [⟨⟨#[99, 111, 100, 101]⟩, 2, [], true, 0, 0, ⟨#[]⟩⟩, ⟨⟨#[100, 97, 116, 97]⟩, 18, [], false, 0, 0, ⟨#[]⟩⟩]
set_option maxRecDepth 100000 in
set_option maxHeartbeats 8000000 in
theorem outcomeFields_row (w : World) : Calls Tryz.prog 50 #[] w (FieldsRow fs_outcomeFields w) := by
  go_enter Tryz.func50, Tryz.ntmps50
  go_wp2
  go_ret
  refine ⟨some ⟨w.heap.size, 0, none⟩, [⟨⟨#[99, 111, 100, 101]⟩, 2, none, 0, 0, true, leaf 0 0 ⟨#[]⟩⟩, ⟨⟨#[100, 97, 116, 97]⟩, 18, none, 0, 0, false, leaf 0 0 ⟨#[]⟩⟩], rfl, ⟨rfl, fun _ => ⟨_, rfl, by omega, by simp, ?_⟩, ?_⟩, ?_⟩
  · exact FRow.flat (World.alloc_heap_new _ _) rfl
  · intro i h h'
    have h3 : i < 2 := h
    obtain rfl | rfl : i = 0 ∨ i = 1 := by omega
    · exact ⟨rfl, rfl, rfl, rfl, rfl, rfl, fun h => absurd h (Nat.lt_irrefl 0)⟩
    · exact ⟨rfl, rfl, rfl, rfl, rfl, rfl, fun h => absurd h (Nat.lt_irrefl 0)⟩
  · exact bel1 (Below.refl _ _) (Nat.le_refl _) _
end Go.Proofs.YtlpngpininkjnaaGreatDoor


/- shape: the table of fields. -/
namespace Go.Proofs.YtlpngpininkjnaaGreatDoor
open Go.RowKit
set_option linter.unusedVariables false
set_option linter.unusedSimpArgs false
def fs_transferFields : List FS := [⟨⟨#[104, 97, 110, 100, 108, 101]⟩, 4, [], true, 0, 0, ⟨#[]⟩⟩, ⟨⟨#[105, 100]⟩, 4, [], false, 0, 0, ⟨#[]⟩⟩, ⟨⟨#[116, 97, 103]⟩, 18, [], false, 0, 0, ⟨#[]⟩⟩, ⟨⟨#[102, 111, 114, 109, 97, 116]⟩, 4, [], false, 0, 0, ⟨#[]⟩⟩, ⟨⟨#[115, 101, 116, 116, 108, 101, 100]⟩, 1, [], false, 0, 0, ⟨#[]⟩⟩, ⟨⟨#[109, 111, 114, 101]⟩, 1, [], false, 1, 0, ⟨#[]⟩⟩, ⟨⟨#[115, 116, 97, 116, 101]⟩, 102, [35, 36, 37, 38, 39, 51, 52], false, 0, 0, ⟨#[]⟩⟩, ⟨⟨#[114, 101, 115, 117, 109, 101]⟩, 1, [], false, 1, 0, ⟨#[]⟩⟩, ⟨⟨#[97, 98, 111, 114, 116, 101, 100]⟩, 1, [], false, 1, 0, ⟨#[]⟩⟩, ⟨⟨#[98, 97, 116, 99, 104, 97, 98, 108, 101]⟩, 1, [], false, 1, 0, ⟨#[]⟩⟩]
set_option maxRecDepth 100000 in
set_option maxHeartbeats 8000000 in
theorem transferFields_row (w : World) : Calls Tryz.prog 32 #[] w (FieldsRow fs_transferFields w) := by
  have HC_states := hide (fun W => states_any W)
  go_enter Tryz.func32, Tryz.ntmps32
  go_wp2_with fail
  refine (HC_states.out _).mono ?_
  rintro e1 w1 ⟨rfl, rfl⟩
  go_wp2
  go_ret
  refine ⟨some ⟨w.heap.size + 1, 0, none⟩, [⟨⟨#[104, 97, 110, 100, 108, 101]⟩, 4, none, 0, 0, true, leaf 0 0 ⟨#[]⟩⟩, ⟨⟨#[105, 100]⟩, 4, none, 0, 0, false, leaf 0 0 ⟨#[]⟩⟩, ⟨⟨#[116, 97, 103]⟩, 18, none, 0, 0, false, leaf 0 0 ⟨#[]⟩⟩, ⟨⟨#[102, 111, 114, 109, 97, 116]⟩, 4, none, 0, 0, false, leaf 0 0 ⟨#[]⟩⟩, ⟨⟨#[115, 101, 116, 116, 108, 101, 100]⟩, 1, none, 0, 0, false, leaf 0 0 ⟨#[]⟩⟩, ⟨⟨#[109, 111, 114, 101]⟩, 1, none, 0, 0, false, leaf 1 0 ⟨#[]⟩⟩, ⟨⟨#[115, 116, 97, 116, 101]⟩, 102, some ⟨w.heap.size, 0, none⟩, 7, 7, false, leaf 0 0 ⟨#[]⟩⟩, ⟨⟨#[114, 101, 115, 117, 109, 101]⟩, 1, none, 0, 0, false, leaf 1 0 ⟨#[]⟩⟩, ⟨⟨#[97, 98, 111, 114, 116, 101, 100]⟩, 1, none, 0, 0, false, leaf 1 0 ⟨#[]⟩⟩, ⟨⟨#[98, 97, 116, 99, 104, 97, 98, 108, 101]⟩, 1, none, 0, 0, false, leaf 1 0 ⟨#[]⟩⟩], rfl, ⟨rfl, fun _ => ⟨_, rfl, by omega, by simp, ?_⟩, ?_⟩, ?_⟩
  · exact FRow.flat (heap_at1 _ _ _) rfl
  · intro i h h'
    have h3 : i < 10 := h
    obtain rfl | rfl | rfl | rfl | rfl | rfl | rfl | rfl | rfl | rfl : i = 0 ∨ i = 1 ∨ i = 2 ∨ i = 3 ∨ i = 4 ∨ i = 5 ∨ i = 6 ∨ i = 7 ∨ i = 8 ∨ i = 9 := by omega
    · exact ⟨rfl, rfl, rfl, rfl, rfl, rfl, fun h => absurd h (Nat.lt_irrefl 0)⟩
    · exact ⟨rfl, rfl, rfl, rfl, rfl, rfl, fun h => absurd h (Nat.lt_irrefl 0)⟩
    · exact ⟨rfl, rfl, rfl, rfl, rfl, rfl, fun h => absurd h (Nat.lt_irrefl 0)⟩
    · exact ⟨rfl, rfl, rfl, rfl, rfl, rfl, fun h => absurd h (Nat.lt_irrefl 0)⟩
    · exact ⟨rfl, rfl, rfl, rfl, rfl, rfl, fun h => absurd h (Nat.lt_irrefl 0)⟩
    · exact ⟨rfl, rfl, rfl, rfl, rfl, rfl, fun h => absurd h (Nat.lt_irrefl 0)⟩
    · exact ⟨rfl, rfl, rfl, rfl, rfl, rfl, fun _ => ⟨_, rfl, by omega, (by first | (simp; done) | (simp; omega)), heap_past (World.alloc_heap_new _ _) _⟩⟩
    · exact ⟨rfl, rfl, rfl, rfl, rfl, rfl, fun h => absurd h (Nat.lt_irrefl 0)⟩
    · exact ⟨rfl, rfl, rfl, rfl, rfl, rfl, fun h => absurd h (Nat.lt_irrefl 0)⟩
    · exact ⟨rfl, rfl, rfl, rfl, rfl, rfl, fun h => absurd h (Nat.lt_irrefl 0)⟩
  · exact bel2 (Below.refl _ _) (Nat.le_refl _) _ _
def fs_onlyFault : List FS := [⟨⟨#[102, 97, 117, 108, 116]⟩, 102, [29], false, 0, 0, ⟨#[]⟩⟩]
set_option maxRecDepth 100000 in
set_option maxHeartbeats 8000000 in
theorem onlyFault_row (w : World) : Calls Tryz.prog 35 #[] w (FieldsRow fs_onlyFault w) := by
  go_enter Tryz.func35, Tryz.ntmps35
  go_wp2
  go_ret
  refine ⟨some ⟨w.heap.size + 1, 0, none⟩, [⟨⟨#[102, 97, 117, 108, 116]⟩, 102, some ⟨w.heap.size, 0, none⟩, 1, 1, false, leaf 0 0 ⟨#[]⟩⟩], rfl, ⟨rfl, fun _ => ⟨_, rfl, by omega, by simp, ?_⟩, ?_⟩, ?_⟩
  · exact FRow.flat (heap_at1 _ _ _) rfl
  · intro i h h'
    have h3 : i < 1 := h
    obtain rfl : i = 0 := by omega
    · exact ⟨rfl, rfl, rfl, rfl, rfl, rfl, fun _ => ⟨_, rfl, by omega, (by first | (simp; done) | (simp; omega)), heap_past (World.alloc_heap_new _ _) _⟩⟩
  · exact bel2 (Below.refl _ _) (Nat.le_refl _) _ _
def fs_faultFields : List FS := [⟨⟨#[99, 111, 110, 100]⟩, 20, [], true, 0, 0, ⟨#[]⟩⟩, ⟨⟨#[116, 101, 120, 116]⟩, 19, [], false, 0, 0, ⟨#[]⟩⟩, ⟨⟨#[105, 110, 102, 111]⟩, 22, [], false, 0, 0, ⟨#[]⟩⟩]
set_option maxRecDepth 100000 in
set_option maxHeartbeats 8000000 in
theorem faultFields_row (w : World) : Calls Tryz.prog 36 #[] w (FieldsRow fs_faultFields w) := by
  go_enter Tryz.func36, Tryz.ntmps36
  go_wp2
  go_ret
  refine ⟨some ⟨w.heap.size, 0, none⟩, [⟨⟨#[99, 111, 110, 100]⟩, 20, none, 0, 0, true, leaf 0 0 ⟨#[]⟩⟩, ⟨⟨#[116, 101, 120, 116]⟩, 19, none, 0, 0, false, leaf 0 0 ⟨#[]⟩⟩, ⟨⟨#[105, 110, 102, 111]⟩, 22, none, 0, 0, false, leaf 0 0 ⟨#[]⟩⟩], rfl, ⟨rfl, fun _ => ⟨_, rfl, by omega, by simp, ?_⟩, ?_⟩, ?_⟩
  · exact FRow.flat (World.alloc_heap_new _ _) rfl
  · intro i h h'
    have h3 : i < 3 := h
    obtain rfl | rfl | rfl : i = 0 ∨ i = 1 ∨ i = 2 := by omega
    · exact ⟨rfl, rfl, rfl, rfl, rfl, rfl, fun h => absurd h (Nat.lt_irrefl 0)⟩
    · exact ⟨rfl, rfl, rfl, rfl, rfl, rfl, fun h => absurd h (Nat.lt_irrefl 0)⟩
    · exact ⟨rfl, rfl, rfl, rfl, rfl, rfl, fun h => absurd h (Nat.lt_irrefl 0)⟩
  · exact bel1 (Below.refl _ _) (Nat.le_refl _) _
def fs_sourceFields : List FS := [⟨⟨#[97, 100, 100, 114, 101, 115, 115]⟩, 19, [], false, 0, 0, ⟨#[]⟩⟩, ⟨⟨#[100, 117, 114, 97, 98, 108, 101]⟩, 4, [], false, 4, 0, ⟨#[]⟩⟩, ⟨⟨#[101, 120, 112, 105, 114, 121]⟩, 20, [], false, 20, 0, ⟨#[115, 101, 115, 115, 105, 111, 110, 45, 101, 110, 100]⟩⟩, ⟨⟨#[116, 105, 109, 101, 111, 117, 116]⟩, 4, [], false, 4, 0, ⟨#[]⟩⟩, ⟨⟨#[100, 121, 110, 97, 109, 105, 99]⟩, 1, [], false, 1, 0, ⟨#[]⟩⟩, ⟨⟨#[109, 111, 100, 101]⟩, 20, [], false, 0, 0, ⟨#[]⟩⟩, ⟨⟨#[102, 105, 108, 116, 101, 114]⟩, 19, [], false, 0, 0, ⟨#[]⟩⟩, ⟨⟨#[100, 101, 102, 97, 117, 108, 116]⟩, 102, [36, 37, 38, 39], false, 0, 0, ⟨#[]⟩⟩, ⟨⟨#[111, 117, 116, 99, 111, 109, 101, 115]⟩, 101, [], false, 0, 0, ⟨#[]⟩⟩, ⟨⟨#[99, 97, 112, 115]⟩, 101, [], false, 0, 0, ⟨#[]⟩⟩]
set_option maxRecDepth 100000 in
set_option maxHeartbeats 8000000 in
theorem sourceFields_row (w : World) : Calls Tryz.prog 40 #[] w (FieldsRow fs_sourceFields w) := by
  have HC_outcomes := hide (fun W => outcomes_any W)
  go_enter Tryz.func40, Tryz.ntmps40
  go_wp2_with fail
  refine (HC_outcomes.out _).mono ?_
  rintro e1 w1 ⟨rfl, rfl⟩
  go_wp2
  go_ret
  refine ⟨some ⟨w.heap.size + 1, 0, none⟩, [⟨⟨#[97, 100, 100, 114, 101, 115, 115]⟩, 19, none, 0, 0, false, leaf 0 0 ⟨#[]⟩⟩, ⟨⟨#[100, 117, 114, 97, 98, 108, 101]⟩, 4, none, 0, 0, false, leaf 4 0 ⟨#[]⟩⟩, ⟨⟨#[101, 120, 112, 105, 114, 121]⟩, 20, none, 0, 0, false, leaf 20 0 ⟨#[115, 101, 115, 115, 105, 111, 110, 45, 101, 110, 100]⟩⟩, ⟨⟨#[116, 105, 109, 101, 111, 117, 116]⟩, 4, none, 0, 0, false, leaf 4 0 ⟨#[]⟩⟩, ⟨⟨#[100, 121, 110, 97, 109, 105, 99]⟩, 1, none, 0, 0, false, leaf 1 0 ⟨#[]⟩⟩, ⟨⟨#[109, 111, 100, 101]⟩, 20, none, 0, 0, false, leaf 0 0 ⟨#[]⟩⟩, ⟨⟨#[102, 105, 108, 116, 101, 114]⟩, 19, none, 0, 0, false, leaf 0 0 ⟨#[]⟩⟩, ⟨⟨#[100, 101, 102, 97, 117, 108, 116]⟩, 102, some ⟨w.heap.size, 0, none⟩, 4, 4, false, leaf 0 0 ⟨#[]⟩⟩, ⟨⟨#[111, 117, 116, 99, 111, 109, 101, 115]⟩, 101, none, 0, 0, false, leaf 0 0 ⟨#[]⟩⟩, ⟨⟨#[99, 97, 112, 115]⟩, 101, none, 0, 0, false, leaf 0 0 ⟨#[]⟩⟩], rfl, ⟨rfl, fun _ => ⟨_, rfl, by omega, by simp, ?_⟩, ?_⟩, ?_⟩
  · exact FRow.flat (heap_at1 _ _ _) rfl
  · intro i h h'
    have h3 : i < 10 := h
    obtain rfl | rfl | rfl | rfl | rfl | rfl | rfl | rfl | rfl | rfl : i = 0 ∨ i = 1 ∨ i = 2 ∨ i = 3 ∨ i = 4 ∨ i = 5 ∨ i = 6 ∨ i = 7 ∨ i = 8 ∨ i = 9 := by omega
    · exact ⟨rfl, rfl, rfl, rfl, rfl, rfl, fun h => absurd h (Nat.lt_irrefl 0)⟩
    · exact ⟨rfl, rfl, rfl, rfl, rfl, rfl, fun h => absurd h (Nat.lt_irrefl 0)⟩
    · exact ⟨rfl, rfl, rfl, rfl, rfl, rfl, fun h => absurd h (Nat.lt_irrefl 0)⟩
    · exact ⟨rfl, rfl, rfl, rfl, rfl, rfl, fun h => absurd h (Nat.lt_irrefl 0)⟩
    · exact ⟨rfl, rfl, rfl, rfl, rfl, rfl, fun h => absurd h (Nat.lt_irrefl 0)⟩
    · exact ⟨rfl, rfl, rfl, rfl, rfl, rfl, fun h => absurd h (Nat.lt_irrefl 0)⟩
    · exact ⟨rfl, rfl, rfl, rfl, rfl, rfl, fun h => absurd h (Nat.lt_irrefl 0)⟩
    · exact ⟨rfl, rfl, rfl, rfl, rfl, rfl, fun _ => ⟨_, rfl, by omega, (by first | (simp; done) | (simp; omega)), heap_past (World.alloc_heap_new _ _) _⟩⟩
    · exact ⟨rfl, rfl, rfl, rfl, rfl, rfl, fun h => absurd h (Nat.lt_irrefl 0)⟩
    · exact ⟨rfl, rfl, rfl, rfl, rfl, rfl, fun h => absurd h (Nat.lt_irrefl 0)⟩
  · exact bel2 (Below.refl _ _) (Nat.le_refl _) _ _
def fs_dischargeFields : List FS := [⟨⟨#[116, 120, 110]⟩, 18, [], true, 0, 0, ⟨#[]⟩⟩, ⟨⟨#[102, 97, 105, 108]⟩, 1, [], false, 1, 0, ⟨#[]⟩⟩]
set_option maxRecDepth 100000 in
set_option maxHeartbeats 8000000 in
theorem dischargeFields_row (w : World) : Calls Tryz.prog 43 #[] w (FieldsRow fs_dischargeFields w) := by
  go_enter Tryz.func43, Tryz.ntmps43
  go_wp2
  go_ret
  refine ⟨some ⟨w.heap.size, 0, none⟩, [⟨⟨#[116, 120, 110]⟩, 18, none, 0, 0, true, leaf 0 0 ⟨#[]⟩⟩, ⟨⟨#[102, 97, 105, 108]⟩, 1, none, 0, 0, false, leaf 1 0 ⟨#[]⟩⟩], rfl, ⟨rfl, fun _ => ⟨_, rfl, by omega, by simp, ?_⟩, ?_⟩, ?_⟩
  · exact FRow.flat (World.alloc_heap_new _ _) rfl
  · intro i h h'
    have h3 : i < 2 := h
    obtain rfl | rfl : i = 0 ∨ i = 1 := by omega
    · exact ⟨rfl, rfl, rfl, rfl, rfl, rfl, fun h => absurd h (Nat.lt_irrefl 0)⟩
    · exact ⟨rfl, rfl, rfl, rfl, rfl, rfl, fun h => absurd h (Nat.lt_irrefl 0)⟩
  · exact bel1 (Below.refl _ _) (Nat.le_refl _) _
def fs_declaredFields : List FS := [⟨⟨#[116, 120, 110]⟩, 18, [], true, 0, 0, ⟨#[]⟩⟩]
set_option maxRecDepth 100000 in
set_option maxHeartbeats 8000000 in
theorem declaredFields_row (w : World) : Calls Tryz.prog 44 #[] w (FieldsRow fs_declaredFields w) := by
  go_enter Tryz.func44, Tryz.ntmps44
  go_wp2
  go_ret
  refine ⟨some ⟨w.heap.size, 0, none⟩, [⟨⟨#[116, 120, 110]⟩, 18, none, 0, 0, true, leaf 0 0 ⟨#[]⟩⟩], rfl, ⟨rfl, fun _ => ⟨_, rfl, by omega, by simp, ?_⟩, ?_⟩, ?_⟩
  · exact FRow.flat (World.alloc_heap_new _ _) rfl
  · intro i h h'
    have h3 : i < 1 := h
    obtain rfl : i = 0 := by omega
    · exact ⟨rfl, rfl, rfl, rfl, rfl, rfl, fun h => absurd h (Nat.lt_irrefl 0)⟩
  · exact bel1 (Below.refl _ _) (Nat.le_refl _) _
def fs_noFields : List FS := []
set_option maxRecDepth 100000 in
set_option maxHeartbeats 8000000 in
theorem noFields_row (w : World) : Calls Tryz.prog 38 #[] w (FieldsRow fs_noFields w) := by
  go_enter Tryz.func38, Tryz.ntmps38
  go_wp2
  go_ret
  exact ⟨none, [], rfl, ⟨rfl, fun h => absurd h (by simp), fun i h => absurd h (by simp)⟩, Below.refl _ _⟩
end Go.Proofs.YtlpngpininkjnaaGreatDoor


/- shape: the table of fields. -/
namespace Go.Proofs.YtlpngpininkjnaaGreatDoor
open Go.RowKit
set_option linter.unusedVariables false
set_option linter.unusedSimpArgs false
/-- the table: a kind and its fields, in the order of krows -/
def ftabL : List (Int × Option (List FS)) := [(16, some fs_openFields), (17, some fs_beginFields), (18, some fs_attachFields), (19, some fs_flowFields), (20, some fs_transferFields), (21, some fs_dispositionFields), (22, some fs_detachFields), (23, some fs_onlyFault), (24, some fs_onlyFault), (29, some fs_faultFields), (35, some fs_receivedFields), (36, some fs_noFields), (37, some fs_onlyFault), (38, some fs_noFields), (39, some fs_modifiedFields), (40, some fs_sourceFields), (41, some fs_targetFields), (48, some fs_coordinatorFields), (49, some fs_noFields), (50, some fs_dischargeFields), (51, some fs_declaredFields), (52, some fs_transactionalFields), (64, some fs_mechanismsFields), (65, some fs_initFields), (66, some fs_challengeFields), (67, some fs_responseFields), (68, some fs_outcomeFields), (112, some fs_headerFields), (115, some fs_propertiesFields), (113, none), (114, none), (116, none), (120, none), (117, none), (118, none), (119, none)]
def ftab (k : Int) : Option (List FS) := ((ftabL.find? fun p => p.1 == k).bind Prod.snd)
theorem ftabL_len : ftabL.length = 36 := rfl
/-- what the i-th row's function gives -/
def RowOk (i : Nat) : Prop := ∀ (h : i < krows.length), (krows[i].2.2 = .nilFunc ∧ ftab krows[i].1 = none) ∨ (∃ g l, krows[i].2.2 = .func (.func g) #[] #[] ∧ ftab krows[i].1 = some l ∧ (∀ args w, (callFunc g args).run Tryz.prog w = .ok (.enter g args) w) ∧ ∀ W, Calls Tryz.prog g #[] W (FieldsRow l W))
set_option maxRecDepth 100000 in
theorem row_ok (i : Nat) (hi : i < 36) : RowOk i := by
  intro h
  match i, hi with
  | 0, _ => exact .inr ⟨_, _, rfl, rfl, enters_of Tryz.func28 (by kernel_rfl) rfl, openFields_row⟩
  | 1, _ => exact .inr ⟨_, _, rfl, rfl, enters_of Tryz.func29 (by kernel_rfl) rfl, beginFields_row⟩
  | 2, _ => exact .inr ⟨_, _, rfl, rfl, enters_of Tryz.func30 (by kernel_rfl) rfl, attachFields_row⟩
  | 3, _ => exact .inr ⟨_, _, rfl, rfl, enters_of Tryz.func31 (by kernel_rfl) rfl, flowFields_row⟩
  | 4, _ => exact .inr ⟨_, _, rfl, rfl, enters_of Tryz.func32 (by kernel_rfl) rfl, transferFields_row⟩
  | 5, _ => exact .inr ⟨_, _, rfl, rfl, enters_of Tryz.func33 (by kernel_rfl) rfl, dispositionFields_row⟩
  | 6, _ => exact .inr ⟨_, _, rfl, rfl, enters_of Tryz.func34 (by kernel_rfl) rfl, detachFields_row⟩
  | 7, _ => exact .inr ⟨_, _, rfl, rfl, enters_of Tryz.func35 (by kernel_rfl) rfl, onlyFault_row⟩
  | 8, _ => exact .inr ⟨_, _, rfl, rfl, enters_of Tryz.func35 (by kernel_rfl) rfl, onlyFault_row⟩
  | 9, _ => exact .inr ⟨_, _, rfl, rfl, enters_of Tryz.func36 (by kernel_rfl) rfl, faultFields_row⟩
  | 10, _ => exact .inr ⟨_, _, rfl, rfl, enters_of Tryz.func37 (by kernel_rfl) rfl, receivedFields_row⟩
  | 11, _ => exact .inr ⟨_, _, rfl, rfl, enters_of Tryz.func38 (by kernel_rfl) rfl, noFields_row⟩
  | 12, _ => exact .inr ⟨_, _, rfl, rfl, enters_of Tryz.func35 (by kernel_rfl) rfl, onlyFault_row⟩
  | 13, _ => exact .inr ⟨_, _, rfl, rfl, enters_of Tryz.func38 (by kernel_rfl) rfl, noFields_row⟩
  | 14, _ => exact .inr ⟨_, _, rfl, rfl, enters_of Tryz.func39 (by kernel_rfl) rfl, modifiedFields_row⟩
  | 15, _ => exact .inr ⟨_, _, rfl, rfl, enters_of Tryz.func40 (by kernel_rfl) rfl, sourceFields_row⟩
  | 16, _ => exact .inr ⟨_, _, rfl, rfl, enters_of Tryz.func41 (by kernel_rfl) rfl, targetFields_row⟩
  | 17, _ => exact .inr ⟨_, _, rfl, rfl, enters_of Tryz.func42 (by kernel_rfl) rfl, coordinatorFields_row⟩
  | 18, _ => exact .inr ⟨_, _, rfl, rfl, enters_of Tryz.func38 (by kernel_rfl) rfl, noFields_row⟩
  | 19, _ => exact .inr ⟨_, _, rfl, rfl, enters_of Tryz.func43 (by kernel_rfl) rfl, dischargeFields_row⟩
  | 20, _ => exact .inr ⟨_, _, rfl, rfl, enters_of Tryz.func44 (by kernel_rfl) rfl, declaredFields_row⟩
  | 21, _ => exact .inr ⟨_, _, rfl, rfl, enters_of Tryz.func45 (by kernel_rfl) rfl, transactionalFields_row⟩
  | 22, _ => exact .inr ⟨_, _, rfl, rfl, enters_of Tryz.func46 (by kernel_rfl) rfl, mechanismsFields_row⟩
  | 23, _ => exact .inr ⟨_, _, rfl, rfl, enters_of Tryz.func47 (by kernel_rfl) rfl, initFields_row⟩
  | 24, _ => exact .inr ⟨_, _, rfl, rfl, enters_of Tryz.func48 (by kernel_rfl) rfl, challengeFields_row⟩
  | 25, _ => exact .inr ⟨_, _, rfl, rfl, enters_of Tryz.func49 (by kernel_rfl) rfl, responseFields_row⟩
  | 26, _ => exact .inr ⟨_, _, rfl, rfl, enters_of Tryz.func50 (by kernel_rfl) rfl, outcomeFields_row⟩
  | 27, _ => exact .inr ⟨_, _, rfl, rfl, enters_of Tryz.func51 (by kernel_rfl) rfl, headerFields_row⟩
  | 28, _ => exact .inr ⟨_, _, rfl, rfl, enters_of Tryz.func52 (by kernel_rfl) rfl, propertiesFields_row⟩
  | 29, _ => exact .inl ⟨rfl, rfl⟩
  | 30, _ => exact .inl ⟨rfl, rfl⟩
  | 31, _ => exact .inl ⟨rfl, rfl⟩
  | 32, _ => exact .inl ⟨rfl, rfl⟩
  | 33, _ => exact .inl ⟨rfl, rfl⟩
  | 34, _ => exact .inl ⟨rfl, rfl⟩
  | 35, _ => exact .inl ⟨rfl, rfl⟩
  | n + 36, h => omega
set_option maxRecDepth 100000 in
theorem ftab_rows : krows.map (fun r => r.1) = ftabL.map (fun p => p.1) := rfl
theorem ftab_none {k : Int} (h : ∀ i (hi : i < krows.length), krows[i].1 = k → krows[i].2.2 = .nilFunc) : ftab k = none := by
  unfold ftab
  cases hf : ftabL.find? (fun p => p.1 == k) with
  | none => rfl
  | some p =>
    have hp := List.find?_some hf
    have hk : p.1 = k := by simpa using hp
    obtain ⟨i, hi, he⟩ := List.mem_iff_getElem.1 (List.mem_of_find?_eq_some hf)
    have hi' : i < krows.length := by rw [krows_len]; exact hi
    have h1 : krows[i].1 = k := by
      have h2 : (krows.map fun r => r.1)[i]? = (ftabL.map fun p => p.1)[i]? := by rw [ftab_rows]
      rw [List.getElem?_map, List.getElem?_map, List.getElem?_eq_getElem hi', List.getElem?_eq_getElem hi, he] at h2
      exact (Option.some.inj h2).trans hk
    have h3 := h i hi' h1
    rcases row_ok i hi hi' with ⟨_, e⟩ | ⟨g, l, e, _⟩
    · rw [h1] at e
      unfold ftab at e
      rw [hf] at e
      exact e
    · rw [h3] at e
      cases e
end Go.Proofs.YtlpngpininkjnaaGreatDoor
