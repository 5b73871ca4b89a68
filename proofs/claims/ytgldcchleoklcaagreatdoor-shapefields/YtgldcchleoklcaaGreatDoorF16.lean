/- HGTb -/
import Derived.Test.YtgldcchleoklcaaGreatDoorF14
namespace Go.Proofs.YtgldcchleoklcaaGreatDoor
open Go.RowKit
set_option linter.unusedVariables false
set_option linter.unusedSimpArgs false
def fs_beginFields : List FS := [⟨⟨#[114, 101, 109, 111, 116, 101]⟩, 3, [], false, 0, 0, ⟨#[]⟩⟩, ⟨⟨#[110, 101, 120, 116, 45, 111, 117, 116]⟩, 4, [], true, 0, 0, ⟨#[]⟩⟩, ⟨⟨#[105, 110, 45, 119, 105, 110, 100, 111, 119]⟩, 4, [], true, 0, 0, ⟨#[]⟩⟩, ⟨⟨#[111, 117, 116, 45, 119, 105, 110, 100, 111, 119]⟩, 4, [], true, 0, 0, ⟨#[]⟩⟩, ⟨⟨#[104, 97, 110, 100, 108, 101, 45, 109, 97, 120]⟩, 4, [], false, 4, 4294967295, ⟨#[]⟩⟩, ⟨⟨#[112, 114, 111, 112, 115]⟩, 22, [], false, 0, 0, ⟨#[]⟩⟩]
set_option maxRecDepth 100000 in
set_option maxHeartbeats 8000000 in
theorem beginFields_row (w : World) : Calls Tryz.prog 49 #[] w (FieldsRow fs_beginFields w) := by
  go_enter Tryz.func49, Tryz.ntmps49
  go_wp2
  go_ret
  refine ⟨some ⟨w.heap.size, 0, none⟩, [⟨⟨#[114, 101, 109, 111, 116, 101]⟩, 3, none, 0, 0, false, leaf 0 0 ⟨#[]⟩⟩, ⟨⟨#[110, 101, 120, 116, 45, 111, 117, 116]⟩, 4, none, 0, 0, true, leaf 0 0 ⟨#[]⟩⟩, ⟨⟨#[105, 110, 45, 119, 105, 110, 100, 111, 119]⟩, 4, none, 0, 0, true, leaf 0 0 ⟨#[]⟩⟩, ⟨⟨#[111, 117, 116, 45, 119, 105, 110, 100, 111, 119]⟩, 4, none, 0, 0, true, leaf 0 0 ⟨#[]⟩⟩, ⟨⟨#[104, 97, 110, 100, 108, 101, 45, 109, 97, 120]⟩, 4, none, 0, 0, false, leaf 4 4294967295 ⟨#[]⟩⟩, ⟨⟨#[112, 114, 111, 112, 115]⟩, 22, none, 0, 0, false, leaf 0 0 ⟨#[]⟩⟩], rfl, ⟨rfl, fun _ => ⟨_, rfl, by omega, by simp, ?_⟩, ?_⟩, ?_⟩
  · exact FRow.flat (World.alloc_heap_new _ _) rfl
  · intro i h h'
    have h3 : i < 6 := h
    obtain rfl | rfl | rfl | rfl | rfl | rfl : i = 0 ∨ i = 1 ∨ i = 2 ∨ i = 3 ∨ i = 4 ∨ i = 5 := by omega
    · exact ⟨rfl, rfl, rfl, rfl, rfl, rfl, fun h => absurd h (Nat.lt_irrefl 0)⟩
    · exact ⟨rfl, rfl, rfl, rfl, rfl, rfl, fun h => absurd h (Nat.lt_irrefl 0)⟩
    · exact ⟨rfl, rfl, rfl, rfl, rfl, rfl, fun h => absurd h (Nat.lt_irrefl 0)⟩
    · exact ⟨rfl, rfl, rfl, rfl, rfl, rfl, fun h => absurd h (Nat.lt_irrefl 0)⟩
    · exact ⟨rfl, rfl, rfl, rfl, rfl, rfl, fun h => absurd h (Nat.lt_irrefl 0)⟩
    · exact ⟨rfl, rfl, rfl, rfl, rfl, rfl, fun h => absurd h (Nat.lt_irrefl 0)⟩
  · exact bel1 (Below.refl _ _) (Nat.le_refl _) _
def fs_attachFields : List FS := [⟨⟨#[110, 97, 109, 101]⟩, 19, [], true, 0, 0, ⟨#[]⟩⟩, ⟨⟨#[104, 97, 110, 100, 108, 101]⟩, 4, [], true, 0, 0, ⟨#[]⟩⟩, ⟨⟨#[114, 111, 108, 101]⟩, 1, [], true, 0, 0, ⟨#[]⟩⟩, ⟨⟨#[115, 110, 100, 45, 109, 111, 100, 101]⟩, 2, [], false, 2, 2, ⟨#[]⟩⟩, ⟨⟨#[114, 99, 118, 45, 109, 111, 100, 101]⟩, 2, [], false, 2, 0, ⟨#[]⟩⟩, ⟨⟨#[115, 111, 117, 114, 99, 101]⟩, 102, [40], false, 0, 0, ⟨#[]⟩⟩, ⟨⟨#[116, 97, 114, 103, 101, 116]⟩, 102, [41, 48], false, 0, 0, ⟨#[]⟩⟩, ⟨⟨#[117, 110, 115, 101, 116, 116, 108, 101, 100]⟩, 22, [], false, 0, 0, ⟨#[]⟩⟩, ⟨⟨#[105, 110, 99, 111, 109, 112, 108, 101, 116, 101]⟩, 1, [], false, 1, 0, ⟨#[]⟩⟩, ⟨⟨#[105, 110, 105, 116, 105, 97, 108, 45, 99, 111, 117, 110, 116]⟩, 4, [], false, 0, 0, ⟨#[]⟩⟩, ⟨⟨#[109, 97, 120, 45, 109, 101, 115, 115, 97, 103, 101]⟩, 5, [], false, 0, 0, ⟨#[]⟩⟩, ⟨⟨#[112, 114, 111, 112, 115]⟩, 22, [], false, 0, 0, ⟨#[]⟩⟩]
set_option maxRecDepth 100000 in
set_option maxHeartbeats 8000000 in
theorem attachFields_row (w : World) : Calls Tryz.prog 50 #[] w (FieldsRow fs_attachFields w) := by
  go_enter Tryz.func50, Tryz.ntmps50
  go_wp2
  go_ret
  refine ⟨some ⟨w.heap.size + 1 + 1, 0, none⟩, [⟨⟨#[110, 97, 109, 101]⟩, 19, none, 0, 0, true, leaf 0 0 ⟨#[]⟩⟩, ⟨⟨#[104, 97, 110, 100, 108, 101]⟩, 4, none, 0, 0, true, leaf 0 0 ⟨#[]⟩⟩, ⟨⟨#[114, 111, 108, 101]⟩, 1, none, 0, 0, true, leaf 0 0 ⟨#[]⟩⟩, ⟨⟨#[115, 110, 100, 45, 109, 111, 100, 101]⟩, 2, none, 0, 0, false, leaf 2 2 ⟨#[]⟩⟩, ⟨⟨#[114, 99, 118, 45, 109, 111, 100, 101]⟩, 2, none, 0, 0, false, leaf 2 0 ⟨#[]⟩⟩, ⟨⟨#[115, 111, 117, 114, 99, 101]⟩, 102, some ⟨w.heap.size, 0, none⟩, 1, 1, false, leaf 0 0 ⟨#[]⟩⟩, ⟨⟨#[116, 97, 114, 103, 101, 116]⟩, 102, some ⟨w.heap.size + 1, 0, none⟩, 2, 2, false, leaf 0 0 ⟨#[]⟩⟩, ⟨⟨#[117, 110, 115, 101, 116, 116, 108, 101, 100]⟩, 22, none, 0, 0, false, leaf 0 0 ⟨#[]⟩⟩, ⟨⟨#[105, 110, 99, 111, 109, 112, 108, 101, 116, 101]⟩, 1, none, 0, 0, false, leaf 1 0 ⟨#[]⟩⟩, ⟨⟨#[105, 110, 105, 116, 105, 97, 108, 45, 99, 111, 117, 110, 116]⟩, 4, none, 0, 0, false, leaf 0 0 ⟨#[]⟩⟩, ⟨⟨#[109, 97, 120, 45, 109, 101, 115, 115, 97, 103, 101]⟩, 5, none, 0, 0, false, leaf 0 0 ⟨#[]⟩⟩, ⟨⟨#[112, 114, 111, 112, 115]⟩, 22, none, 0, 0, false, leaf 0 0 ⟨#[]⟩⟩], rfl, ⟨rfl, fun _ => ⟨_, rfl, by omega, by simp, ?_⟩, ?_⟩, ?_⟩
  · exact FRow.flat (heap_at2 _ _ _ _) rfl
  · intro i h h'
    have h3 : i < 12 := h
    obtain rfl | rfl | rfl | rfl | rfl | rfl | rfl | rfl | rfl | rfl | rfl | rfl : i = 0 ∨ i = 1 ∨ i = 2 ∨ i = 3 ∨ i = 4 ∨ i = 5 ∨ i = 6 ∨ i = 7 ∨ i = 8 ∨ i = 9 ∨ i = 10 ∨ i = 11 := by omega
    · exact ⟨rfl, rfl, rfl, rfl, rfl, rfl, fun h => absurd h (Nat.lt_irrefl 0)⟩
    · exact ⟨rfl, rfl, rfl, rfl, rfl, rfl, fun h => absurd h (Nat.lt_irrefl 0)⟩
    · exact ⟨rfl, rfl, rfl, rfl, rfl, rfl, fun h => absurd h (Nat.lt_irrefl 0)⟩
    · exact ⟨rfl, rfl, rfl, rfl, rfl, rfl, fun h => absurd h (Nat.lt_irrefl 0)⟩
    · exact ⟨rfl, rfl, rfl, rfl, rfl, rfl, fun h => absurd h (Nat.lt_irrefl 0)⟩
    · exact ⟨rfl, rfl, rfl, rfl, rfl, rfl, fun _ => ⟨_, rfl, by omega, (by first | (simp; done) | (simp; omega)), heap_past (heap_past (World.alloc_heap_new _ _) _) _⟩⟩
    · exact ⟨rfl, rfl, rfl, rfl, rfl, rfl, fun _ => ⟨_, rfl, by omega, (by first | (simp; done) | (simp; omega)), heap_past (heap_at1 _ _ _) _⟩⟩
    · exact ⟨rfl, rfl, rfl, rfl, rfl, rfl, fun h => absurd h (Nat.lt_irrefl 0)⟩
    · exact ⟨rfl, rfl, rfl, rfl, rfl, rfl, fun h => absurd h (Nat.lt_irrefl 0)⟩
    · exact ⟨rfl, rfl, rfl, rfl, rfl, rfl, fun h => absurd h (Nat.lt_irrefl 0)⟩
    · exact ⟨rfl, rfl, rfl, rfl, rfl, rfl, fun h => absurd h (Nat.lt_irrefl 0)⟩
    · exact ⟨rfl, rfl, rfl, rfl, rfl, rfl, fun h => absurd h (Nat.lt_irrefl 0)⟩
  · exact bel1 (bel2 (Below.refl _ _) (Nat.le_refl _) _ _) (by simp; omega) _
def fs_receivedFields : List FS := [⟨⟨#[115, 101, 99, 116, 105, 111, 110]⟩, 4, [], true, 0, 0, ⟨#[]⟩⟩, ⟨⟨#[111, 102, 102, 115, 101, 116]⟩, 5, [], true, 0, 0, ⟨#[]⟩⟩]
set_option maxRecDepth 100000 in
set_option maxHeartbeats 8000000 in
theorem receivedFields_row (w : World) : Calls Tryz.prog 57 #[] w (FieldsRow fs_receivedFields w) := by
  go_enter Tryz.func57, Tryz.ntmps57
  go_wp2
  go_ret
  refine ⟨some ⟨w.heap.size, 0, none⟩, [⟨⟨#[115, 101, 99, 116, 105, 111, 110]⟩, 4, none, 0, 0, true, leaf 0 0 ⟨#[]⟩⟩, ⟨⟨#[111, 102, 102, 115, 101, 116]⟩, 5, none, 0, 0, true, leaf 0 0 ⟨#[]⟩⟩], rfl, ⟨rfl, fun _ => ⟨_, rfl, by omega, by simp, ?_⟩, ?_⟩, ?_⟩
  · exact FRow.flat (World.alloc_heap_new _ _) rfl
  · intro i h h'
    have h3 : i < 2 := h
    obtain rfl | rfl : i = 0 ∨ i = 1 := by omega
    · exact ⟨rfl, rfl, rfl, rfl, rfl, rfl, fun h => absurd h (Nat.lt_irrefl 0)⟩
    · exact ⟨rfl, rfl, rfl, rfl, rfl, rfl, fun h => absurd h (Nat.lt_irrefl 0)⟩
  · exact bel1 (Below.refl _ _) (Nat.le_refl _) _
def fs_transactionalFields : List FS := [⟨⟨#[116, 120, 110]⟩, 18, [], true, 0, 0, ⟨#[]⟩⟩, ⟨⟨#[111, 117, 116, 99, 111, 109, 101]⟩, 102, [36, 37, 38, 39], false, 0, 0, ⟨#[]⟩⟩]
set_option maxRecDepth 100000 in
set_option maxHeartbeats 8000000 in
theorem transactionalFields_row (w : World) : Calls Tryz.prog 65 #[] w (FieldsRow fs_transactionalFields w) := by
  have HC_outcomes := hide (fun W => outcomes_any W)
  go_enter Tryz.func65, Tryz.ntmps65
  go_wp2_with fail
  refine (HC_outcomes.out _).mono ?_
  rintro e1 w1 ⟨rfl, rfl⟩
  go_wp2
  go_ret
  refine ⟨some ⟨w.heap.size + 1, 0, none⟩, [⟨⟨#[116, 120, 110]⟩, 18, none, 0, 0, true, leaf 0 0 ⟨#[]⟩⟩, ⟨⟨#[111, 117, 116, 99, 111, 109, 101]⟩, 102, some ⟨w.heap.size, 0, none⟩, 4, 4, false, leaf 0 0 ⟨#[]⟩⟩], rfl, ⟨rfl, fun _ => ⟨_, rfl, by omega, by simp, ?_⟩, ?_⟩, ?_⟩
  · exact FRow.flat (heap_at1 _ _ _) rfl
  · intro i h h'
    have h3 : i < 2 := h
    obtain rfl | rfl : i = 0 ∨ i = 1 := by omega
    · exact ⟨rfl, rfl, rfl, rfl, rfl, rfl, fun h => absurd h (Nat.lt_irrefl 0)⟩
    · exact ⟨rfl, rfl, rfl, rfl, rfl, rfl, fun _ => ⟨_, rfl, by omega, (by first | (simp; done) | (simp; omega)), heap_past (World.alloc_heap_new _ _) _⟩⟩
  · exact bel2 (Below.refl _ _) (Nat.le_refl _) _ _
def fs_challengeFields : List FS := [⟨⟨#[99, 104, 97, 108, 108, 101, 110, 103, 101]⟩, 18, [], true, 0, 0, ⟨#[]⟩⟩]
set_option maxRecDepth 100000 in
set_option maxHeartbeats 8000000 in
theorem challengeFields_row (w : World) : Calls Tryz.prog 68 #[] w (FieldsRow fs_challengeFields w) := by
  go_enter Tryz.func68, Tryz.ntmps68
  go_wp2
  go_ret
  refine ⟨some ⟨w.heap.size, 0, none⟩, [⟨⟨#[99, 104, 97, 108, 108, 101, 110, 103, 101]⟩, 18, none, 0, 0, true, leaf 0 0 ⟨#[]⟩⟩], rfl, ⟨rfl, fun _ => ⟨_, rfl, by omega, by simp, ?_⟩, ?_⟩, ?_⟩
  · exact FRow.flat (World.alloc_heap_new _ _) rfl
  · intro i h h'
    have h3 : i < 1 := h
    obtain rfl : i = 0 := by omega
    · exact ⟨rfl, rfl, rfl, rfl, rfl, rfl, fun h => absurd h (Nat.lt_irrefl 0)⟩
  · exact bel1 (Below.refl _ _) (Nat.le_refl _) _
def fs_headerFields : List FS := [⟨⟨#[100, 117, 114, 97, 98, 108, 101]⟩, 1, [], false, 1, 0, ⟨#[]⟩⟩, ⟨⟨#[112, 114, 105, 111, 114, 105, 116, 121]⟩, 2, [], false, 2, 4, ⟨#[]⟩⟩, ⟨⟨#[116, 116, 108]⟩, 4, [], false, 0, 0, ⟨#[]⟩⟩, ⟨⟨#[102, 105, 114, 115, 116]⟩, 1, [], false, 1, 0, ⟨#[]⟩⟩, ⟨⟨#[99, 111, 117, 110, 116]⟩, 4, [], false, 4, 0, ⟨#[]⟩⟩]
set_option maxRecDepth 100000 in
set_option maxHeartbeats 8000000 in
theorem headerFields_row (w : World) : Calls Tryz.prog 71 #[] w (FieldsRow fs_headerFields w) := by
  go_enter Tryz.func71, Tryz.ntmps71
  go_wp2
  go_ret
  refine ⟨some ⟨w.heap.size, 0, none⟩, [⟨⟨#[100, 117, 114, 97, 98, 108, 101]⟩, 1, none, 0, 0, false, leaf 1 0 ⟨#[]⟩⟩, ⟨⟨#[112, 114, 105, 111, 114, 105, 116, 121]⟩, 2, none, 0, 0, false, leaf 2 4 ⟨#[]⟩⟩, ⟨⟨#[116, 116, 108]⟩, 4, none, 0, 0, false, leaf 0 0 ⟨#[]⟩⟩, ⟨⟨#[102, 105, 114, 115, 116]⟩, 1, none, 0, 0, false, leaf 1 0 ⟨#[]⟩⟩, ⟨⟨#[99, 111, 117, 110, 116]⟩, 4, none, 0, 0, false, leaf 4 0 ⟨#[]⟩⟩], rfl, ⟨rfl, fun _ => ⟨_, rfl, by omega, by simp, ?_⟩, ?_⟩, ?_⟩
  · exact FRow.flat (World.alloc_heap_new _ _) rfl
  · intro i h h'
    have h3 : i < 5 := h
    obtain rfl | rfl | rfl | rfl | rfl : i = 0 ∨ i = 1 ∨ i = 2 ∨ i = 3 ∨ i = 4 := by omega
    · exact ⟨rfl, rfl, rfl, rfl, rfl, rfl, fun h => absurd h (Nat.lt_irrefl 0)⟩
    · exact ⟨rfl, rfl, rfl, rfl, rfl, rfl, fun h => absurd h (Nat.lt_irrefl 0)⟩
    · exact ⟨rfl, rfl, rfl, rfl, rfl, rfl, fun h => absurd h (Nat.lt_irrefl 0)⟩
    · exact ⟨rfl, rfl, rfl, rfl, rfl, rfl, fun h => absurd h (Nat.lt_irrefl 0)⟩
    · exact ⟨rfl, rfl, rfl, rfl, rfl, rfl, fun h => absurd h (Nat.lt_irrefl 0)⟩
  · exact bel1 (Below.refl _ _) (Nat.le_refl _) _
end Go.Proofs.YtgldcchleoklcaaGreatDoor
