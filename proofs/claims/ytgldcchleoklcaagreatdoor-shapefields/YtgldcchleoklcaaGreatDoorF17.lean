/- HGTc -/
import Derived.Test.YtgldcchleoklcaaGreatDoorF14
namespace Go.Proofs.YtgldcchleoklcaaGreatDoor
open Go.RowKit
set_option linter.unusedVariables false
set_option linter.unusedSimpArgs false
def fs_openFields : List FS := [⟨⟨#[105, 100]⟩, 19, [], true, 0, 0, ⟨#[]⟩⟩, ⟨⟨#[104, 111, 115, 116]⟩, 19, [], false, 0, 0, ⟨#[]⟩⟩, ⟨⟨#[109, 97, 120, 45, 102, 114, 97, 109, 101]⟩, 4, [], false, 4, 4294967295, ⟨#[]⟩⟩, ⟨⟨#[99, 104, 97, 110, 110, 101, 108, 45, 109, 97, 120]⟩, 3, [], false, 3, 65535, ⟨#[]⟩⟩, ⟨⟨#[105, 100, 108, 101]⟩, 4, [], false, 0, 0, ⟨#[]⟩⟩, ⟨⟨#[112, 114, 111, 112, 115]⟩, 22, [], false, 0, 0, ⟨#[]⟩⟩]
set_option maxRecDepth 100000 in
set_option maxHeartbeats 8000000 in
theorem openFields_row (w : World) : Calls Tryz.prog 48 #[] w (FieldsRow fs_openFields w) := by
  go_enter Tryz.func48, Tryz.ntmps48
  go_wp2
  go_ret
  refine ⟨some ⟨w.heap.size, 0, none⟩, [⟨⟨#[105, 100]⟩, 19, none, 0, 0, true, leaf 0 0 ⟨#[]⟩⟩, ⟨⟨#[104, 111, 115, 116]⟩, 19, none, 0, 0, false, leaf 0 0 ⟨#[]⟩⟩, ⟨⟨#[109, 97, 120, 45, 102, 114, 97, 109, 101]⟩, 4, none, 0, 0, false, leaf 4 4294967295 ⟨#[]⟩⟩, ⟨⟨#[99, 104, 97, 110, 110, 101, 108, 45, 109, 97, 120]⟩, 3, none, 0, 0, false, leaf 3 65535 ⟨#[]⟩⟩, ⟨⟨#[105, 100, 108, 101]⟩, 4, none, 0, 0, false, leaf 0 0 ⟨#[]⟩⟩, ⟨⟨#[112, 114, 111, 112, 115]⟩, 22, none, 0, 0, false, leaf 0 0 ⟨#[]⟩⟩], rfl, ⟨rfl, fun _ => ⟨_, rfl, by omega, by simp, ?_⟩, ?_⟩, ?_⟩
  · exact FRow.flat (World.alloc_heap_new _ _) rfl
  · intro i h h'
    have h3 : i < 6 := h
    obtain rfl | rfl | rfl | rfl | rfl | rfl : i = 0 ∨ i = 1 ∨ i = 2 ∨ i = 3 ∨ i = 4 ∨ i = 5 := by omega
    · exact ⟨rfl, rfl, rfl, rfl, rfl, rfl, fun h => absurd h (Nat.lt_irrefl 0)⟩
    · exact ⟨rfl, rfl, rfl, rfl, rfl, rfl, fun h => absurd h (Nat.lt_irrefl 0)⟩
    · exact ⟨rfl, rfl, rfl, rfl, rfl, rfl, fun h => absurd h (Nat.lt_irrefl 0)⟩
    · exact ⟨rfl, rfl, rfl, rfl, rfl, rfl, fun h => absurd h (Nat.lt_irrefl 0)⟩
    · exact ⟨rfl, rfl, rfl, rfl, rfl, rfl, fun h => absurd h (Nat.lt_irrefl 0)⟩
    · exact ⟨rfl, rfl, rfl, rfl, rfl, rfl, fun h => absurd h (Nat.lt_irrefl 0)⟩
  · exact bel1 (Below.refl _ _) (Nat.le_refl _) _
def fs_flowFields : List FS := [⟨⟨#[110, 101, 120, 116, 45, 105, 110]⟩, 4, [], false, 0, 0, ⟨#[]⟩⟩, ⟨⟨#[105, 110, 45, 119, 105, 110, 100, 111, 119]⟩, 4, [], true, 0, 0, ⟨#[]⟩⟩, ⟨⟨#[110, 101, 120, 116, 45, 111, 117, 116]⟩, 4, [], true, 0, 0, ⟨#[]⟩⟩, ⟨⟨#[111, 117, 116, 45, 119, 105, 110, 100, 111, 119]⟩, 4, [], true, 0, 0, ⟨#[]⟩⟩, ⟨⟨#[104, 97, 110, 100, 108, 101]⟩, 4, [], false, 0, 0, ⟨#[]⟩⟩, ⟨⟨#[99, 111, 117, 110, 116]⟩, 4, [], false, 0, 0, ⟨#[]⟩⟩, ⟨⟨#[99, 114, 101, 100, 105, 116]⟩, 4, [], false, 0, 0, ⟨#[]⟩⟩, ⟨⟨#[97, 118, 97, 105, 108, 97, 98, 108, 101]⟩, 4, [], false, 0, 0, ⟨#[]⟩⟩, ⟨⟨#[100, 114, 97, 105, 110]⟩, 1, [], false, 1, 0, ⟨#[]⟩⟩, ⟨⟨#[101, 99, 104, 111]⟩, 1, [], false, 1, 0, ⟨#[]⟩⟩, ⟨⟨#[112, 114, 111, 112, 115]⟩, 22, [], false, 0, 0, ⟨#[]⟩⟩]
set_option maxRecDepth 100000 in
set_option maxHeartbeats 8000000 in
theorem flowFields_row (w : World) : Calls Tryz.prog 51 #[] w (FieldsRow fs_flowFields w) := by
  go_enter Tryz.func51, Tryz.ntmps51
  go_wp2
  go_ret
  refine ⟨some ⟨w.heap.size, 0, none⟩, [⟨⟨#[110, 101, 120, 116, 45, 105, 110]⟩, 4, none, 0, 0, false, leaf 0 0 ⟨#[]⟩⟩, ⟨⟨#[105, 110, 45, 119, 105, 110, 100, 111, 119]⟩, 4, none, 0, 0, true, leaf 0 0 ⟨#[]⟩⟩, ⟨⟨#[110, 101, 120, 116, 45, 111, 117, 116]⟩, 4, none, 0, 0, true, leaf 0 0 ⟨#[]⟩⟩, ⟨⟨#[111, 117, 116, 45, 119, 105, 110, 100, 111, 119]⟩, 4, none, 0, 0, true, leaf 0 0 ⟨#[]⟩⟩, ⟨⟨#[104, 97, 110, 100, 108, 101]⟩, 4, none, 0, 0, false, leaf 0 0 ⟨#[]⟩⟩, ⟨⟨#[99, 111, 117, 110, 116]⟩, 4, none, 0, 0, false, leaf 0 0 ⟨#[]⟩⟩, ⟨⟨#[99, 114, 101, 100, 105, 116]⟩, 4, none, 0, 0, false, leaf 0 0 ⟨#[]⟩⟩, ⟨⟨#[97, 118, 97, 105, 108, 97, 98, 108, 101]⟩, 4, none, 0, 0, false, leaf 0 0 ⟨#[]⟩⟩, ⟨⟨#[100, 114, 97, 105, 110]⟩, 1, none, 0, 0, false, leaf 1 0 ⟨#[]⟩⟩, ⟨⟨#[101, 99, 104, 111]⟩, 1, none, 0, 0, false, leaf 1 0 ⟨#[]⟩⟩, ⟨⟨#[112, 114, 111, 112, 115]⟩, 22, none, 0, 0, false, leaf 0 0 ⟨#[]⟩⟩], rfl, ⟨rfl, fun _ => ⟨_, rfl, by omega, by simp, ?_⟩, ?_⟩, ?_⟩
  · exact FRow.flat (World.alloc_heap_new _ _) rfl
  · intro i h h'
    have h3 : i < 11 := h
    obtain rfl | rfl | rfl | rfl | rfl | rfl | rfl | rfl | rfl | rfl | rfl : i = 0 ∨ i = 1 ∨ i = 2 ∨ i = 3 ∨ i = 4 ∨ i = 5 ∨ i = 6 ∨ i = 7 ∨ i = 8 ∨ i = 9 ∨ i = 10 := by omega
    · exact ⟨rfl, rfl, rfl, rfl, rfl, rfl, fun h => absurd h (Nat.lt_irrefl 0)⟩
    · exact ⟨rfl, rfl, rfl, rfl, rfl, rfl, fun h => absurd h (Nat.lt_irrefl 0)⟩
    · exact ⟨rfl, rfl, rfl, rfl, rfl, rfl, fun h => absurd h (Nat.lt_irrefl 0)⟩
    · exact ⟨rfl, rfl, rfl, rfl, rfl, rfl, fun h => absurd h (Nat.lt_irrefl 0)⟩
    · exact ⟨rfl, rfl, rfl, rfl, rfl, rfl, fun h => absurd h (Nat.lt_irrefl 0)⟩
    · exact ⟨rfl, rfl, rfl, rfl, rfl, rfl, fun h => absurd h (Nat.lt_irrefl 0)⟩
    · exact ⟨rfl, rfl, rfl, rfl, rfl, rfl, fun h => absurd h (Nat.lt_irrefl 0)⟩
    · exact ⟨rfl, rfl, rfl, rfl, rfl, rfl, fun h => absurd h (Nat.lt_irrefl 0)⟩
    · exact ⟨rfl, rfl, rfl, rfl, rfl, rfl, fun h => absurd h (Nat.lt_irrefl 0)⟩
    · exact ⟨rfl, rfl, rfl, rfl, rfl, rfl, fun h => absurd h (Nat.lt_irrefl 0)⟩
    · exact ⟨rfl, rfl, rfl, rfl, rfl, rfl, fun h => absurd h (Nat.lt_irrefl 0)⟩
  · exact bel1 (Below.refl _ _) (Nat.le_refl _) _
def fs_modifiedFields : List FS := [⟨⟨#[102, 97, 105, 108, 101, 100]⟩, 1, [], false, 0, 0, ⟨#[]⟩⟩, ⟨⟨#[101, 108, 115, 101, 119, 104, 101, 114, 101]⟩, 1, [], false, 0, 0, ⟨#[]⟩⟩, ⟨⟨#[97, 110, 110]⟩, 22, [], false, 0, 0, ⟨#[]⟩⟩]
set_option maxRecDepth 100000 in
set_option maxHeartbeats 8000000 in
theorem modifiedFields_row (w : World) : Calls Tryz.prog 59 #[] w (FieldsRow fs_modifiedFields w) := by
  go_enter Tryz.func59, Tryz.ntmps59
  go_wp2
  go_ret
  refine ⟨some ⟨w.heap.size, 0, none⟩, [⟨⟨#[102, 97, 105, 108, 101, 100]⟩, 1, none, 0, 0, false, leaf 0 0 ⟨#[]⟩⟩, ⟨⟨#[101, 108, 115, 101, 119, 104, 101, 114, 101]⟩, 1, none, 0, 0, false, leaf 0 0 ⟨#[]⟩⟩, ⟨⟨#[97, 110, 110]⟩, 22, none, 0, 0, false, leaf 0 0 ⟨#[]⟩⟩], rfl, ⟨rfl, fun _ => ⟨_, rfl, by omega, by simp, ?_⟩, ?_⟩, ?_⟩
  · exact FRow.flat (World.alloc_heap_new _ _) rfl
  · intro i h h'
    have h3 : i < 3 := h
    obtain rfl | rfl | rfl : i = 0 ∨ i = 1 ∨ i = 2 := by omega
    · exact ⟨rfl, rfl, rfl, rfl, rfl, rfl, fun h => absurd h (Nat.lt_irrefl 0)⟩
    · exact ⟨rfl, rfl, rfl, rfl, rfl, rfl, fun h => absurd h (Nat.lt_irrefl 0)⟩
    · exact ⟨rfl, rfl, rfl, rfl, rfl, rfl, fun h => absurd h (Nat.lt_irrefl 0)⟩
  · exact bel1 (Below.refl _ _) (Nat.le_refl _) _
def fs_targetFields : List FS := [⟨⟨#[97, 100, 100, 114, 101, 115, 115]⟩, 19, [], false, 0, 0, ⟨#[]⟩⟩, ⟨⟨#[100, 117, 114, 97, 98, 108, 101]⟩, 4, [], false, 4, 0, ⟨#[]⟩⟩, ⟨⟨#[101, 120, 112, 105, 114, 121]⟩, 20, [], false, 20, 0, ⟨#[115, 101, 115, 115, 105, 111, 110, 45, 101, 110, 100]⟩⟩, ⟨⟨#[116, 105, 109, 101, 111, 117, 116]⟩, 4, [], false, 4, 0, ⟨#[]⟩⟩, ⟨⟨#[100, 121, 110, 97, 109, 105, 99]⟩, 1, [], false, 1, 0, ⟨#[]⟩⟩, ⟨⟨#[99, 97, 112, 115]⟩, 101, [], false, 0, 0, ⟨#[]⟩⟩]
set_option maxRecDepth 100000 in
set_option maxHeartbeats 8000000 in
theorem targetFields_row (w : World) : Calls Tryz.prog 61 #[] w (FieldsRow fs_targetFields w) := by
  go_enter Tryz.func61, Tryz.ntmps61
  go_wp2
  go_ret
  refine ⟨some ⟨w.heap.size, 0, none⟩, [⟨⟨#[97, 100, 100, 114, 101, 115, 115]⟩, 19, none, 0, 0, false, leaf 0 0 ⟨#[]⟩⟩, ⟨⟨#[100, 117, 114, 97, 98, 108, 101]⟩, 4, none, 0, 0, false, leaf 4 0 ⟨#[]⟩⟩, ⟨⟨#[101, 120, 112, 105, 114, 121]⟩, 20, none, 0, 0, false, leaf 20 0 ⟨#[115, 101, 115, 115, 105, 111, 110, 45, 101, 110, 100]⟩⟩, ⟨⟨#[116, 105, 109, 101, 111, 117, 116]⟩, 4, none, 0, 0, false, leaf 4 0 ⟨#[]⟩⟩, ⟨⟨#[100, 121, 110, 97, 109, 105, 99]⟩, 1, none, 0, 0, false, leaf 1 0 ⟨#[]⟩⟩, ⟨⟨#[99, 97, 112, 115]⟩, 101, none, 0, 0, false, leaf 0 0 ⟨#[]⟩⟩], rfl, ⟨rfl, fun _ => ⟨_, rfl, by omega, by simp, ?_⟩, ?_⟩, ?_⟩
  · exact FRow.flat (World.alloc_heap_new _ _) rfl
  · intro i h h'
    have h3 : i < 6 := h
    obtain rfl | rfl | rfl | rfl | rfl | rfl : i = 0 ∨ i = 1 ∨ i = 2 ∨ i = 3 ∨ i = 4 ∨ i = 5 := by omega
    · exact ⟨rfl, rfl, rfl, rfl, rfl, rfl, fun h => absurd h (Nat.lt_irrefl 0)⟩
    · exact ⟨rfl, rfl, rfl, rfl, rfl, rfl, fun h => absurd h (Nat.lt_irrefl 0)⟩
    · exact ⟨rfl, rfl, rfl, rfl, rfl, rfl, fun h => absurd h (Nat.lt_irrefl 0)⟩
    · exact ⟨rfl, rfl, rfl, rfl, rfl, rfl, fun h => absurd h (Nat.lt_irrefl 0)⟩
    · exact ⟨rfl, rfl, rfl, rfl, rfl, rfl, fun h => absurd h (Nat.lt_irrefl 0)⟩
    · exact ⟨rfl, rfl, rfl, rfl, rfl, rfl, fun h => absurd h (Nat.lt_irrefl 0)⟩
  · exact bel1 (Below.refl _ _) (Nat.le_refl _) _
def fs_responseFields : List FS := [⟨⟨#[114, 101, 115, 112, 111, 110, 115, 101]⟩, 18, [], true, 0, 0, ⟨#[]⟩⟩]
set_option maxRecDepth 100000 in
set_option maxHeartbeats 8000000 in
theorem responseFields_row (w : World) : Calls Tryz.prog 69 #[] w (FieldsRow fs_responseFields w) := by
  go_enter Tryz.func69, Tryz.ntmps69
  go_wp2
  go_ret
  refine ⟨some ⟨w.heap.size, 0, none⟩, [⟨⟨#[114, 101, 115, 112, 111, 110, 115, 101]⟩, 18, none, 0, 0, true, leaf 0 0 ⟨#[]⟩⟩], rfl, ⟨rfl, fun _ => ⟨_, rfl, by omega, by simp, ?_⟩, ?_⟩, ?_⟩
  · exact FRow.flat (World.alloc_heap_new _ _) rfl
  · intro i h h'
    have h3 : i < 1 := h
    obtain rfl : i = 0 := by omega
    · exact ⟨rfl, rfl, rfl, rfl, rfl, rfl, fun h => absurd h (Nat.lt_irrefl 0)⟩
  · exact bel1 (Below.refl _ _) (Nat.le_refl _) _
def fs_outcomeFields : List FS := [⟨⟨#[99, 111, 100, 101]⟩, 2, [], true, 0, 0, ⟨#[]⟩⟩, ⟨⟨#[100, 97, 116, 97]⟩, 18, [], false, 0, 0, ⟨#[]⟩⟩]
set_option maxRecDepth 100000 in
set_option maxHeartbeats 8000000 in
theorem outcomeFields_row (w : World) : Calls Tryz.prog 70 #[] w (FieldsRow fs_outcomeFields w) := by
  go_enter Tryz.func70, Tryz.ntmps70
  go_wp2
  go_ret
  refine ⟨some ⟨w.heap.size, 0, none⟩, [⟨⟨#[99, 111, 100, 101]⟩, 2, none, 0, 0, true, leaf 0 0 ⟨#[]⟩⟩, ⟨⟨#[100, 97, 116, 97]⟩, 18, none, 0, 0, false, leaf 0 0 ⟨#[]⟩⟩], rfl, ⟨rfl, fun _ => ⟨_, rfl, by omega, by simp, ?_⟩, ?_⟩, ?_⟩
  · exact FRow.flat (World.alloc_heap_new _ _) rfl
  · intro i h h'
    have h3 : i < 2 := h
    obtain rfl | rfl : i = 0 ∨ i = 1 := by omega
    · exact ⟨rfl, rfl, rfl, rfl, rfl, rfl, fun h => absurd h (Nat.lt_irrefl 0)⟩
    · exact ⟨rfl, rfl, rfl, rfl, rfl, rfl, fun h => absurd h (Nat.lt_irrefl 0)⟩
  · exact bel1 (Below.refl _ _) (Nat.le_refl _) _
end Go.Proofs.YtgldcchleoklcaaGreatDoor
