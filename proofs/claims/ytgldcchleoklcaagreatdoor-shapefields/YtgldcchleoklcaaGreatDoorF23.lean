/- HSTd, HSFields -/
import Derived.Test.YtgldcchleoklcaaGreatDoorF20
import Derived.Test.YtgldcchleoklcaaGreatDoorF21
import Derived.Test.YtgldcchleoklcaaGreatDoorF22
namespace Go.Proofs.YtgldcchleoklcaaGreatDoor
open Go.RowKit
set_option linter.unusedVariables false
set_option linter.unusedSimpArgs false
set_option maxRecDepth 100000 in
set_option maxHeartbeats 8000000 in
theorem transferFields_rowS (w : World) : Calls Tryz.prog 52 #[] w (FieldsRowS fs_transferFields w) := by
  have HC_states := hide (fun W => states_any W)
  go_enter Tryz.func52, Tryz.ntmps52
  go_wp2_with fail
  refine (HC_states.out _).mono ?_
  rintro e1 w1 ⟨rfl, rfl⟩
  go_wp2
  go_ret
  refine ⟨some ⟨w.heap.size + 1, 0, none⟩, [⟨⟨#[104, 97, 110, 100, 108, 101]⟩, 4, none, 0, 0, true, leaf 0 0 ⟨#[]⟩⟩, ⟨⟨#[105, 100]⟩, 4, none, 0, 0, false, leaf 0 0 ⟨#[]⟩⟩, ⟨⟨#[116, 97, 103]⟩, 18, none, 0, 0, false, leaf 0 0 ⟨#[]⟩⟩, ⟨⟨#[102, 111, 114, 109, 97, 116]⟩, 4, none, 0, 0, false, leaf 0 0 ⟨#[]⟩⟩, ⟨⟨#[115, 101, 116, 116, 108, 101, 100]⟩, 1, none, 0, 0, false, leaf 0 0 ⟨#[]⟩⟩, ⟨⟨#[109, 111, 114, 101]⟩, 1, none, 0, 0, false, leaf 1 0 ⟨#[]⟩⟩, ⟨⟨#[115, 116, 97, 116, 101]⟩, 102, some ⟨w.heap.size, 0, none⟩, 7, 7, false, leaf 0 0 ⟨#[]⟩⟩, ⟨⟨#[114, 101, 115, 117, 109, 101]⟩, 1, none, 0, 0, false, leaf 1 0 ⟨#[]⟩⟩, ⟨⟨#[97, 98, 111, 114, 116, 101, 100]⟩, 1, none, 0, 0, false, leaf 1 0 ⟨#[]⟩⟩, ⟨⟨#[98, 97, 116, 99, 104, 97, 98, 108, 101]⟩, 1, none, 0, 0, false, leaf 1 0 ⟨#[]⟩⟩], rfl, ⟨⟨rfl, fun _ => ⟨_, rfl, by omega, by simp, ?_⟩, ?_⟩, fun h => absurd h (by decide), fun g h => ?_, ?_⟩, ?_⟩
  · exact FRow.flat (heap_at1 _ _ _) rfl
  · intro i h h'
    have h3 : i < 10 := h
    obtain rfl | rfl | rfl | rfl | rfl | rfl | rfl | rfl | rfl | rfl : i = 0 ∨ i = 1 ∨ i = 2 ∨ i = 3 ∨ i = 4 ∨ i = 5 ∨ i = 6 ∨ i = 7 ∨ i = 8 ∨ i = 9 := by omega
    · exact ⟨rfl, rfl, rfl, rfl, rfl, rfl, fun h => absurd h (Nat.lt_irrefl 0)⟩
    · exact ⟨rfl, rfl, rfl, rfl, rfl, rfl, fun h => absurd h (Nat.lt_irrefl 0)⟩
    · exact ⟨rfl, rfl, rfl, rfl, rfl, rfl, fun h => absurd h (Nat.lt_irrefl 0)⟩
    · exact ⟨rfl, rfl, rfl, rfl, rfl, rfl, fun h => absurd h (Nat.lt_irrefl 0)⟩
    · exact ⟨rfl, rfl, rfl, rfl, rfl, rfl, fun h => absurd h (Nat.lt_irrefl 0)⟩
    · exact ⟨rfl, rfl, rfl, rfl, rfl, rfl, fun h => absurd h (Nat.lt_irrefl 0)⟩
    · exact ⟨rfl, rfl, rfl, rfl, rfl, rfl, fun _ => ⟨_, rfl, by omega, (by first | (simp; done) | (simp; omega)), heap_past (World.alloc_heap_new _ _) _⟩⟩
    · exact ⟨rfl, rfl, rfl, rfl, rfl, rfl, fun h => absurd h (Nat.lt_irrefl 0)⟩
    · exact ⟨rfl, rfl, rfl, rfl, rfl, rfl, fun h => absurd h (Nat.lt_irrefl 0)⟩
    · exact ⟨rfl, rfl, rfl, rfl, rfl, rfl, fun h => absurd h (Nat.lt_irrefl 0)⟩
  · cases h
    exact ⟨_, heap_at1 _ _ _, rfl⟩
  · intro i h h' hz
    have h3 : i < 10 := h
    obtain rfl | rfl | rfl | rfl | rfl | rfl | rfl | rfl | rfl | rfl : i = 0 ∨ i = 1 ∨ i = 2 ∨ i = 3 ∨ i = 4 ∨ i = 5 ∨ i = 6 ∨ i = 7 ∨ i = 8 ∨ i = 9 := by omega
    · rfl
    · rfl
    · rfl
    · rfl
    · rfl
    · rfl
    · exact absurd (show (7 : Nat) = 0 from hz) (by decide)
    · rfl
    · rfl
    · rfl
  · exact bel2 (Below.refl _ _) (Nat.le_refl _) _ _
set_option maxRecDepth 100000 in
set_option maxHeartbeats 8000000 in
theorem onlyFault_rowS (w : World) : Calls Tryz.prog 55 #[] w (FieldsRowS fs_onlyFault w) := by
  go_enter Tryz.func55, Tryz.ntmps55
  go_wp2
  go_ret
  refine ⟨some ⟨w.heap.size + 1, 0, none⟩, [⟨⟨#[102, 97, 117, 108, 116]⟩, 102, some ⟨w.heap.size, 0, none⟩, 1, 1, false, leaf 0 0 ⟨#[]⟩⟩], rfl, ⟨⟨rfl, fun _ => ⟨_, rfl, by omega, by simp, ?_⟩, ?_⟩, fun h => absurd h (by decide), fun g h => ?_, ?_⟩, ?_⟩
  · exact FRow.flat (heap_at1 _ _ _) rfl
  · intro i h h'
    have h3 : i < 1 := h
    obtain rfl : i = 0 := by omega
    · exact ⟨rfl, rfl, rfl, rfl, rfl, rfl, fun _ => ⟨_, rfl, by omega, (by first | (simp; done) | (simp; omega)), heap_past (World.alloc_heap_new _ _) _⟩⟩
  · cases h
    exact ⟨_, heap_at1 _ _ _, rfl⟩
  · intro i h h' hz
    have h3 : i < 1 := h
    obtain rfl : i = 0 := by omega
    · exact absurd (show (1 : Nat) = 0 from hz) (by decide)
  · exact bel2 (Below.refl _ _) (Nat.le_refl _) _ _
set_option maxRecDepth 100000 in
set_option maxHeartbeats 8000000 in
theorem faultFields_rowS (w : World) : Calls Tryz.prog 56 #[] w (FieldsRowS fs_faultFields w) := by
  go_enter Tryz.func56, Tryz.ntmps56
  go_wp2
  go_ret
  refine ⟨some ⟨w.heap.size, 0, none⟩, [⟨⟨#[99, 111, 110, 100]⟩, 20, none, 0, 0, true, leaf 0 0 ⟨#[]⟩⟩, ⟨⟨#[116, 101, 120, 116]⟩, 19, none, 0, 0, false, leaf 0 0 ⟨#[]⟩⟩, ⟨⟨#[105, 110, 102, 111]⟩, 22, none, 0, 0, false, leaf 0 0 ⟨#[]⟩⟩], rfl, ⟨⟨rfl, fun _ => ⟨_, rfl, by omega, by simp, ?_⟩, ?_⟩, fun h => absurd h (by decide), fun g h => ?_, ?_⟩, ?_⟩
  · exact FRow.flat (World.alloc_heap_new _ _) rfl
  · intro i h h'
    have h3 : i < 3 := h
    obtain rfl | rfl | rfl : i = 0 ∨ i = 1 ∨ i = 2 := by omega
    · exact ⟨rfl, rfl, rfl, rfl, rfl, rfl, fun h => absurd h (Nat.lt_irrefl 0)⟩
    · exact ⟨rfl, rfl, rfl, rfl, rfl, rfl, fun h => absurd h (Nat.lt_irrefl 0)⟩
    · exact ⟨rfl, rfl, rfl, rfl, rfl, rfl, fun h => absurd h (Nat.lt_irrefl 0)⟩
  · cases h
    exact ⟨_, World.alloc_heap_new _ _, rfl⟩
  · intro i h h' hz
    have h3 : i < 3 := h
    obtain rfl | rfl | rfl : i = 0 ∨ i = 1 ∨ i = 2 := by omega
    · rfl
    · rfl
    · rfl
  · exact bel1 (Below.refl _ _) (Nat.le_refl _) _
set_option maxRecDepth 100000 in
set_option maxHeartbeats 8000000 in
theorem sourceFields_rowS (w : World) : Calls Tryz.prog 60 #[] w (FieldsRowS fs_sourceFields w) := by
  have HC_outcomes := hide (fun W => outcomes_any W)
  go_enter Tryz.func60, Tryz.ntmps60
  go_wp2_with fail
  refine (HC_outcomes.out _).mono ?_
  rintro e1 w1 ⟨rfl, rfl⟩
  go_wp2
  go_ret
  refine ⟨some ⟨w.heap.size + 1, 0, none⟩, [⟨⟨#[97, 100, 100, 114, 101, 115, 115]⟩, 19, none, 0, 0, false, leaf 0 0 ⟨#[]⟩⟩, ⟨⟨#[100, 117, 114, 97, 98, 108, 101]⟩, 4, none, 0, 0, false, leaf 4 0 ⟨#[]⟩⟩, ⟨⟨#[101, 120, 112, 105, 114, 121]⟩, 20, none, 0, 0, false, leaf 20 0 ⟨#[115, 101, 115, 115, 105, 111, 110, 45, 101, 110, 100]⟩⟩, ⟨⟨#[116, 105, 109, 101, 111, 117, 116]⟩, 4, none, 0, 0, false, leaf 4 0 ⟨#[]⟩⟩, ⟨⟨#[100, 121, 110, 97, 109, 105, 99]⟩, 1, none, 0, 0, false, leaf 1 0 ⟨#[]⟩⟩, ⟨⟨#[109, 111, 100, 101]⟩, 20, none, 0, 0, false, leaf 0 0 ⟨#[]⟩⟩, ⟨⟨#[102, 105, 108, 116, 101, 114]⟩, 19, none, 0, 0, false, leaf 0 0 ⟨#[]⟩⟩, ⟨⟨#[100, 101, 102, 97, 117, 108, 116]⟩, 102, some ⟨w.heap.size, 0, none⟩, 4, 4, false, leaf 0 0 ⟨#[]⟩⟩, ⟨⟨#[111, 117, 116, 99, 111, 109, 101, 115]⟩, 101, none, 0, 0, false, leaf 0 0 ⟨#[]⟩⟩, ⟨⟨#[99, 97, 112, 115]⟩, 101, none, 0, 0, false, leaf 0 0 ⟨#[]⟩⟩], rfl, ⟨⟨rfl, fun _ => ⟨_, rfl, by omega, by simp, ?_⟩, ?_⟩, fun h => absurd h (by decide), fun g h => ?_, ?_⟩, ?_⟩
  · exact FRow.flat (heap_at1 _ _ _) rfl
  · intro i h h'
    have h3 : i < 10 := h
    obtain rfl | rfl | rfl | rfl | rfl | rfl | rfl | rfl | rfl | rfl : i = 0 ∨ i = 1 ∨ i = 2 ∨ i = 3 ∨ i = 4 ∨ i = 5 ∨ i = 6 ∨ i = 7 ∨ i = 8 ∨ i = 9 := by omega
    · exact ⟨rfl, rfl, rfl, rfl, rfl, rfl, fun h => absurd h (Nat.lt_irrefl 0)⟩
    · exact ⟨rfl, rfl, rfl, rfl, rfl, rfl, fun h => absurd h (Nat.lt_irrefl 0)⟩
    · exact ⟨rfl, rfl, rfl, rfl, rfl, rfl, fun h => absurd h (Nat.lt_irrefl 0)⟩
    · exact ⟨rfl, rfl, rfl, rfl, rfl, rfl, fun h => absurd h (Nat.lt_irrefl 0)⟩
    · exact ⟨rfl, rfl, rfl, rfl, rfl, rfl, fun h => absurd h (Nat.lt_irrefl 0)⟩
    · exact ⟨rfl, rfl, rfl, rfl, rfl, rfl, fun h => absurd h (Nat.lt_irrefl 0)⟩
    · exact ⟨rfl, rfl, rfl, rfl, rfl, rfl, fun h => absurd h (Nat.lt_irrefl 0)⟩
    · exact ⟨rfl, rfl, rfl, rfl, rfl, rfl, fun _ => ⟨_, rfl, by omega, (by first | (simp; done) | (simp; omega)), heap_past (World.alloc_heap_new _ _) _⟩⟩
    · exact ⟨rfl, rfl, rfl, rfl, rfl, rfl, fun h => absurd h (Nat.lt_irrefl 0)⟩
    · exact ⟨rfl, rfl, rfl, rfl, rfl, rfl, fun h => absurd h (Nat.lt_irrefl 0)⟩
  · cases h
    exact ⟨_, heap_at1 _ _ _, rfl⟩
  · intro i h h' hz
    have h3 : i < 10 := h
    obtain rfl | rfl | rfl | rfl | rfl | rfl | rfl | rfl | rfl | rfl : i = 0 ∨ i = 1 ∨ i = 2 ∨ i = 3 ∨ i = 4 ∨ i = 5 ∨ i = 6 ∨ i = 7 ∨ i = 8 ∨ i = 9 := by omega
    · rfl
    · rfl
    · rfl
    · rfl
    · rfl
    · rfl
    · rfl
    · exact absurd (show (4 : Nat) = 0 from hz) (by decide)
    · rfl
    · rfl
  · exact bel2 (Below.refl _ _) (Nat.le_refl _) _ _
set_option maxRecDepth 100000 in
set_option maxHeartbeats 8000000 in
theorem dischargeFields_rowS (w : World) : Calls Tryz.prog 63 #[] w (FieldsRowS fs_dischargeFields w) := by
  go_enter Tryz.func63, Tryz.ntmps63
  go_wp2
  go_ret
  refine ⟨some ⟨w.heap.size, 0, none⟩, [⟨⟨#[116, 120, 110]⟩, 18, none, 0, 0, true, leaf 0 0 ⟨#[]⟩⟩, ⟨⟨#[102, 97, 105, 108]⟩, 1, none, 0, 0, false, leaf 1 0 ⟨#[]⟩⟩], rfl, ⟨⟨rfl, fun _ => ⟨_, rfl, by omega, by simp, ?_⟩, ?_⟩, fun h => absurd h (by decide), fun g h => ?_, ?_⟩, ?_⟩
  · exact FRow.flat (World.alloc_heap_new _ _) rfl
  · intro i h h'
    have h3 : i < 2 := h
    obtain rfl | rfl : i = 0 ∨ i = 1 := by omega
    · exact ⟨rfl, rfl, rfl, rfl, rfl, rfl, fun h => absurd h (Nat.lt_irrefl 0)⟩
    · exact ⟨rfl, rfl, rfl, rfl, rfl, rfl, fun h => absurd h (Nat.lt_irrefl 0)⟩
  · cases h
    exact ⟨_, World.alloc_heap_new _ _, rfl⟩
  · intro i h h' hz
    have h3 : i < 2 := h
    obtain rfl | rfl : i = 0 ∨ i = 1 := by omega
    · rfl
    · rfl
  · exact bel1 (Below.refl _ _) (Nat.le_refl _) _
set_option maxRecDepth 100000 in
set_option maxHeartbeats 8000000 in
theorem declaredFields_rowS (w : World) : Calls Tryz.prog 64 #[] w (FieldsRowS fs_declaredFields w) := by
  go_enter Tryz.func64, Tryz.ntmps64
  go_wp2
  go_ret
  refine ⟨some ⟨w.heap.size, 0, none⟩, [⟨⟨#[116, 120, 110]⟩, 18, none, 0, 0, true, leaf 0 0 ⟨#[]⟩⟩], rfl, ⟨⟨rfl, fun _ => ⟨_, rfl, by omega, by simp, ?_⟩, ?_⟩, fun h => absurd h (by decide), fun g h => ?_, ?_⟩, ?_⟩
  · exact FRow.flat (World.alloc_heap_new _ _) rfl
  · intro i h h'
    have h3 : i < 1 := h
    obtain rfl : i = 0 := by omega
    · exact ⟨rfl, rfl, rfl, rfl, rfl, rfl, fun h => absurd h (Nat.lt_irrefl 0)⟩
  · cases h
    exact ⟨_, World.alloc_heap_new _ _, rfl⟩
  · intro i h h' hz
    have h3 : i < 1 := h
    obtain rfl : i = 0 := by omega
    · rfl
  · exact bel1 (Below.refl _ _) (Nat.le_refl _) _
set_option maxRecDepth 100000 in
set_option maxHeartbeats 8000000 in
theorem noFields_rowS (w : World) : Calls Tryz.prog 58 #[] w (FieldsRowS fs_noFields w) := by
  go_enter Tryz.func58, Tryz.ntmps58
  go_wp2
  go_ret
  exact ⟨none, [], rfl, ⟨⟨rfl, fun h => absurd h (by simp), fun i h => absurd h (by simp)⟩, fun _ => rfl, fun g h => (by cases h), fun i h => absurd h (by simp)⟩, Below.refl _ _⟩
def RowOkS (i : Nat) : Prop := ∀ (h : i < krows.length), (krows[i].2.2 = .nilFunc ∧ ftab krows[i].1 = none) ∨ (∃ g l, krows[i].2.2 = .func (.func g) #[] #[] ∧ ftab krows[i].1 = some l ∧ (∀ args w, (callFunc g args).run Tryz.prog w = .ok (.enter g args) w) ∧ ∀ W, Calls Tryz.prog g #[] W (FieldsRowS l W))
set_option maxRecDepth 100000 in
theorem row_okS (i : Nat) (hi : i < 36) : RowOkS i := by
  intro h
  match i, hi with
  | 0, _ => exact .inr ⟨_, _, rfl, rfl, enters_of Tryz.func48 (by kernel_rfl) rfl, openFields_rowS⟩
  | 1, _ => exact .inr ⟨_, _, rfl, rfl, enters_of Tryz.func49 (by kernel_rfl) rfl, beginFields_rowS⟩
  | 2, _ => exact .inr ⟨_, _, rfl, rfl, enters_of Tryz.func50 (by kernel_rfl) rfl, attachFields_rowS⟩
  | 3, _ => exact .inr ⟨_, _, rfl, rfl, enters_of Tryz.func51 (by kernel_rfl) rfl, flowFields_rowS⟩
  | 4, _ => exact .inr ⟨_, _, rfl, rfl, enters_of Tryz.func52 (by kernel_rfl) rfl, transferFields_rowS⟩
  | 5, _ => exact .inr ⟨_, _, rfl, rfl, enters_of Tryz.func53 (by kernel_rfl) rfl, dispositionFields_rowS⟩
  | 6, _ => exact .inr ⟨_, _, rfl, rfl, enters_of Tryz.func54 (by kernel_rfl) rfl, detachFields_rowS⟩
  | 7, _ => exact .inr ⟨_, _, rfl, rfl, enters_of Tryz.func55 (by kernel_rfl) rfl, onlyFault_rowS⟩
  | 8, _ => exact .inr ⟨_, _, rfl, rfl, enters_of Tryz.func55 (by kernel_rfl) rfl, onlyFault_rowS⟩
  | 9, _ => exact .inr ⟨_, _, rfl, rfl, enters_of Tryz.func56 (by kernel_rfl) rfl, faultFields_rowS⟩
  | 10, _ => exact .inr ⟨_, _, rfl, rfl, enters_of Tryz.func57 (by kernel_rfl) rfl, receivedFields_rowS⟩
  | 11, _ => exact .inr ⟨_, _, rfl, rfl, enters_of Tryz.func58 (by kernel_rfl) rfl, noFields_rowS⟩
  | 12, _ => exact .inr ⟨_, _, rfl, rfl, enters_of Tryz.func55 (by kernel_rfl) rfl, onlyFault_rowS⟩
  | 13, _ => exact .inr ⟨_, _, rfl, rfl, enters_of Tryz.func58 (by kernel_rfl) rfl, noFields_rowS⟩
  | 14, _ => exact .inr ⟨_, _, rfl, rfl, enters_of Tryz.func59 (by kernel_rfl) rfl, modifiedFields_rowS⟩
  | 15, _ => exact .inr ⟨_, _, rfl, rfl, enters_of Tryz.func60 (by kernel_rfl) rfl, sourceFields_rowS⟩
  | 16, _ => exact .inr ⟨_, _, rfl, rfl, enters_of Tryz.func61 (by kernel_rfl) rfl, targetFields_rowS⟩
  | 17, _ => exact .inr ⟨_, _, rfl, rfl, enters_of Tryz.func62 (by kernel_rfl) rfl, coordinatorFields_rowS⟩
  | 18, _ => exact .inr ⟨_, _, rfl, rfl, enters_of Tryz.func58 (by kernel_rfl) rfl, noFields_rowS⟩
  | 19, _ => exact .inr ⟨_, _, rfl, rfl, enters_of Tryz.func63 (by kernel_rfl) rfl, dischargeFields_rowS⟩
  | 20, _ => exact .inr ⟨_, _, rfl, rfl, enters_of Tryz.func64 (by kernel_rfl) rfl, declaredFields_rowS⟩
  | 21, _ => exact .inr ⟨_, _, rfl, rfl, enters_of Tryz.func65 (by kernel_rfl) rfl, transactionalFields_rowS⟩
  | 22, _ => exact .inr ⟨_, _, rfl, rfl, enters_of Tryz.func66 (by kernel_rfl) rfl, mechanismsFields_rowS⟩
  | 23, _ => exact .inr ⟨_, _, rfl, rfl, enters_of Tryz.func67 (by kernel_rfl) rfl, initFields_rowS⟩
  | 24, _ => exact .inr ⟨_, _, rfl, rfl, enters_of Tryz.func68 (by kernel_rfl) rfl, challengeFields_rowS⟩
  | 25, _ => exact .inr ⟨_, _, rfl, rfl, enters_of Tryz.func69 (by kernel_rfl) rfl, responseFields_rowS⟩
  | 26, _ => exact .inr ⟨_, _, rfl, rfl, enters_of Tryz.func70 (by kernel_rfl) rfl, outcomeFields_rowS⟩
  | 27, _ => exact .inr ⟨_, _, rfl, rfl, enters_of Tryz.func71 (by kernel_rfl) rfl, headerFields_rowS⟩
  | 28, _ => exact .inr ⟨_, _, rfl, rfl, enters_of Tryz.func72 (by kernel_rfl) rfl, propertiesFields_rowS⟩
  | 29, _ => exact .inl ⟨rfl, rfl⟩
  | 30, _ => exact .inl ⟨rfl, rfl⟩
  | 31, _ => exact .inl ⟨rfl, rfl⟩
  | 32, _ => exact .inl ⟨rfl, rfl⟩
  | 33, _ => exact .inl ⟨rfl, rfl⟩
  | 34, _ => exact .inl ⟨rfl, rfl⟩
  | 35, _ => exact .inl ⟨rfl, rfl⟩
  | n + 36, h => omega
theorem FieldsInS.fromS {l : List FS} {W W2 : World} {a : Option Addr} {fs : List Fd} {w' : World} (h : FieldsInS l W2 a fs w') (hs : W.heap.size ≤ W2.heap.size) : FieldsInS l W a fs w' := ⟨h.1.from hs, h.2⟩
def FieldsAllS (o : Option (List FS)) (W : World) (e : Ending) (w' : World) : Prop := Below W.heap.size W w' ∧ match o with
  | none => e = .returned (.tuple #[.slice none 0 0, .bool false])
  | some l => ∃ (a : Option Addr) (fs : List Fd), e = .returned (.tuple #[.slice a l.length l.length, .bool true]) ∧ Hid (FieldsInS l W a fs w')
set_option maxRecDepth 100000 in
set_option maxHeartbeats 2000000 in
theorem fields_anyS (kind : Int) (w : World) : Calls Tryz.prog 8 #[.int .i64 kind] w (FieldsAllS (ftab kind) w) := by
  have HK := hide (kinds_any w)
  go_enter Tryz.func8, Tryz.ntmps8
  go_wp2_with fail
  refine HK.out.mono ?_
  rintro e w1 ⟨rfl, rfl⟩
  obtain ⟨W1, hW1⟩ : ∃ W1, w.alloc (.cells kcells 61) = W1 := ⟨_, rfl⟩
  have hs1 : W1.heap.size = w.heap.size + 1 := by rw [← hW1]; simp
  have hb1 : Below w.heap.size w W1 := by rw [← hW1]; exact bel1 (Below.refl _ _) (Nat.le_refl _) _
  have hk1 : KT W1 w.heap.size := by rw [← hW1]; exact World.alloc_heap_new _ _
  rw [hW1]
  clear hW1
  go_wp2
  go_loopw [8] (fun u wr => ∃ i : Nat, u = .int .i64 i ∧ i ≤ 36 ∧ Below W1.heap.size W1 wr ∧ Hid (∀ j (hj : j < krows.length), j < i → krows[j].1 = kind → krows[j].2.2 = .nilFunc)) (fun u _ => 37 - (intOf u).toNat)
  case atStart => exact ⟨0, rfl, by omega, Below.refl _ _, fun j _ h => absurd h (by omega)⟩
  case round =>
    obtain ⟨i, rfl, hi, hb, HN⟩ := hrel
    have hsz := hb.size
    have hlt : w.heap.size < wr.heap.size := by omega
    have hbw : Below w.heap.size w wr := belOn hb1 (by omega) hb
    by_cases h36 : i < 36
    · have hik : i < krows.length := by rw [krows_len]; exact h36
      have hc := (hk1.below hb (by omega)).cells i hik
      obtain ⟨k0, k1, k2⟩ := hc
      have hrow := row_okS i h36 hik
      generalize hr : krows[i] = r at k0 k1 k2 hrow
      obtain ⟨n0, n1, n2⟩ := r
      dsimp only at k0 k1 k2 hrow
      have HNX : Hid ((n0 = kind → n2 = .nilFunc) → ∀ j (hj : j < krows.length), j < i + 1 → krows[j].1 = kind → krows[j].2.2 = .nilFunc) := by
        intro hq j hj hlt he
        by_cases e : j = i
        · subst e
          rw [hr] at he ⊢
          exact hq he
        · exact HN.out j hj (by omega) he
      clear hr HN
      by_cases hk : n0 = kind
      · subst hk
        have hkb : ((n0 : Int) == n0) = true := by simp
        rcases hrow with ⟨rfl, hft⟩ | ⟨g, l, rfl, hft, hen, hg⟩
        · clear hft
          go_wp2_with fail
          try rw [run_neq_nil2]
          go_wp2
          go_roundw
          case rel => exact ⟨i + 1, by go_num, by omega, bel1 hb (by omega) _, HNX.out (fun _ => by first | rfl | trivial)⟩
          case measure => simp [intOf]; omega
        · have HFT := hide hft
          have HG := hide hg
          have HEN := hide hen
          clear hft hg hen HNX
          go_wp2_with fail
          rw [run_neq_nil]
          go_wp2_with fail
          rw [HEN.out]
          refine (HG.out _).mono ?_
          rintro e2 w2 ⟨a, fs, rfl, HF, hb2⟩
          have hbx : Below w.heap.size w w2 := belOn (bel1 hbw (by omega) _) (by simp; omega) hb2
          clear hb2
          go_wp2
          exact bodyPost_ret (v := .tuple #[.slice a l.length l.length, .bool true]) (by simp [results, Tryz.results8, go_sem]) rfl ⟨hbx, by rw [HFT.out]; exact ⟨a, fs, rfl, HF.out.fromS (by simp; omega)⟩⟩
      · have hkb : (n0 == kind) = false := by simpa using hk
        have HNY := hide (HNX.out (fun h => absurd h hk))
        clear HNX
        rcases hrow with ⟨rfl, _⟩ | ⟨g, l, rfl, _, _, _⟩
        all_goals
          go_wp2
          go_roundw
          case rel => exact ⟨i + 1, by go_num, by omega, bel1 hb (by omega) _, HNY⟩
          case measure => simp [intOf]; omega
    · have hie : i = 36 := by omega
      subst hie
      have hft : ftab kind = none := ftab_none (fun j hj he => HN.out j hj (by rw [krows_len] at hj; exact hj) he)
      have HFT := hide hft
      clear hft HN
      go_wp2
      exact bodyPost_ret (v := .tuple #[.slice none 0 0, .bool false]) (by simp [results, Tryz.results8, go_sem]) rfl ⟨hbw, by rw [HFT.out]⟩
end Go.Proofs.YtgldcchleoklcaaGreatDoor
