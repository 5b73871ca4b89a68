
/- MessageNames: Blank, of the program and of the document; Same at them. -/
import Derived.Test.YtiplidljlegcgaaVREq
import Derived.Deep.WholeRow
namespace Go.Proofs.Ytiplidljlegcgaa
open Go.RowKit
set_option linter.unusedVariables false
set_option linter.unusedSimpArgs false
def hdrA : Array Value := #[.bool false, .bool false, .int .i64 4, .int .i64 (-1), .bool false, .int .i64 0]
def prpA : Array Value := #[.bool false, .int .i64 0, .int .u64 0, .string ⟨#[]⟩, .slice none 0 0, .int .i64 0, .string ⟨#[]⟩, .string ⟨#[]⟩, .string ⟨#[]⟩, .string ⟨#[]⟩, .int .i64 0, .int .u64 0, .string ⟨#[]⟩, .slice none 0 0, .int .i64 0, .string ⟨#[]⟩, .string ⟨#[]⟩, .int .i64 (-1), .int .i64 (-1), .string ⟨#[]⟩, .int .i64 (-1), .string ⟨#[]⟩]
def msgA (b : Nat) : Array Value := #[.bool false, .bool false, .int .i64 4, .int .i64 (-1), .bool false, .int .i64 0, .int .i64 0, .int .u64 0, .string ⟨#[]⟩, .slice none 0 0, .int .i64 0, .int .i64 0, .int .u64 0, .string ⟨#[]⟩, .slice none 0 0, .int .i64 0, .bool false, .int .i64 0, .int .u64 0, .string ⟨#[]⟩, .slice none 0 0, .int .i64 0, .string ⟨#[]⟩, .string ⟨#[]⟩, .string ⟨#[]⟩, .string ⟨#[]⟩, .int .i64 0, .int .u64 0, .string ⟨#[]⟩, .slice none 0 0, .int .i64 0, .string ⟨#[]⟩, .string ⟨#[]⟩, .int .i64 (-1), .int .i64 (-1), .string ⟨#[]⟩, .int .i64 (-1), .string ⟨#[]⟩, .int .i64 0, .int .u64 0, .string ⟨#[]⟩, .slice none 0 0, .int .i64 0, .int .i64 1, .slice (some ⟨b, 0, none⟩) 1 1, .slice none 0 0, .int .i64 0, .int .u64 0, .string ⟨#[]⟩, .slice none 0 0, .int .i64 0, .int .i64 0, .int .u64 0, .string ⟨#[]⟩, .slice none 0 0, .int .i64 0]
theorem Try.infoP : (Try.prog.info? 30).map (·.size) = some 22 := by kernel_rfl
theorem Try.infoM : (Try.prog.info? 33).map (·.size) = some 56 := by kernel_rfl
theorem setRow_under {w : World} {g : Nat} (hg : g < w.heap.size) (c : Array Value) (o : Obj) : (w.alloc o).setRow g c = (w.setRow g c).alloc o := by
  simp only [World.setRow, World.alloc]
  congr 1
  apply Array.ext_getElem?
  intro i
  rw [Array.getElem?_modify, Array.getElem?_push, Array.getElem?_push, Array.getElem?_modify, Array.size_modify]
  by_cases h : g = i
  · subst h
    simp [Nat.ne_of_lt hg]
  · simp [h]
set_option maxRecDepth 100000 in
set_option maxHeartbeats 4000000 in
theorem noProperties_any (w : World) : Calls Try.prog 8 #[] w fun e w' => e = .returned (.agg prpA) ∧ Below w.heap.size w w' ∧ w'.heap.size = w.heap.size + 1 := by

  go_enter Try.func8, Try.ntmps8
  go_wp2_with (refine wpList_store_row rfl 30 (.tmp 0) (.tmp 1) rfl w.heap.size prpA rfl rfl 30 _ (heap_alloc_last w _) Try.infoP rfl (by kernel_rfl) ?_; rw [World.setRow_alloc_new])
  refine bodyPost_ret (v := .agg prpA) (results_cell_row Try.results8 _ _ w.heap.size 30 prpA (0, 0) _ rfl (heap_alloc_last w _) Try.underlying30 rfl Try.infoP) rfl ⟨rfl, bel1 (Below.refl _ _) (Nat.le_refl _) _, by simp⟩
set_option maxRecDepth 100000 in
set_option maxHeartbeats 4000000 in
theorem rblank_any (w : World) : Calls Try.prog 6 #[] w fun e w' => ∃ b, e = .returned (.agg (msgA b)) ∧ Below w.heap.size w w' ∧ w.heap.size ≤ b ∧ b < w'.heap.size ∧ w'.heap[b]? = some (.cells #[.string ⟨#[]⟩] 9 (0, 0)) := by

  go_enter Try.func6, Try.ntmps6
  go_wp2_with (refine wpList_store_row rfl 33 (.tmp 0) (.tmp 4) rfl w.heap.size (msgA (w.heap.size + 1)) rfl rfl 33 _ (heap_past (heap_alloc_last w _) _) Try.infoM rfl (by kernel_rfl) ?_; rw [setRow_under (by simp), World.setRow_alloc_new])
  refine bodyPost_ret (v := .agg (msgA (w.heap.size + 1))) (results_cell_row Try.results6 _ _ w.heap.size 33 (msgA (w.heap.size + 1)) (0, 0) _ rfl (heap_past (heap_alloc_last w _) _) Try.underlying33 rfl Try.infoM) rfl ⟨w.heap.size + 1, rfl, bel2 (Below.refl _ _) (Nat.le_refl _) _ _, by omega, by simp, heap_at1 _ _ _⟩
set_option maxRecDepth 100000 in
set_option maxHeartbeats 4000000 in
theorem noHeader_any (w : World) : Calls Try.prog 7 #[] w fun e w' => e = .returned (.agg hdrA) ∧ Below w.heap.size w w' ∧ w'.heap.size = w.heap.size + 1 := by
  go_enter Try.func7, Try.ntmps7
  go_wp2
  refine bodyPost_ret (v := .agg hdrA) (results_cell_row Try.results7 _ _ w.heap.size 24 hdrA (0, 0) _ rfl (heap_alloc_last w _) Try.underlying24 rfl (by kernel_rfl)) rfl ⟨rfl, bel1 (Below.refl _ _) (Nat.le_refl _) _, by simp⟩
set_option maxRecDepth 100000 in
set_option maxHeartbeats 4000000 in
theorem blank_any (w : World) : Calls Try.prog 4 #[] w fun e w' => ∃ b, e = .returned (.agg (msgA b)) ∧ Below w.heap.size w w' ∧ w.heap.size ≤ b ∧ b < w'.heap.size ∧ w'.heap[b]? = some (.cells #[.string ⟨#[]⟩] 9 (0, 0)) := by
  go_enter Try.func4, Try.ntmps4
  go_wp2_with fail
  obtain ⟨W0, hW0⟩ : ∃ W0, w.alloc (.cells #[.bool false, .bool false, .int .i64 0, .int .i64 0, .bool false, .int .i64 0, .int .i64 0, .int .u64 0, .string ⟨#[]⟩, .slice none 0 0, .int .i64 0, .int .i64 0, .int .u64 0, .string ⟨#[]⟩, .slice none 0 0, .int .i64 0, .bool false, .int .i64 0, .int .u64 0, .string ⟨#[]⟩, .slice none 0 0, .int .i64 0, .string ⟨#[]⟩, .string ⟨#[]⟩, .string ⟨#[]⟩, .string ⟨#[]⟩, .int .i64 0, .int .u64 0, .string ⟨#[]⟩, .slice none 0 0, .int .i64 0, .string ⟨#[]⟩, .string ⟨#[]⟩, .int .i64 0, .int .i64 0, .string ⟨#[]⟩, .int .i64 0, .string ⟨#[]⟩, .int .i64 0, .int .u64 0, .string ⟨#[]⟩, .slice none 0 0, .int .i64 0, .int .i64 0, .slice none 0 0, .slice none 0 0, .int .i64 0, .int .u64 0, .string ⟨#[]⟩, .slice none 0 0, .int .i64 0, .int .i64 0, .int .u64 0, .string ⟨#[]⟩, .slice none 0 0, .int .i64 0] 33) = W0 := ⟨_, rfl⟩
  have hs0 : W0.heap.size = w.heap.size + 1 := by rw [← hW0]; simp
  have hb0 : Below w.heap.size w W0 := by rw [← hW0]; exact bel1 (Below.refl _ _) (Nat.le_refl _) _
  have hh0 : W0.heap[w.heap.size]? = some (.cells #[.bool false, .bool false, .int .i64 0, .int .i64 0, .bool false, .int .i64 0, .int .i64 0, .int .u64 0, .string ⟨#[]⟩, .slice none 0 0, .int .i64 0, .int .i64 0, .int .u64 0, .string ⟨#[]⟩, .slice none 0 0, .int .i64 0, .bool false, .int .i64 0, .int .u64 0, .string ⟨#[]⟩, .slice none 0 0, .int .i64 0, .string ⟨#[]⟩, .string ⟨#[]⟩, .string ⟨#[]⟩, .string ⟨#[]⟩, .int .i64 0, .int .u64 0, .string ⟨#[]⟩, .slice none 0 0, .int .i64 0, .string ⟨#[]⟩, .string ⟨#[]⟩, .int .i64 0, .int .i64 0, .string ⟨#[]⟩, .int .i64 0, .string ⟨#[]⟩, .int .i64 0, .int .u64 0, .string ⟨#[]⟩, .slice none 0 0, .int .i64 0, .int .i64 0, .slice none 0 0, .slice none 0 0, .int .i64 0, .int .u64 0, .string ⟨#[]⟩, .slice none 0 0, .int .i64 0, .int .i64 0, .int .u64 0, .string ⟨#[]⟩, .slice none 0 0, .int .i64 0] 33 (0, 0)) := by rw [← hW0]; exact World.alloc_heap_new _ _
  rw [hW0]
  clear hW0
  refine (noHeader_any _).mono ?_
  rintro e1 w1 ⟨rfl, hb1, hs1⟩
  go_wp2_with fail
  refine (noProperties_any _).mono ?_
  rintro e2 w2 ⟨rfl, hb2, hs2⟩
  have hb02 : Below W0.heap.size W0 w2 := belOn hb1 (by omega) hb2
  have hh2 := (hb02.block w.heap.size (by omega)).trans hh0
  have HH2 := hide hh2
  have hz : w.heap.size < w2.heap.size := by omega
  have hb2w : Below w.heap.size w w2 := belOn hb0 (by omega) hb02
  clear hh0 hh2 hs0 hs1 hs2 hb0 hb1 hb2 hb02
  unfold hdrA prpA
  go_wp2_with (refine wpList_store_row rfl 33 (.tmp 0) (.tmp 4) rfl w.heap.size (msgA w2.heap.size) rfl rfl 33 _ (heap_past HH2.out _) Try.infoM rfl (by kernel_rfl) ?_; rw [setRow_under (by omega)])
  have hsr : (w2.setRow w.heap.size (msgA w2.heap.size)).heap.size = w2.heap.size := by simp [World.setRow]
  have hrow : (w2.setRow w.heap.size (msgA w2.heap.size)).heap[w.heap.size]? = some (.cells (msgA w2.heap.size) 33 (0, 0)) := by
    simp only [World.setRow]
    rw [Array.getElem?_modify, if_pos rfl, HH2.out]
    rfl
  have hbr : Below w.heap.size w (w2.setRow w.heap.size (msgA w2.heap.size)) := by
    have h := hb2w
    refine ⟨h.os, h.tape, h.output, by rw [hsr]; exact h.size, fun q hq => ?_⟩
    refine Eq.trans ?_ (h.block q hq)
    simp only [World.setRow]
    rw [Array.getElem?_modify, if_neg (by omega)]
  refine bodyPost_ret (v := .agg (msgA w2.heap.size)) (results_cell_row Try.results4 _ _ w.heap.size 33 (msgA w2.heap.size) (0, 0) _ rfl (heap_past hrow _) Try.underlying33 rfl Try.infoM) rfl ⟨w2.heap.size, rfl, bel1 hbr (by omega) _, by omega, by simp [hsr], ?_⟩
  have := World.alloc_heap_new (w2.setRow w.heap.size (msgA w2.heap.size)) (.cells #[.string ⟨#[]⟩] 9)
  rwa [hsr] at this
end Go.Proofs.Ytiplidljlegcgaa
