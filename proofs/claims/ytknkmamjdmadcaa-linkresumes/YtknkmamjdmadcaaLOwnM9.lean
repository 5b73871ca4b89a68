import Derived.Test.YtknkmamjdmadcaaLSendM9

/- Stage 14: owned.State of a state of which a kind alone is said. -/
namespace Go.Proofs.Ytknkmamjdmadcaa
open Go.RowKit Go.Maps
set_option linter.unusedVariables false
set_option linter.unusedSimpArgs false

def v0 : Array Value := #[.int .i64 0, .int .u64 0, .string ⟨#[]⟩, .slice none 0 0, .int .i64 0]
theorem bel_setCell {B : Nat} {w w' : World} (h : Below B w w') {b : Nat} (hb : B ≤ b) (o : Nat) (v : Value) : Below B w (w'.setCell ⟨b, o, none⟩ v) :=
  ⟨h.os, h.tape, h.output, by simpa using h.size, fun q hq => (blk_set_other _ _ _ _ (by simp; omega)).trans (h.block q hq)⟩
theorem copiedList_none (a : Option Addr) (c : Nat) (w : World) :
    Calls Try.prog 86 #[.slice a 0 c] w fun e w' => e = .returned (.slice none 0 0) ∧ w = w' := by
  go_enter Try.func86, Try.ntmps86
  go_wp2
  go_ret
  exact ⟨rfl, rfl⟩
theorem states_none (a : Option Addr) (c : Nat) (w : World) :
    Calls Try.prog 52 #[.slice a 0 c] w fun e w' => e = .returned (.slice none 0 0) ∧ w = w' := by
  go_enter Try.func52, Try.ntmps52
  go_wp2
  go_ret
  exact ⟨rfl, rfl⟩
theorem heap_last1 (w : World) (o p : Obj) : ((w.alloc o).alloc p).heap[w.heap.size + 1]? = some p := by
  have := heap_alloc_last (w.alloc o) p
  rwa [show (w.alloc o).heap.size = w.heap.size + 1 by simp] at this
set_option maxRecDepth 100000 in
theorem copied0 (w : World) :
    Calls Try.prog 96 #[.agg v0] w fun e w' => e = .returned (.agg v0) ∧ Below w.heap.size w w' := by
  unfold v0
  go_enter Try.func96, Try.ntmps96
  go_wp2_with (go_at_call 86; refine (copiedList_none _ _ _).mono ?_; rintro e1 w1 ⟨rfl, rfl⟩)
  exact bodyPost_ret (v := .agg v0) (results_cell_row Try.results96 _ _ (w.heap.size + 1) 48 v0 (0, 0) _ rfl (heap_last1 w _ _) Try.underlying48 rfl (by kernel_rfl)) rfl ⟨rfl, bel1 (bel1 (Below.refl _ _) (Nat.le_refl _) _) (by simp) _⟩
theorem Try.infoV : (Try.prog.info? 48).map (fun i => (i.zero, i.size, i.bytes)) = some (some (.agg v0), 5, 64) := by kernel_rfl
theorem run_make1 (w : World) :
    (Instr.makeSlice 46 (.int .i64 1) (.int .i64 1)).run Try.prog w = .ok (.slice (some ⟨w.heap.size, 0, none⟩) 1 1) (w.alloc (.cells v0 48)) := by
  obtain ⟨i, hi, hzz⟩ := Option.map_eq_some_iff.1 Try.infoV
  simp only [Prod.mk.injEq] at hzz
  obtain ⟨hz, hs, hb⟩ := hzz
  have hr := run_make (P := Try.prog) w 46 48 i _ Try.underlying46 hi hz .i64 .i64 1 1 (by omega) (by omega) (by rw [hb]; omega) (by omega)
  simp only [hs] at hr
  rw [show madeCells (Value.agg v0).cells (Int.toNat 1 * 5) = v0 from by kernel_rfl] at hr
  exact hr
set_option maxRecDepth 100000 in
set_option maxHeartbeats 1000000 in
theorem copiedList_one (b : Nat) (w : World) (hr : w.heap[b]? = some (.cells v0 48 (0, 0))) :
    Calls Try.prog 86 #[.slice (some ⟨b, 0, none⟩) 1 1] w fun e w' => e = .returned (.slice (some ⟨w.heap.size, 0, none⟩) 1 1) ∧ w'.heap[w.heap.size]? = some (.cells v0 48 (0, 0)) ∧ Below w.heap.size w w' := by
  have hmk := run_make1
  have hlt : b < w.heap.size := (Array.getElem?_eq_some_iff.1 hr).1
  have HR := hide hr
  clear hr
  go_enter Try.func86, Try.ntmps86
  go_wp2
  obtain ⟨W0, hW0⟩ : ∃ W0, w.alloc (Obj.cells v0 48) = W0 := ⟨_, rfl⟩
  have hs0 : W0.heap.size = w.heap.size + 1 := by rw [← hW0]; simp
  have hb0 : Below w.heap.size w W0 := by rw [← hW0]; exact bel1 (Below.refl _ _) (Nat.le_refl _) _
  have hk0 : Hid (W0.heap[w.heap.size]? = some (.cells v0 48 (0, 0))) := by rw [← hW0]; exact heap_alloc_last w _
  rw [hW0]
  clear hW0 hmk
  go_loopw [14] (fun i wr => ∃ (j : Nat), i = .int .i64 j ∧ j ≤ 1 ∧ Below w.heap.size w wr ∧ w.heap.size + 1 ≤ wr.heap.size ∧ Hid (wr.heap[w.heap.size]? = some (.cells v0 48 (0, 0)))) (fun i _ => 1 - (intOf i).toNat)
  case atStart => exact ⟨0, rfl, Nat.zero_le _, hb0, by omega, hk0⟩
  case round =>
    obtain ⟨j, rfl, hj, hb, hsz, HK⟩ := hrel
    by_cases hj0 : j = 0
    · subst hj0
      have hrw : wr.heap[b]? = some (.cells v0 48 (0, 0)) := (hb.block b hlt).trans HR.out
      have x0 := cellOf hrw 0 (.int .i64 0) rfl
      have x1 := cellOf hrw 1 (.int .u64 0) rfl
      have x2 := cellOf hrw 2 (.string ⟨#[]⟩) rfl
      have x3 := cellOf hrw 3 (.slice none 0 0) rfl
      have x4 := cellOf hrw 4 (.int .i64 0) rfl
      have hbw : b < wr.heap.size := by omega
      clear hrw
      go_wp2_with fail
      refine (copied0 _).mono ?_
      rintro e w1 ⟨rfl, hb1⟩
      have hb2 : Below wr.heap.size wr w1 := belOn (bel1 (Below.refl _ _) (Nat.le_refl _) _) (by simp) hb1
      have hk1 : w1.heap[w.heap.size]? = some (.cells v0 48 (0, 0)) := (hb2.block _ (by omega)).trans HK.out
      have y0 := cellOf hk1 0 (.int .i64 0) rfl
      have y1 := cellOf hk1 1 (.int .u64 0) rfl
      have y2 := cellOf hk1 2 (.string ⟨#[]⟩) rfl
      have y3 := cellOf hk1 3 (.slice none 0 0) rfl
      have y4 := cellOf hk1 4 (.int .i64 0) rfl
      have yf : ∀ o, w1.frozen? ⟨w.heap.size, o, none⟩ = false := fun o => by simp [World.frozen?, hk1]
      have HB2 : Hid (Below w.heap.size w w1 ∧ w.heap.size + 1 ≤ w1.heap.size) := ⟨hb.trans (hb2.mono (by omega)), Nat.le_trans hsz hb2.size⟩
      have HK1 := hide hk1
      clear hb1 hb2 hk1
      unfold v0
      go_wp2
      refine ⟨⟨1, rfl, by omega, ?_, ?_, ?_⟩, by simp [intOf]⟩
      · exact bel_setCell (bel_setCell (bel_setCell (bel_setCell (bel_setCell HB2.out.1 (Nat.le_refl _) _ _) (Nat.le_refl _) _ _) (Nat.le_refl _) _ _) (Nat.le_refl _) _ _) (Nat.le_refl _) _ _
      · simpa using HB2.out.2
      · have hk := HK1.out
        show _ = _
        simp [World.setCell, Array.getElem?_modify, hk, v0]
    · obtain rfl : j = 1 := by omega
      go_wp2
      go_ret
      exact ⟨rfl, HK.out, hb⟩
theorem set5_at {w : World} {N : Nat} {t : TypeId} {fr : Nat × Nat} (hk : w.heap[N]? = some (.cells v0 t fr)) (a b c d e : Value) :
    (((((w.setCell ⟨N, 0, none⟩ a).setCell ⟨N, 1, none⟩ b).setCell ⟨N, 2, none⟩ c).setCell ⟨N, 3, none⟩ d).setCell ⟨N, 4, none⟩ e).heap[N]? = some (.cells #[a, b, c, d, e] t fr) := by
  simp [World.setCell, Array.getElem?_modify, hk, v0]
theorem set5_other (w : World) {N k : Nat} (a b c d e : Value) (h : k ≠ N) :
    (((((w.setCell ⟨N, 0, none⟩ a).setCell ⟨N, 1, none⟩ b).setCell ⟨N, 2, none⟩ c).setCell ⟨N, 3, none⟩ d).setCell ⟨N, 4, none⟩ e).heap[k]? = w.heap[k]? := by
  rw [blk_set_other _ _ _ _ h, blk_set_other _ _ _ _ h, blk_set_other _ _ _ _ h, blk_set_other _ _ _ _ h, blk_set_other _ _ _ _ h]
set_option maxRecDepth 100000 in
set_option maxHeartbeats 1000000 in
theorem listed_one (b : Nat) (w : World) (hr : w.heap[b]? = some (.cells v0 48 (0, 0))) :
    Calls Try.prog 63 #[.slice (some ⟨b, 0, none⟩) 1 1] w fun e w' => ∃ n, e = .returned (.agg #[.int .i64 21, .int .u64 0, .string ⟨#[]⟩, .slice (some ⟨n, 0, none⟩) 1 1, .int .i64 0]) ∧ w.heap.size ≤ n ∧ w'.heap[n]? = some (.cells v0 48 (0, 0)) ∧ Below w.heap.size w w' := by
  have HC := hide (copiedList_one b (w.alloc (.cells v0 48)) ((Below.heap_alloc _ _ _ (Array.getElem?_eq_some_iff.1 hr).1).trans hr))
  clear hr
  unfold v0 at HC
  go_enter Try.func63, Try.ntmps63
  go_wp2_with (go_at_call 86; refine HC.out.mono ?_; rintro e1 w1 ⟨rfl, hk1, hb1⟩; (have hz : w1.heap[w.heap.size]? = some (.cells v0 48 (0, 0)) := (hb1.block _ (by simp)).trans (heap_alloc_last w _)); (have hzl : w.heap.size < w1.heap.size := (Array.getElem?_eq_some_iff.1 hz).1); (have y0 := cellOf hz 0 (.int .i64 0) rfl); (have y1 := cellOf hz 1 (.int .u64 0) rfl); (have y2 := cellOf hz 2 (.string ⟨#[]⟩) rfl); (have y3 := cellOf hz 3 (.slice none 0 0) rfl); (have y4 := cellOf hz 4 (.int .i64 0) rfl); (have yf : ∀ o, w1.frozen? ⟨w.heap.size, o, none⟩ = false := fun o => by simp [World.frozen?, hz]); (have HZ := hide hz); (have HK1 := hide hk1); (have HB1 := hide hb1); clear hz hk1 hb1)
  have hsz : w.heap.size + 1 ≤ w1.heap.size := by have := HB1.out.size; simpa using this
  have HB : Hid (Below w.heap.size w w1) := belOn (bel1 (Below.refl _ _) (Nat.le_refl _) _) (by simp) HB1.out
  have hk : w1.heap[(w.alloc (.cells v0 48)).heap.size]? = some (.cells v0 48 (0, 0)) := HK1.out
  rw [show (w.alloc (.cells v0 48)).heap.size = w.heap.size + 1 by simp] at hk
  exact bodyPost_ret (v := .agg #[.int .i64 21, .int .u64 0, .string ⟨#[]⟩, .slice (some ⟨w.heap.size + 1, 0, none⟩) 1 1, .int .i64 0]) (results_cell_row Try.results63 _ _ w.heap.size 48 _ (0, 0) _ rfl (set5_at HZ.out _ _ _ _ _) Try.underlying48 rfl (by kernel_rfl)) rfl ⟨w.heap.size + 1, rfl, by omega, (set5_other w1 _ _ _ _ _ (by omega)).trans hk, bel_setCell (bel_setCell (bel_setCell (bel_setCell (bel_setCell HB.out (Nat.le_refl _) _ _) (Nat.le_refl _) _ _) (Nat.le_refl _) _ _) (Nat.le_refl _) _ _) (Nat.le_refl _) _ _⟩
theorem run_field3 (a0 a1 a2 a4 : Value) (p : Option Addr) (n c : Nat) (w : World) : (Instr.field 48 (.agg #[a0, a1, a2, .slice p n c, a4]) 3).run Try.prog w = .ok (.slice p n c) w := by
  first
  | kernel_rfl
  | rfl
set_option maxRecDepth 100000 in
set_option maxHeartbeats 1000000 in
theorem value0 (w : World) :
    Calls Try.prog 51 #[.agg v0] w fun e w' => e = .returned (.agg v0) ∧ Below w.heap.size w w' := by
  have HL := hide (fun (V : World) (hV : V = ((w.alloc (.cells v0 48)).alloc (.cells v0 48)).alloc (.cells v0 48)) => listed_one (w.heap.size + 2) V (by rw [hV]; have := heap_alloc_last ((w.alloc (.cells v0 48)).alloc (.cells v0 48)) (.cells v0 48); rwa [show ((w.alloc (.cells v0 48)).alloc (.cells v0 48)).heap.size = w.heap.size + 2 by simp] at this))
  unfold v0
  go_enter Try.func51, Try.ntmps51
  go_wp2_with fail
  refine (HL.out _ rfl).mono ?_
  rintro e w1 ⟨n, rfl, hn, hk, hb⟩
  have hsz : w.heap.size + 3 ≤ w1.heap.size := by have := hb.size; simpa using this
  have hz : w1.heap[w.heap.size + 1]? = some (.cells v0 48 (0, 0)) := (hb.block _ (by simp)).trans (heap_past (heap_last1 w _ _) _)
  have HB : Hid (Below w.heap.size w w1) := belOn (bel1 (bel1 (bel1 (Below.refl _ _) (Nat.le_refl _) _) (by simp) _) (by simp; omega) _) (by simp; omega) hb
  have x0 := cellOf hk 0 (.int .i64 0) rfl
  have x1 := cellOf hk 1 (.int .u64 0) rfl
  have x2 := cellOf hk 2 (.string ⟨#[]⟩) rfl
  have x3 := cellOf hk 3 (.slice none 0 0) rfl
  have x4 := cellOf hk 4 (.int .i64 0) rfl
  have hnl : n < w1.heap.size := (Array.getElem?_eq_some_iff.1 hk).1
  have y0 := cellOf hz 0 (.int .i64 0) rfl
  have y1 := cellOf hz 1 (.int .u64 0) rfl
  have y2 := cellOf hz 2 (.string ⟨#[]⟩) rfl
  have y3 := cellOf hz 3 (.slice none 0 0) rfl
  have y4 := cellOf hz 4 (.int .i64 0) rfl
  have yf : ∀ o, w1.frozen? ⟨w.heap.size + 1, o, none⟩ = false := fun o => by simp [World.frozen?, hz]
  have HZ := hide hz
  clear hz hk hb hn HL
  have hf3 := run_field3
  go_wp2
  exact bodyPost_ret (v := .agg v0) (results_cell_row Try.results51 _ _ (w.heap.size + 1) 48 v0 (0, 0) _ rfl (set5_at HZ.out _ _ _ _ _) Try.underlying48 rfl (by kernel_rfl)) rfl ⟨rfl, bel_setCell (bel_setCell (bel_setCell (bel_setCell (bel_setCell HB.out (by omega) _ _) (by omega) _ _) (by omega) _ _) (by omega) _ _) (by omega) _ _⟩
end Go.Proofs.Ytknkmamjdmadcaa
