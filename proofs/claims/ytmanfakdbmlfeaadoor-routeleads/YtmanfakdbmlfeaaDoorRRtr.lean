
/- Stage 18: a router: New, has. -/
import Derived.Test.YtmanfakdbmlfeaaDoorRMap2
namespace Go.Proofs.YtmanfakdbmlfeaaDoor
open Go.RowKit Go.Maps
set_option linter.unusedVariables false
set_option linter.unusedSimpArgs false
/-- a router in its block, its table in another -/
def RtM (w : World) (r m : Nat) (L : List Bd) : Prop := w.heap[r]? = some (.cells #[.map (some m)] 56 (0, 0)) ∧ TbB w m L
theorem RtM.cell {w : World} {r m : Nat} {L : List Bd} (h : RtM w r m L) : w.cell? ⟨r, 0, none⟩ = some (.map (some m)) := cellOf h.1 0 _ rfl
theorem RtM.lt {w : World} {r m : Nat} {L : List Bd} (h : RtM w r m L) : r < w.heap.size := (Array.getElem?_eq_some_iff.1 h.1).1
theorem RtM.ne {w : World} {r m : Nat} {L : List Bd} (h : RtM w r m L) : m ≠ r := by
  rintro rfl
  obtain ⟨h1, _, _, D, ⟨es, c, h2, _⟩, _⟩ := h
  rw [h1] at h2
  cases h2
theorem RtM.keep {w w' : World} {r m : Nat} {L : List Bd} (h : RtM w r m L) (hb : Below w.heap.size w w') : RtM w' r m L := ⟨(hb.block r h.lt).trans h.1, h.2.at (hb.block m h.2.lt)⟩
set_option maxHeartbeats 1000000 in
theorem new_any (w : World) : Calls Tryd.prog 15 #[] w fun e w' => ∃ r m, e = .returned (.pointer (some ⟨r, 0, none⟩)) ∧ RtM w' r m [] ∧ w.heap.size ≤ r ∧ w.heap.size ≤ m ∧ Below w.heap.size w w' := by
  have hmm := @run_makeMap Tryd.prog
  go_enter Tryd.func15, Tryd.ntmps15
  go_wp2
  go_ret
  refine ⟨_, w.heap.size, rfl, ⟨by have := heap_new (w.alloc (.map #[] 0)) (.cells #[.map (some w.heap.size)] 56); simpa using this, (TbB.made w).at ?_⟩, by simp, Nat.le_refl _, bel1 (bel1 (Below.refl _ _) (Nat.le_refl _) _) (by simp) _⟩
  exact Below.heap_alloc _ _ _ (by simp)
set_option maxHeartbeats 2000000 in
theorem has_any (w : World) (r m : Nat) (L : List Bd) (k : Bd) (hR : RtM w r m L) (hk : okB k) : Calls Tryd.prog 36 #[.pointer (some ⟨r, 0, none⟩), bdV k] w fun e w' => e = .returned (.bool (hasB L k)) ∧ Below w.heap.size w w' := by
  obtain ⟨p, q⟩ := k
  have HS0 : Hid (∀ W, Below (w.heap.size + 1) (w.alloc (.cells #[.string p, .string q] 36)) W → RtM W r m L ∧ W.cell? ⟨w.heap.size, 0, none⟩ = some (.string p) ∧ W.cell? ⟨w.heap.size, 1, none⟩ = some (.string q)) := fun W hb => by
    have h1 : W.heap[w.heap.size]? = some (.cells #[.string p, .string q] 36) := (hb.block _ (by omega)).trans (heap_new _ _)
    exact ⟨(hR.keep (bel1 (Below.refl _ _) (Nat.le_refl _) _)).keep (by simpa using hb), cellOf h1 0 _ rfl, cellOf h1 1 _ rfl⟩
  have HB : Hid (Below (w.heap.size + 1) (w.alloc (.cells #[.string p, .string q] 36)) (w.alloc (.cells #[.string p, .string q] 36)).drew) := Below.drew (Below.refl (w.heap.size + 1) (w.alloc (.cells #[.string p, .string q] 36)))
  have HLK : Hid (∀ W, RtM W r m L → (Instr.lookup 54 (.map (some m)) (.agg #[.string p, .string q]) true).run Tryd.prog W = .ok (.tuple #[.agg #[], .bool (hasB L (p, q))]) W) := fun W h => by have := look_run h.2 hk; unfold bdV at this; exact this
  have HBw : Hid (Below w.heap.size w (w.alloc (.cells #[.string p, .string q] 36))) := bel1 (Below.refl _ _) (Nat.le_refl _) _
  clear hR hk
  unfold bdV
  go_enter Tryd.func36, Tryd.ntmps36
  go_wp2_with fail
  refine wp_region_held_drew (S := fun W => RtM W r m L ∧ W.cell? ⟨w.heap.size, 0, none⟩ = some (.string p) ∧ W.cell? ⟨w.heap.size, 1, none⟩ = some (.string q)) (by kernel_rfl) (HS0.out _ HB.out) (fun hHeld => ?_)
  refine take_do (i := 0) (d := 8) (v := ?_) rfl rfl (by kernel_rfl) (by kernel_rfl) (by kernel_rfl) (fun _ _ _ h => h) rfl ?_ (by assumption) ?_
  rotate_left
  · intro W hSw
    try dsimp only at hSw
    go_simp
    try with_reducible rfl
  try simp only [List.setIfInBounds_toArray, List.set_cons_zero, List.set_cons_succ]
  refine take_do (i := 1) (d := 9) (v := ?_) rfl rfl (by kernel_rfl) (by kernel_rfl) (by kernel_rfl) (fun _ _ _ h => h) rfl ?_ (by assumption) ?_
  rotate_left
  · intro W hSw
    try dsimp only at hSw
    go_simp
    try with_reducible rfl
  try simp only [List.setIfInBounds_toArray, List.set_cons_zero, List.set_cons_succ]
  refine take_do (i := 2) (d := 10) (v := ?_) rfl rfl (by kernel_rfl) (by kernel_rfl) (by kernel_rfl) (fun _ _ _ h => h) rfl ?_ (by assumption) ?_
  rotate_left
  · intro W hSw
    try dsimp only at hSw
    go_simp
    try with_reducible rfl
  try simp only [List.setIfInBounds_toArray, List.set_cons_zero, List.set_cons_succ]
  refine take_do (i := 3) (d := 11) (v := ?_) rfl rfl (by kernel_rfl) (by kernel_rfl) (by kernel_rfl) (fun _ _ _ h => h) rfl ?_ (by assumption) ?_
  rotate_left
  · intro W hSw
    try dsimp only at hSw
    have hc := hSw.1.cell
    go_simp
    try with_reducible rfl
  try simp only [List.setIfInBounds_toArray, List.set_cons_zero, List.set_cons_succ]
  refine take_do (i := 4) (d := 12) (v := ?_) rfl rfl (by kernel_rfl) (by kernel_rfl) (by kernel_rfl) (fun _ _ _ h => h) rfl ?_ (by assumption) ?_
  rotate_left
  · intro W hSw
    try dsimp only at hSw
    obtain ⟨_, hc1, hc2⟩ := hSw
    go_simp
    try with_reducible rfl
  try simp only [List.setIfInBounds_toArray, List.set_cons_zero, List.set_cons_succ]
  refine take_do (i := 5) (d := 13) (v := ?_) rfl rfl (by kernel_rfl) (by kernel_rfl) (by kernel_rfl) (fun _ _ _ h => h) rfl ?_ (by assumption) ?_
  rotate_left
  · intro W hSw
    try dsimp only at hSw
    have hl := HLK.out W hSw.1
    go_simp
    try with_reducible rfl
  try simp only [List.setIfInBounds_toArray, List.set_cons_zero, List.set_cons_succ]
  refine take_do (i := 6) (d := 7) (v := ?_) rfl rfl (by kernel_rfl) (by kernel_rfl) (by kernel_rfl) (fun _ _ _ h => h) rfl ?_ (by assumption) ?_
  rotate_left
  · intro W hSw
    try dsimp only at hSw
    go_simp
    try with_reducible rfl
  try simp only [List.setIfInBounds_toArray, List.set_cons_zero, List.set_cons_succ]
  refine take_do (i := 7) (d := 14) (v := ?_) rfl rfl (by kernel_rfl) (by kernel_rfl) (by kernel_rfl) (fun _ _ _ h => h) rfl ?_ (by assumption) ?_
  rotate_left
  · intro W hSw
    try dsimp only at hSw
    go_simp
    try with_reducible rfl
  try simp only [List.setIfInBounds_toArray, List.set_cons_zero, List.set_cons_succ]
  refine take_do (i := 8) (d := 15) (v := ?_) rfl rfl (by kernel_rfl) (by kernel_rfl) (by kernel_rfl) (fun _ _ _ h => h) rfl ?_ (by assumption) ?_
  rotate_left
  · intro W hSw
    try dsimp only at hSw
    go_simp
    try with_reducible rfl
  try simp only [List.setIfInBounds_toArray, List.set_cons_zero, List.set_cons_succ]
  refine wpAnyH_ready (rs := [9]) (by kernel_rfl) (by simp) ?_
  refine AllReadyH.cons rfl (fun K hK => ?_) AllReadyH.nil
  rw [if_pos (by kernel_rfl)]
  go_wp2
  refine hK.out _ _ (HS0.out _ (bel1 HB.out (by simp) _)) (fun hHeld => ?_)
  clear hK K
  try simp only [Act.put, List.setIfInBounds_toArray, List.set_cons_zero, List.set_cons_succ]
  refine wpAnyH_ready (rs := [10]) (by kernel_rfl) (by simp) ?_
  refine AllReadyH.cons rfl (fun K hK => ?_) AllReadyH.nil
  rw [if_pos (by kernel_rfl)]
  go_wp2
  refine hK.out _ _ (HS0.out _ (bel1 HB.out (by simp) _)) (fun hHeld => ?_)
  clear hK K
  try simp only [Act.put, List.setIfInBounds_toArray, List.set_cons_zero, List.set_cons_succ]
  refine take_do (i := 11) (d := 6) (v := ?_) rfl rfl (by kernel_rfl) (by kernel_rfl) (by kernel_rfl) (fun _ _ _ h => h) rfl ?_ (by assumption) ?_
  rotate_left
  · intro W hSw
    try dsimp only at hSw
    go_simp
    try with_reducible rfl
  try simp only [List.setIfInBounds_toArray, List.set_cons_zero, List.set_cons_succ]
  refine wpAnyH_done (by kernel_rfl) ?_ _
  go_wp2
  go_ret
  exact ⟨rfl, bel1 HBw.out.drew (by simp) _⟩
end Go.Proofs.YtmanfakdbmlfeaaDoor
