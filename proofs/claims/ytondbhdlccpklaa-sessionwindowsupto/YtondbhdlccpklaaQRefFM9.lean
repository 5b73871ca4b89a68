import Derived.Test.YtondbhdlccpklaaQRefNM9
import Derived.Test.YtondbhdlccpklaaQBgnM9

/- Stage 13: the document's Fields. -/
namespace Go.Proofs.Ytondbhdlccpklaa
open Go.RowKit Go.Maps
set_option linter.unusedVariables false
set_option linter.unusedSimpArgs false

set_option maxRecDepth 100000 in
set_option maxHeartbeats 4000000 in
theorem rfields_any (g : Nat) (s : Sn) (vh vr vs va : Value) (w : World) (hS : RB w g s vh vr vs va) :
    Calls Try.prog 15 #[.pointer (some ⟨g, 0, none⟩)] w fun e w' => e = .returned (.agg s.flow) ∧ Below w.heap.size w w' := by
  obtain ⟨s0, s1, s2, s3, s4, s5, s6, s7, s8, s9, s10, s11, s12, s13, s14, s15, s16⟩ := hS.facts
  have hl := hS.lt
  unfold Sn.flow
  obtain ⟨peer, no, ow, ni, iw, ri, ro, nd, hm, rh, fi, bh, br, bs, bc⟩ := s
  dsimp only at *
  obtain ⟨W1, hW1⟩ : ∃ W1, w.alloc (.cells Try.zeroCells39 39) = W1 := ⟨_, rfl⟩
  have HW1 := hide hW1
  have hsz1 : W1.heap.size = w.heap.size + 1 := by rw [← hW1]; simp
  have HB1 : Hid (Below w.heap.size w W1) := hW1 ▸ bel1 (Below.refl _ _) (Nat.le_refl _) _
  have hn1 : W1.heap[w.heap.size]? = some (.cells Try.zeroCells39 39 (0, 0)) := hW1 ▸ heap_alloc_last w _
  have hcells : ∀ W : World, Below w.heap.size w W → W.cell? ⟨g, 5, none⟩ = some (.int .i64 iw) ∧ W.cell? ⟨g, 2, none⟩ = some (.int .i64 no) ∧ W.cell? ⟨g, 3, none⟩ = some (.int .i64 ow) := fun W h =>
    ⟨(h.cell (p := ⟨g, 5, none⟩) hl).trans s5, (h.cell (p := ⟨g, 2, none⟩) hl).trans s2, (h.cell (p := ⟨g, 3, none⟩) hl).trans s3⟩
  have HB1d : Hid (Below w.heap.size w W1.drew) := HB1.out.trans ((bel_drew W1).mono HB1.out.size)
  have HS1 := hide (hcells W1.drew HB1d.out)
  have hb2 : Below w.heap.size w ((W1.alloc (.cells Try.zeroCells39 39)).drew) := (bel1 HB1.out HB1.out.size _).trans ((bel_drew _).mono (by simp; omega))
  have HS2 := hide (hcells _ hb2)
  have HN0 : Hid (((W1.alloc (.cells Try.zeroCells39 39)).drew).heap[W1.heap.size]? = some (.cells Try.zeroCells39 39 (0, 0))) := heap_alloc_last W1 _
  obtain ⟨V, hV⟩ : ∃ V, ((W1.alloc (.cells Try.zeroCells39 39)).drew).setRow (W1.heap.size) (pfA 19 0 (-1) iw no ow 0 (-1) (-1) (-1) (-1) false) = V := ⟨_, rfl⟩
  have HV := hide hV
  have HN2 : Hid (V.heap[W1.heap.size]? = some (.cells (pfA 19 0 (-1) iw no ow 0 (-1) (-1) (-1) (-1) false) 39 (0, 0))) := hV ▸ setRow_same HN0.out _
  have HN1 : Hid (V.heap[w.heap.size]? = some (.cells Try.zeroCells39 39 (0, 0))) := by
    show _ = _
    rw [← hV, setRow_other _ _ _ _ (by omega)]
    exact heap_past hn1 _
  have HB : Hid (Below w.heap.size w V) := hV ▸ bel_setRow hb2 (by omega) _
  have HS3 := hide (hcells V HB.out)
  have v1 : V.cell? ⟨g, 1, none⟩ = some (.bool peer) := (HB.out.cell (p := ⟨g, 1, none⟩) hl).trans s1
  have v4 : V.cell? ⟨g, 4, none⟩ = some (.int .i64 ni) := (HB.out.cell (p := ⟨g, 4, none⟩) hl).trans s4
  have hgV : g < V.heap.size := by have := HB.out.size; omega
  have hgV1 : W1.heap.size < V.heap.size := (Array.getElem?_eq_some_iff.1 HN2.out).1
  have hgne : g ≠ W1.heap.size := by omega
  have hne1 : w.heap.size ≠ W1.heap.size := by omega
  have hle1 : w.heap.size ≤ W1.heap.size := by omega
  clear hS hW1 hV hcells hb2 hn1 hsz1
  cases peer
  · rw [if_neg (by simp)]
    go_enter Try.func15, Try.ntmps15
    go_wp2
    rw [HW1.out]
    refine wp_region_held_drew (S := fun W => W.cell? ⟨g, 5, none⟩ = some (.int .i64 iw) ∧ W.cell? ⟨g, 2, none⟩ = some (.int .i64 no) ∧ W.cell? ⟨g, 3, none⟩ = some (.int .i64 ow)) (by kernel_rfl) HS1.out (fun hHeld => ?_)
    refine take_do (i := 0) (d := 4) (v := ?_) rfl rfl (by kernel_rfl) (by kernel_rfl) (by kernel_rfl) (fun _ _ _ h => h) rfl ?_ (by assumption) ?_
    rotate_left
    · intro W hSw
      try dsimp only at hSw
      go_simp
      try with_reducible rfl
    try simp only [List.setIfInBounds_toArray, List.set_cons_zero, List.set_cons_succ]
    refine take_do (i := 1) (d := 5) (v := ?_) rfl rfl (by kernel_rfl) (by kernel_rfl) (by kernel_rfl) (fun _ _ _ h => h) rfl ?_ (by assumption) ?_
    rotate_left
    · intro W hSw
      try dsimp only at hSw
      go_simp
      try with_reducible rfl
    try simp only [List.setIfInBounds_toArray, List.set_cons_zero, List.set_cons_succ]
    refine take_do (i := 2) (d := 6) (v := ?_) rfl rfl (by kernel_rfl) (by kernel_rfl) (by kernel_rfl) (fun _ _ _ h => h) rfl ?_ (by assumption) ?_
    rotate_left
    · intro W hSw
      try dsimp only at hSw
      go_simp
      try with_reducible rfl
    try simp only [List.setIfInBounds_toArray, List.set_cons_zero, List.set_cons_succ]
    refine take_do (i := 3) (d := 7) (v := ?_) rfl rfl (by kernel_rfl) (by kernel_rfl) (by kernel_rfl) (fun _ _ _ h => h) rfl ?_ (by assumption) ?_
    rotate_left
    · intro W hSw
      try dsimp only at hSw
      go_simp
      try with_reducible rfl
    try simp only [List.setIfInBounds_toArray, List.set_cons_zero, List.set_cons_succ]
    refine take_do (i := 4) (d := 8) (v := ?_) rfl rfl (by kernel_rfl) (by kernel_rfl) (by kernel_rfl) (fun _ _ _ h => h) rfl ?_ (by assumption) ?_
    rotate_left
    · intro W hSw
      try dsimp only at hSw
      go_simp
      try with_reducible rfl
    try simp only [List.setIfInBounds_toArray, List.set_cons_zero, List.set_cons_succ]
    refine take_do (i := 5) (d := 9) (v := ?_) rfl rfl (by kernel_rfl) (by kernel_rfl) (by kernel_rfl) (fun _ _ _ h => h) rfl ?_ (by assumption) ?_
    rotate_left
    · intro W hSw
      try dsimp only at hSw
      go_simp
      try with_reducible rfl
    try simp only [List.setIfInBounds_toArray, List.set_cons_zero, List.set_cons_succ]
    refine take_do (i := 6) (d := 10) (v := ?_) rfl rfl (by kernel_rfl) (by kernel_rfl) (by kernel_rfl) (fun _ _ _ h => h) rfl ?_ (by assumption) ?_
    rotate_left
    · intro W hSw
      try dsimp only at hSw
      go_simp
      try with_reducible rfl
    try simp only [List.setIfInBounds_toArray, List.set_cons_zero, List.set_cons_succ]
    refine take_do (i := 7) (d := 11) (v := ?_) rfl rfl (by kernel_rfl) (by kernel_rfl) (by kernel_rfl) (fun _ _ _ h => h) rfl ?_ (by assumption) ?_
    rotate_left
    · intro W hSw
      try dsimp only at hSw
      go_simp
      try with_reducible rfl
    try simp only [List.setIfInBounds_toArray, List.set_cons_zero, List.set_cons_succ]
    refine take_do (i := 8) (d := 12) (v := ?_) rfl rfl (by kernel_rfl) (by kernel_rfl) (by kernel_rfl) (fun _ _ _ h => h) rfl ?_ (by assumption) ?_
    rotate_left
    · intro W hSw
      try dsimp only at hSw
      go_simp
      try with_reducible rfl
    try simp only [List.setIfInBounds_toArray, List.set_cons_zero, List.set_cons_succ]
    refine take_do (i := 9) (d := 13) (v := ?_) rfl rfl (by kernel_rfl) (by kernel_rfl) (by kernel_rfl) (fun _ _ _ h => h) rfl ?_ (by assumption) ?_
    rotate_left
    · intro W hSw
      try dsimp only at hSw
      go_simp
      try with_reducible rfl
    try simp only [List.setIfInBounds_toArray, List.set_cons_zero, List.set_cons_succ]
    refine take_do (i := 10) (d := 14) (v := ?_) rfl rfl (by kernel_rfl) (by kernel_rfl) (by kernel_rfl) (fun _ _ _ h => h) rfl ?_ (by assumption) ?_
    rotate_left
    · intro W hSw
      try dsimp only at hSw
      go_simp
      try with_reducible rfl
    try simp only [List.setIfInBounds_toArray, List.set_cons_zero, List.set_cons_succ]
    refine take_do (i := 11) (d := 15) (v := ?_) rfl rfl (by kernel_rfl) (by kernel_rfl) (by kernel_rfl) (fun _ _ _ h => h) rfl ?_ (by assumption) ?_
    rotate_left
    · intro W hSw
      try dsimp only at hSw
      go_simp
      try with_reducible rfl
    try simp only [List.setIfInBounds_toArray, List.set_cons_zero, List.set_cons_succ]
    refine take_do (i := 12) (d := 16) (v := ?_) rfl rfl (by kernel_rfl) (by kernel_rfl) (by kernel_rfl) (fun _ _ _ h => h) rfl ?_ (by assumption) ?_
    rotate_left
    · intro W hSw
      try dsimp only at hSw
      go_simp
      try with_reducible rfl
    try simp only [List.setIfInBounds_toArray, List.set_cons_zero, List.set_cons_succ]
    refine take_do (i := 13) (d := 17) (v := ?_) rfl rfl (by kernel_rfl) (by kernel_rfl) (by kernel_rfl) (fun _ _ _ h => h) rfl ?_ (by assumption) ?_
    rotate_left
    · intro W hSw
      try dsimp only at hSw
      go_simp
      try with_reducible rfl
    try simp only [List.setIfInBounds_toArray, List.set_cons_zero, List.set_cons_succ]
    refine take_do (i := 14) (d := 18) (v := ?_) rfl rfl (by kernel_rfl) (by kernel_rfl) (by kernel_rfl) (fun _ _ _ h => h) rfl ?_ (by assumption) ?_
    rotate_left
    · intro W hSw
      try dsimp only at hSw
      go_simp
      try with_reducible rfl
    try simp only [List.setIfInBounds_toArray, List.set_cons_zero, List.set_cons_succ]
    refine take_do (i := 15) (d := 19) (v := .agg (pfA 19 0 (-1) iw no ow 0 (-1) (-1) (-1) (-1) false)) rfl rfl (by kernel_rfl) (by kernel_rfl) (by kernel_rfl) (fun _ _ _ h => h) rfl ?_ (by assumption) ?_
    · intro W hSw
      exact built_run W 39 _ _ (by kernel_rfl)
    try simp only [List.setIfInBounds_toArray, List.set_cons_zero, List.set_cons_succ]
    refine wpAnyH_ready (rs := [16]) (by kernel_rfl) (by simp) ?_
    refine AllReadyH.cons rfl (fun K hK => ?_) AllReadyH.nil
    rw [if_pos (by kernel_rfl)]
    go_simp
    refine hK.out _ _ HS2.out (fun hHeld => ?_)
    clear hK K
    refine wpAnyH_ready (rs := [17]) (by kernel_rfl) (by simp) ?_
    refine AllReadyH.cons rfl (fun K hK => ?_) AllReadyH.nil
    rw [if_pos (by kernel_rfl)]
    refine wp_store_row 39 (.tmp 3) (.tmp 19) rfl (W1.heap.size) (pfA 19 0 (-1) iw no ow 0 (-1) (-1) (-1) (-1) false) rfl rfl 39 _ HN0.out (pfI ..) (pfZ ..) (pfA_one ..) ?_
    rw [HV.out]
    refine hK.out _ _ HS3.out (fun hHeld => ?_)
    clear hK K
    refine wpAnyH_done (by kernel_rfl) ?_ _
    go_wp2_with (first | (refine wpList_load_row rfl 39 (.tmp 3) rfl (W1.heap.size) rfl 39 (pfA 19 0 (-1) iw no ow 0 (-1) (-1) (-1) (-1) false) (0, 0) _ HN2.out Try.underlying39 rfl (pfI ..) ?_) | (refine wpList_store_row rfl 39 (.tmp 2) (.tmp 31) rfl w.heap.size (pfA 19 0 (-1) iw no ow 0 (-1) (-1) (-1) (-1) false) rfl rfl 39 _ HN1.out (pfI ..) (pfZ ..) (pfA_one ..) ?_))
    exact bodyPost_ret (v := .agg (pfA 19 0 (-1) iw no ow 0 (-1) (-1) (-1) (-1) false)) (results_cell_row Try.results15 _ _ w.heap.size 39 _ (0, 0) _ rfl (setRow_same HN1.out _) Try.underlying39 rfl (pfI ..)) rfl ⟨rfl, bel_setRow HB.out (Nat.le_refl _) _⟩
  · rw [if_pos rfl]
    obtain ⟨V2, hV2⟩ : ∃ V2, V.setCell ⟨W1.heap.size, 12, none⟩ (.int .i64 ni) = V2 := ⟨_, rfl⟩
    have HV2 := hide hV2
    have c12 : V.cell? ⟨W1.heap.size, 12, none⟩ = some (.int .i64 (-1)) := cellOf HN2.out 12 _ (by kernel_rfl)
    have f12 : V.frozen? ⟨W1.heap.size, 12, none⟩ = false := by simp [World.frozen?, HN2.out]
    have HM2 : Hid (V2.heap[W1.heap.size]? = some (.cells (pfA 19 0 ni iw no ow 0 (-1) (-1) (-1) (-1) false) 39 (0, 0))) := by
      show _ = _
      rw [← hV2]
      simp only [World.setCell, Array.getElem?_modify, if_pos, HN2.out]
      kernel_rfl
    have HM1 : Hid (V2.heap[w.heap.size]? = some (.cells Try.zeroCells39 39 (0, 0))) := by
      show _ = _
      rw [← hV2, blk_set_other _ _ _ _ hne1]
      exact HN1.out
    have HB2 : Hid (Below w.heap.size w V2) := by
      show Below _ _ _
      rw [← hV2]
      exact HB.out.setCell (p := ⟨W1.heap.size, 12, none⟩) hle1 _
    clear hV2
    go_enter Try.func15, Try.ntmps15
    go_wp2
    rw [HW1.out]
    refine wp_region_held_drew (S := fun W => W.cell? ⟨g, 5, none⟩ = some (.int .i64 iw) ∧ W.cell? ⟨g, 2, none⟩ = some (.int .i64 no) ∧ W.cell? ⟨g, 3, none⟩ = some (.int .i64 ow)) (by kernel_rfl) HS1.out (fun hHeld => ?_)
    refine take_do (i := 0) (d := 4) (v := ?_) rfl rfl (by kernel_rfl) (by kernel_rfl) (by kernel_rfl) (fun _ _ _ h => h) rfl ?_ (by assumption) ?_
    rotate_left
    · intro W hSw
      try dsimp only at hSw
      go_simp
      try with_reducible rfl
    try simp only [List.setIfInBounds_toArray, List.set_cons_zero, List.set_cons_succ]
    refine take_do (i := 1) (d := 5) (v := ?_) rfl rfl (by kernel_rfl) (by kernel_rfl) (by kernel_rfl) (fun _ _ _ h => h) rfl ?_ (by assumption) ?_
    rotate_left
    · intro W hSw
      try dsimp only at hSw
      go_simp
      try with_reducible rfl
    try simp only [List.setIfInBounds_toArray, List.set_cons_zero, List.set_cons_succ]
    refine take_do (i := 2) (d := 6) (v := ?_) rfl rfl (by kernel_rfl) (by kernel_rfl) (by kernel_rfl) (fun _ _ _ h => h) rfl ?_ (by assumption) ?_
    rotate_left
    · intro W hSw
      try dsimp only at hSw
      go_simp
      try with_reducible rfl
    try simp only [List.setIfInBounds_toArray, List.set_cons_zero, List.set_cons_succ]
    refine take_do (i := 3) (d := 7) (v := ?_) rfl rfl (by kernel_rfl) (by kernel_rfl) (by kernel_rfl) (fun _ _ _ h => h) rfl ?_ (by assumption) ?_
    rotate_left
    · intro W hSw
      try dsimp only at hSw
      go_simp
      try with_reducible rfl
    try simp only [List.setIfInBounds_toArray, List.set_cons_zero, List.set_cons_succ]
    refine take_do (i := 4) (d := 8) (v := ?_) rfl rfl (by kernel_rfl) (by kernel_rfl) (by kernel_rfl) (fun _ _ _ h => h) rfl ?_ (by assumption) ?_
    rotate_left
    · intro W hSw
      try dsimp only at hSw
      go_simp
      try with_reducible rfl
    try simp only [List.setIfInBounds_toArray, List.set_cons_zero, List.set_cons_succ]
    refine take_do (i := 5) (d := 9) (v := ?_) rfl rfl (by kernel_rfl) (by kernel_rfl) (by kernel_rfl) (fun _ _ _ h => h) rfl ?_ (by assumption) ?_
    rotate_left
    · intro W hSw
      try dsimp only at hSw
      go_simp
      try with_reducible rfl
    try simp only [List.setIfInBounds_toArray, List.set_cons_zero, List.set_cons_succ]
    refine take_do (i := 6) (d := 10) (v := ?_) rfl rfl (by kernel_rfl) (by kernel_rfl) (by kernel_rfl) (fun _ _ _ h => h) rfl ?_ (by assumption) ?_
    rotate_left
    · intro W hSw
      try dsimp only at hSw
      go_simp
      try with_reducible rfl
    try simp only [List.setIfInBounds_toArray, List.set_cons_zero, List.set_cons_succ]
    refine take_do (i := 7) (d := 11) (v := ?_) rfl rfl (by kernel_rfl) (by kernel_rfl) (by kernel_rfl) (fun _ _ _ h => h) rfl ?_ (by assumption) ?_
    rotate_left
    · intro W hSw
      try dsimp only at hSw
      go_simp
      try with_reducible rfl
    try simp only [List.setIfInBounds_toArray, List.set_cons_zero, List.set_cons_succ]
    refine take_do (i := 8) (d := 12) (v := ?_) rfl rfl (by kernel_rfl) (by kernel_rfl) (by kernel_rfl) (fun _ _ _ h => h) rfl ?_ (by assumption) ?_
    rotate_left
    · intro W hSw
      try dsimp only at hSw
      go_simp
      try with_reducible rfl
    try simp only [List.setIfInBounds_toArray, List.set_cons_zero, List.set_cons_succ]
    refine take_do (i := 9) (d := 13) (v := ?_) rfl rfl (by kernel_rfl) (by kernel_rfl) (by kernel_rfl) (fun _ _ _ h => h) rfl ?_ (by assumption) ?_
    rotate_left
    · intro W hSw
      try dsimp only at hSw
      go_simp
      try with_reducible rfl
    try simp only [List.setIfInBounds_toArray, List.set_cons_zero, List.set_cons_succ]
    refine take_do (i := 10) (d := 14) (v := ?_) rfl rfl (by kernel_rfl) (by kernel_rfl) (by kernel_rfl) (fun _ _ _ h => h) rfl ?_ (by assumption) ?_
    rotate_left
    · intro W hSw
      try dsimp only at hSw
      go_simp
      try with_reducible rfl
    try simp only [List.setIfInBounds_toArray, List.set_cons_zero, List.set_cons_succ]
    refine take_do (i := 11) (d := 15) (v := ?_) rfl rfl (by kernel_rfl) (by kernel_rfl) (by kernel_rfl) (fun _ _ _ h => h) rfl ?_ (by assumption) ?_
    rotate_left
    · intro W hSw
      try dsimp only at hSw
      go_simp
      try with_reducible rfl
    try simp only [List.setIfInBounds_toArray, List.set_cons_zero, List.set_cons_succ]
    refine take_do (i := 12) (d := 16) (v := ?_) rfl rfl (by kernel_rfl) (by kernel_rfl) (by kernel_rfl) (fun _ _ _ h => h) rfl ?_ (by assumption) ?_
    rotate_left
    · intro W hSw
      try dsimp only at hSw
      go_simp
      try with_reducible rfl
    try simp only [List.setIfInBounds_toArray, List.set_cons_zero, List.set_cons_succ]
    refine take_do (i := 13) (d := 17) (v := ?_) rfl rfl (by kernel_rfl) (by kernel_rfl) (by kernel_rfl) (fun _ _ _ h => h) rfl ?_ (by assumption) ?_
    rotate_left
    · intro W hSw
      try dsimp only at hSw
      go_simp
      try with_reducible rfl
    try simp only [List.setIfInBounds_toArray, List.set_cons_zero, List.set_cons_succ]
    refine take_do (i := 14) (d := 18) (v := ?_) rfl rfl (by kernel_rfl) (by kernel_rfl) (by kernel_rfl) (fun _ _ _ h => h) rfl ?_ (by assumption) ?_
    rotate_left
    · intro W hSw
      try dsimp only at hSw
      go_simp
      try with_reducible rfl
    try simp only [List.setIfInBounds_toArray, List.set_cons_zero, List.set_cons_succ]
    refine take_do (i := 15) (d := 19) (v := .agg (pfA 19 0 (-1) iw no ow 0 (-1) (-1) (-1) (-1) false)) rfl rfl (by kernel_rfl) (by kernel_rfl) (by kernel_rfl) (fun _ _ _ h => h) rfl ?_ (by assumption) ?_
    · intro W hSw
      exact built_run W 39 _ _ (by kernel_rfl)
    try simp only [List.setIfInBounds_toArray, List.set_cons_zero, List.set_cons_succ]
    refine wpAnyH_ready (rs := [16]) (by kernel_rfl) (by simp) ?_
    refine AllReadyH.cons rfl (fun K hK => ?_) AllReadyH.nil
    rw [if_pos (by kernel_rfl)]
    go_simp
    refine hK.out _ _ HS2.out (fun hHeld => ?_)
    clear hK K
    refine wpAnyH_ready (rs := [17]) (by kernel_rfl) (by simp) ?_
    refine AllReadyH.cons rfl (fun K hK => ?_) AllReadyH.nil
    rw [if_pos (by kernel_rfl)]
    refine wp_store_row 39 (.tmp 3) (.tmp 19) rfl (W1.heap.size) (pfA 19 0 (-1) iw no ow 0 (-1) (-1) (-1) (-1) false) rfl rfl 39 _ HN0.out (pfI ..) (pfZ ..) (pfA_one ..) ?_
    rw [HV.out]
    refine hK.out _ _ HS3.out (fun hHeld => ?_)
    clear hK K
    refine wpAnyH_done (by kernel_rfl) ?_ _
    go_wp2_with (first | (rw [HV2.out]; refine wpList_load_row rfl 39 (.tmp 3) rfl (W1.heap.size) rfl 39 (pfA 19 0 ni iw no ow 0 (-1) (-1) (-1) (-1) false) (0, 0) _ HM2.out Try.underlying39 rfl (pfI ..) ?_) | (refine wpList_store_row rfl 39 (.tmp 2) (.tmp 31) rfl w.heap.size (pfA 19 0 ni iw no ow 0 (-1) (-1) (-1) (-1) false) rfl rfl 39 _ HM1.out (pfI ..) (pfZ ..) (pfA_one ..) ?_))
    exact bodyPost_ret (v := .agg (pfA 19 0 ni iw no ow 0 (-1) (-1) (-1) (-1) false)) (results_cell_row Try.results15 _ _ w.heap.size 39 _ (0, 0) _ rfl (setRow_same HM1.out _) Try.underlying39 rfl (pfI ..)) rfl ⟨rfl, bel_setRow HB2.out (Nat.le_refl _) _⟩
end Go.Proofs.Ytondbhdlccpklaa
