import Derived.Test.YtondbhdlccpklaaQWiAM9

/- SessionWindows: all that is under way comes. -/
namespace Go.Proofs.Ytondbhdlccpklaa
open Go.RowKit Go.Maps
set_option linter.unusedVariables false
set_option linter.unusedSimpArgs false

/-- as WN, the other side as it is -/
def WX (z : Nat) (w0 w : World) (kx gx ky gy N : Nat) (sy : Sn) (vy : Value) (Y : List It) (n : Nat) : Prop := ∃ sx vx X, X.length = n ∧ Wn z w kx gx ky gy N sx sy vx vy X Y ∧ Win (N : Int) sx sy X Y ∧ Below z w0 w ∧ z ≤ w.heap.size
/-- how long what is under way is -/
def wlen (w : World) (k : Nat) : Nat := match w.cell? ⟨k, 1, none⟩ with
  | some (.slice _ n _) => n
  | _ => 0
section
variable {z : Nat} {w0 : World} {kx gx ky gy N : Nat} {sy : Sn} {vy : Value} {Y : List It}
theorem WX.len {w : World} {n : Nat} (h : WX z w0 w kx gx ky gy N sy vy Y n) : wlen w kx = n := by
  obtain ⟨sx, vx, X, hn, h1, _⟩ := h
  obtain ⟨a, c, rfl⟩ := h1.x.wy.shape
  unfold wlen
  rw [h1.x.facts.2.1]
  exact hn
set_option maxRecDepth 100000 in
set_option maxHeartbeats 8000000 in
theorem come_any (w : World) (n : Nat) (h : WX z w0 w kx gx ky gy N sy vy Y n) (hN : N ≤ 1000000000) :
    Calls Try.prog 23 #[.pointer (some ⟨kx, 0, none⟩)] w fun e w' => e = .returned (.bool true) ∧ WX z w0 w' kx gx ky gy N sy vy Y 0 := by
  have HX0 := hide h
  clear h
  go_enter Try.func23, Try.ntmps23
  go_wp2
  go_loopw [] (fun wr => ∃ n, WX z w0 wr kx gx ky gy N sy vy Y n) (fun wr => wlen wr kx)
  case atStart => exact ⟨n, HX0.out⟩
  case round =>
    clear HX0
    obtain ⟨n', hwx⟩ := hrel
    have hlen := hwx.len
    have HLen := hide hlen
    obtain ⟨sx, vx, X, hn, h, hw, hb, hz⟩ := hwx
    obtain ⟨c0, c1, c2, c3⟩ := h.x.facts
    have HB0 := hide hb
    have HZ0 := hide hz
    match X, hn, h, hw with
    | [], hn, h, hw =>
      obtain ⟨ax, cx, hsh⟩ : ∃ ax cx, vx = Value.slice ax 0 cx := h.x.wy.shape
      rw [hsh] at c1
      have HW := hide h
      have HWin := hide hw
      clear h hw hlen hb hz hn hsh
      go_wp2
      go_ret
      exact ⟨rfl, sx, vx, [], rfl, HW.out, HWin.out, HB0.out, HZ0.out⟩
    | none :: X', hn, h, hw =>
      obtain ⟨g, off, cap, hv, hcap, hcm, hgl, hrg, hwy, hwy0⟩ := h.x.wy.head
      rw [hv] at c1
      have hnn : n' = X'.length + 1 := by rw [← hn]; rfl
      clear hn
      by_cases hc1 : cap - 1 = 0
      · obtain ⟨V1, hV1⟩ : ∃ V1, wr.alloc (.cells (itA (none)) 39) = V1 := ⟨_, rfl⟩
        have hb1 : Below wr.heap.size wr V1 := hV1 ▸ bel1 (Below.refl _ _) (Nat.le_refl _) _
        have h1 := h.below hb1
        have hwy1 : Wy V1 z (.slice (some ⟨g, off, none⟩) X'.length 0) X' := (hwy0 hc1).at fun j e => hb1.block j ((hwy0 hc1).lt e).2
        have hp := h1.pop hwy1 (by rw [hv]; rfl) (by simp)
        obtain ⟨V2, hV2⟩ : ∃ V2, V1.setCell ⟨kx, 1, none⟩ (.slice (some ⟨g, off, none⟩) X'.length 0) = V2 := ⟨_, rfl⟩
        rw [hV2] at hp
        obtain ⟨d0, d1, d2, d3⟩ := h1.x.facts
        rw [hv] at d1
        have HV1 := hide hV1
        have HV2 := hide hV2
        have HN1 : Hid (V1.heap[wr.heap.size]? = some (.cells (itA (none)) 39 (0, 0))) := hV1 ▸ heap_alloc_last wr _
        have hPk : wr.heap.size ≠ kx := fun e => by have := h.x.lt; omega
        have HN2 : Hid (V2.heap[wr.heap.size]? = some (.cells (itA (none)) 39 (0, 0))) := hV2 ▸ (blk_set_other _ _ _ _ hPk).trans HN1.out
        have H2 := hide hp.1
        have HB2 := hide (hp.2 w0 (HB0.out.trans (hb1.mono HZ0.out)) (Nat.le_trans HZ0.out hb1.size))
        have hs1 : V1.heap.size = wr.heap.size + 1 := by rw [← hV1]; simp
        have hs2 : V2.heap.size = V1.heap.size := by rw [← hV2]; simp
        have HZ2 : Hid (z ≤ V2.heap.size) := by show _ ≤ _; have := HZ0.out; omega
        have kd : V2.cell? ⟨wr.heap.size, 0, none⟩ = some (.int .i64 20) := cellOf HN2.out 0 _ (by kernel_rfl)
        obtain ⟨g0, g1, g2, g3⟩ := hp.1.x.facts
        have HRg := hide hrg
        have hPl : wr.heap.size < V2.heap.size := by omega
        have hgt := hw.got
        have HG := hide (got_yes gx sx V2 hp.1.x.sb hw.oa.1 hgt.1)
        have HWg := hide hgt.2
        clear h hw hb hz hlen hv hrg hwy hwy0 hwy1 hV1 hV2 hb1 h1 hp hPk c2 g1 g2 hs1 hs2 hgt
        go_wp2_with (first | rw [HV2.out] | (refine wpList_load_mid rfl 39 (.tmp 15) rfl g off rfl (itL (none)) _ HRg.out Try.underlying39 rfl (by rw [it_size (none)]; rfl) ?_) | (refine wpList_store_row rfl 39 (.tmp 3) (.tmp 16) rfl wr.heap.size (itA (none)) rfl rfl 39 _ (heap_alloc_last wr _) (it_size ..) (it_zero ..) (it_one ..) ?_; rw [World.setRow_alloc_new, HV1.out]))
        refine HG.out.mono ?_
        rintro e3 w3 ⟨rfl, s3, k3⟩
        have h3 := H2.out.turn s3 k3 rfl rfl
        have hfin : WX z w0 w3 kx gx ky gy N sy vy Y X'.length := ⟨sx.got, _, X', rfl, h3.1, HWg.out, h3.2 w0 HB2.out HZ2.out, Nat.le_trans HZ2.out k3.size⟩
        have HF := hide hfin
        clear h3 s3 k3 hfin
        go_wp2
        go_roundw
        case rel => exact ⟨_, HF.out⟩
        case measure => rw [HLen.out, HF.out.len]; omega
      · obtain ⟨V1, hV1⟩ : ∃ V1, wr.alloc (.cells (itA (none)) 39) = V1 := ⟨_, rfl⟩
        have hb1 : Below wr.heap.size wr V1 := hV1 ▸ bel1 (Below.refl _ _) (Nat.le_refl _) _
        have h1 := h.below hb1
        have hwy1 : Wy V1 z (.slice (some ⟨g, off + 128, none⟩) X'.length (cap - 1)) X' := hwy.at fun j e => hb1.block j (hwy.lt e).2
        have hp := h1.pop hwy1 (by rw [hv]; rfl) (by simp)
        obtain ⟨V2, hV2⟩ : ∃ V2, V1.setCell ⟨kx, 1, none⟩ (.slice (some ⟨g, off + 128, none⟩) X'.length (cap - 1)) = V2 := ⟨_, rfl⟩
        rw [hV2] at hp
        obtain ⟨d0, d1, d2, d3⟩ := h1.x.facts
        rw [hv] at d1
        have HV1 := hide hV1
        have HV2 := hide hV2
        have HN1 : Hid (V1.heap[wr.heap.size]? = some (.cells (itA (none)) 39 (0, 0))) := hV1 ▸ heap_alloc_last wr _
        have hPk : wr.heap.size ≠ kx := fun e => by have := h.x.lt; omega
        have HN2 : Hid (V2.heap[wr.heap.size]? = some (.cells (itA (none)) 39 (0, 0))) := hV2 ▸ (blk_set_other _ _ _ _ hPk).trans HN1.out
        have H2 := hide hp.1
        have HB2 := hide (hp.2 w0 (HB0.out.trans (hb1.mono HZ0.out)) (Nat.le_trans HZ0.out hb1.size))
        have hs1 : V1.heap.size = wr.heap.size + 1 := by rw [← hV1]; simp
        have hs2 : V2.heap.size = V1.heap.size := by rw [← hV2]; simp
        have HZ2 : Hid (z ≤ V2.heap.size) := by show _ ≤ _; have := HZ0.out; omega
        have kd : V2.cell? ⟨wr.heap.size, 0, none⟩ = some (.int .i64 20) := cellOf HN2.out 0 _ (by kernel_rfl)
        obtain ⟨g0, g1, g2, g3⟩ := hp.1.x.facts
        have HRg := hide hrg
        have hPl : wr.heap.size < V2.heap.size := by omega
        have hgt := hw.got
        have HG := hide (got_yes gx sx V2 hp.1.x.sb hw.oa.1 hgt.1)
        have HWg := hide hgt.2
        clear h hw hb hz hlen hv hrg hwy hwy0 hwy1 hV1 hV2 hb1 h1 hp hPk c2 g1 g2 hs1 hs2 hgt
        go_wp2_with (first | rw [HV2.out] | (refine wpList_load_mid rfl 39 (.tmp 15) rfl g off rfl (itL (none)) _ HRg.out Try.underlying39 rfl (by rw [it_size (none)]; rfl) ?_) | (refine wpList_store_row rfl 39 (.tmp 3) (.tmp 16) rfl wr.heap.size (itA (none)) rfl rfl 39 _ (heap_alloc_last wr _) (it_size ..) (it_zero ..) (it_one ..) ?_; rw [World.setRow_alloc_new, HV1.out]))
        refine HG.out.mono ?_
        rintro e3 w3 ⟨rfl, s3, k3⟩
        have h3 := H2.out.turn s3 k3 rfl rfl
        have hfin : WX z w0 w3 kx gx ky gy N sy vy Y X'.length := ⟨sx.got, _, X', rfl, h3.1, HWg.out, h3.2 w0 HB2.out HZ2.out, Nat.le_trans HZ2.out k3.size⟩
        have HF := hide hfin
        clear h3 s3 k3 hfin
        go_wp2
        go_roundw
        case rel => exact ⟨_, HF.out⟩
        case measure => rw [HLen.out, HF.out.len]; omega
    | some fl :: X', hn, h, hw =>
      obtain ⟨g, off, cap, hv, hcap, hcm, hgl, hrg, hwy, hwy0⟩ := h.x.wy.head
      rw [hv] at c1
      have hnn : n' = X'.length + 1 := by rw [← hn]; rfl
      clear hn
      by_cases hc1 : cap - 1 = 0
      · obtain ⟨V1, hV1⟩ : ∃ V1, wr.alloc (.cells (itA (some fl)) 39) = V1 := ⟨_, rfl⟩
        have hb1 : Below wr.heap.size wr V1 := hV1 ▸ bel1 (Below.refl _ _) (Nat.le_refl _) _
        have h1 := h.below hb1
        have hwy1 : Wy V1 z (.slice (some ⟨g, off, none⟩) X'.length 0) X' := (hwy0 hc1).at fun j e => hb1.block j ((hwy0 hc1).lt e).2
        have hp := h1.pop hwy1 (by rw [hv]; rfl) (by simp)
        obtain ⟨V2, hV2⟩ : ∃ V2, V1.setCell ⟨kx, 1, none⟩ (.slice (some ⟨g, off, none⟩) X'.length 0) = V2 := ⟨_, rfl⟩
        rw [hV2] at hp
        obtain ⟨d0, d1, d2, d3⟩ := h1.x.facts
        rw [hv] at d1
        have HV1 := hide hV1
        have HV2 := hide hV2
        have HN1 : Hid (V1.heap[wr.heap.size]? = some (.cells (itA (some fl)) 39 (0, 0))) := hV1 ▸ heap_alloc_last wr _
        have hPk : wr.heap.size ≠ kx := fun e => by have := h.x.lt; omega
        have HN2 : Hid (V2.heap[wr.heap.size]? = some (.cells (itA (some fl)) 39 (0, 0))) := hV2 ▸ (blk_set_other _ _ _ _ hPk).trans HN1.out
        have H2 := hide hp.1
        have HB2 := hide (hp.2 w0 (HB0.out.trans (hb1.mono HZ0.out)) (Nat.le_trans HZ0.out hb1.size))
        have hs1 : V1.heap.size = wr.heap.size + 1 := by rw [← hV1]; simp
        have hs2 : V2.heap.size = V1.heap.size := by rw [← hV2]; simp
        have HZ2 : Hid (z ≤ V2.heap.size) := by show _ ≤ _; have := HZ0.out; omega
        have kd : V2.cell? ⟨wr.heap.size, 0, none⟩ = some (.int .i64 19) := cellOf HN2.out 0 _ (by kernel_rfl)
        obtain ⟨g0, g1, g2, g3⟩ := hp.1.x.facts
        have HRg := hide hrg
        have hPl : wr.heap.size < V2.heap.size := by omega
        obtain ⟨hok, hah, hwf⟩ := hw.flow (by omega)
        have hA : PfB (itA (some fl)) 19 fl.ni fl.iw fl.no fl.ow 0 := by
          show PfB fl.flow _ _ _ _ _ _
          rw [flow_of hok]
          exact pfA_pf ..
        have hbd : Below V2.heap.size V2 V2.drew := ⟨rfl, rfl, rfl, Nat.le_refl _, fun _ _ => rfl⟩
        have h2d := hp.1.below hbd
        have hg2 : V2.heap[gx]? = some (.cells sx.cells 92 (0, 0)) := hp.1.x.sb
        have hPg : wr.heap.size ≠ gx := fun e => by
          have := HN2.out
          rw [e] at this
          have := this.symm.trans hg2
          simp at this
        have HG : Hid (Calls Try.prog 24 #[.pointer (some ⟨gx, 0, none⟩), .agg (itA (some fl))] V2.drew fun e w3 => e = .returned (.int .i64 0) ∧ Hid (SB w3 gx (sx.flowed fl.ni fl.iw fl.no fl.ow) ∧ Kp (fun k => k = gx) V2.drew w3) ∧ (w3.cell? ⟨kx, 0, none⟩ = some (.pointer (some ⟨gx, 0, none⟩)) ∧ w3.heap[wr.heap.size]? = some (.cells (itA (some fl)) 39 (0, 0)))) :=
          (flow_yes gx sx (itA (some fl)) 19 fl.ni fl.iw fl.no fl.ow 0 V2.drew h2d.x.sb hw.oa.2 hA (flow_may hok) hah).mono fun e w3 ⟨e1, s1, k1⟩ => ⟨e1, ⟨s1, k1⟩, (k1.cell (b := kx) (o := 0) g3 hp.1.x.apart.1).trans g0, (k1.block (k := wr.heap.size) hPl hPg).trans HN2.out⟩
        have HS2 : Hid (V2.drew.cell? ⟨kx, 0, none⟩ = some (.pointer (some ⟨gx, 0, none⟩)) ∧ V2.drew.heap[wr.heap.size]? = some (.cells (itA (some fl)) 39 (0, 0))) := ⟨g0, HN2.out⟩
        have H2d := hide h2d
        have HWf := hide hwf
        clear h hw hb hz hlen hv hrg hwy hwy0 hwy1 hV1 hV2 hb1 h1 hp hPk c2 g1 g2 hs1 hs2 hok hah hwf hA hbd h2d hg2 hPg
        go_wp2_with (first | rw [HV2.out] | (refine wpList_load_mid rfl 39 (.tmp 15) rfl g off rfl (itL (some fl)) _ HRg.out Try.underlying39 rfl (by rw [it_size (some fl)]; rfl) ?_) | (refine wpList_store_row rfl 39 (.tmp 3) (.tmp 16) rfl wr.heap.size (itA (some fl)) rfl rfl 39 _ (heap_alloc_last wr _) (it_size ..) (it_zero ..) (it_one ..) ?_; rw [World.setRow_alloc_new, HV1.out]))
        refine wp_region_held_drew (S := fun W => W.cell? ⟨kx, 0, none⟩ = some (.pointer (some ⟨gx, 0, none⟩)) ∧ W.heap[wr.heap.size]? = some (.cells (itA (some fl)) 39 (0, 0))) (by kernel_rfl) HS2.out (fun hHeld => ?_)
        refine take_do (i := 0) (d := 33) (v := ?_) rfl rfl (by kernel_rfl) (by kernel_rfl) (by kernel_rfl) (fun _ _ _ h => h) rfl ?_ (by assumption) ?_
        rotate_left
        · intro W hSw
          try dsimp only at hSw
          go_simp
          try with_reducible rfl
        try simp only [List.setIfInBounds_toArray, List.set_cons_zero, List.set_cons_succ]
        refine take_do (i := 1) (d := 34) (v := ?_) rfl rfl (by kernel_rfl) (by kernel_rfl) (by kernel_rfl) (fun _ _ _ h => h) rfl ?_ (by assumption) ?_
        rotate_left
        · intro W hSw
          try dsimp only at hSw
          go_simp
          try with_reducible rfl
        try simp only [List.setIfInBounds_toArray, List.set_cons_zero, List.set_cons_succ]
        refine take_do (i := 2) (d := 35) (v := ?_) rfl rfl (by kernel_rfl) (by kernel_rfl) (by kernel_rfl) (fun _ _ _ h => h) rfl ?_ (by assumption) ?_
        rotate_left
        · intro W hSw
          try dsimp only at hSw
          go_simp
          try with_reducible rfl
        try simp only [List.setIfInBounds_toArray, List.set_cons_zero, List.set_cons_succ]
        refine take_do (i := 3) (d := 36) (v := ?_) rfl rfl (by kernel_rfl) (by kernel_rfl) (by kernel_rfl) (fun _ _ _ h => h) rfl ?_ (by assumption) ?_
        rotate_left
        · intro W hSw
          try dsimp only at hSw
          go_simp
          try with_reducible rfl
        try simp only [List.setIfInBounds_toArray, List.set_cons_zero, List.set_cons_succ]
        refine take_do (i := 4) (d := 37) (v := ?_) rfl rfl (by kernel_rfl) (by kernel_rfl) (by kernel_rfl) (fun _ _ _ h => h) rfl ?_ (by assumption) ?_
        rotate_left
        · intro W hSw
          refine row_run W _ 39 (.tmp 3) ?_ wr.heap.size (itA (some fl)) 39 (0, 0) ?_ hSw.2 _ Try.underlying39 rfl (it_size ..) <;> rfl
        try simp only [List.setIfInBounds_toArray, List.set_cons_zero, List.set_cons_succ]
        refine wpAnyH_ready (rs := [5]) (by kernel_rfl) (by simp) ?_
        refine AllReadyH.cons rfl (fun K hK => ?_) AllReadyH.nil
        go_simp
        go_wp2_with (go_at_call 24; refine HG.out.mono ?_; rintro e3 w3 ⟨rfl, hM, hs3⟩)
        refine hK.out _ _ hs3 (fun hHeld => ?_)
        clear hK K
        try simp only [Act.put, List.setIfInBounds_toArray, List.set_cons_zero, List.set_cons_succ]
        refine take_do (i := 6) (d := 4) (v := ?_) rfl rfl (by kernel_rfl) (by kernel_rfl) (by kernel_rfl) (fun _ _ _ h => h) rfl ?_ (by assumption) ?_
        rotate_left
        · intro W hSw
          try dsimp only at hSw
          go_simp
          try with_reducible rfl
        try simp only [List.setIfInBounds_toArray, List.set_cons_zero, List.set_cons_succ]
        refine wpAnyH_done (by kernel_rfl) ?_ _
        have h3 := H2d.out.turn hM.out.1 hM.out.2 rfl rfl
        have hfin : WX z w0 w3 kx gx ky gy N sy vy Y X'.length := ⟨_, _, X', rfl, h3.1, HWf.out, h3.2 w0 ⟨HB2.out.os, HB2.out.tape, HB2.out.output, HB2.out.size, HB2.out.block⟩ HZ2.out, Nat.le_trans HZ2.out hM.out.2.size⟩
        have HF := hide hfin
        clear h3 hM hfin hs3
        go_wp2
        go_roundw
        case rel => exact ⟨_, HF.out⟩
        case measure => rw [HLen.out, HF.out.len]; omega
      · obtain ⟨V1, hV1⟩ : ∃ V1, wr.alloc (.cells (itA (some fl)) 39) = V1 := ⟨_, rfl⟩
        have hb1 : Below wr.heap.size wr V1 := hV1 ▸ bel1 (Below.refl _ _) (Nat.le_refl _) _
        have h1 := h.below hb1
        have hwy1 : Wy V1 z (.slice (some ⟨g, off + 128, none⟩) X'.length (cap - 1)) X' := hwy.at fun j e => hb1.block j (hwy.lt e).2
        have hp := h1.pop hwy1 (by rw [hv]; rfl) (by simp)
        obtain ⟨V2, hV2⟩ : ∃ V2, V1.setCell ⟨kx, 1, none⟩ (.slice (some ⟨g, off + 128, none⟩) X'.length (cap - 1)) = V2 := ⟨_, rfl⟩
        rw [hV2] at hp
        obtain ⟨d0, d1, d2, d3⟩ := h1.x.facts
        rw [hv] at d1
        have HV1 := hide hV1
        have HV2 := hide hV2
        have HN1 : Hid (V1.heap[wr.heap.size]? = some (.cells (itA (some fl)) 39 (0, 0))) := hV1 ▸ heap_alloc_last wr _
        have hPk : wr.heap.size ≠ kx := fun e => by have := h.x.lt; omega
        have HN2 : Hid (V2.heap[wr.heap.size]? = some (.cells (itA (some fl)) 39 (0, 0))) := hV2 ▸ (blk_set_other _ _ _ _ hPk).trans HN1.out
        have H2 := hide hp.1
        have HB2 := hide (hp.2 w0 (HB0.out.trans (hb1.mono HZ0.out)) (Nat.le_trans HZ0.out hb1.size))
        have hs1 : V1.heap.size = wr.heap.size + 1 := by rw [← hV1]; simp
        have hs2 : V2.heap.size = V1.heap.size := by rw [← hV2]; simp
        have HZ2 : Hid (z ≤ V2.heap.size) := by show _ ≤ _; have := HZ0.out; omega
        have kd : V2.cell? ⟨wr.heap.size, 0, none⟩ = some (.int .i64 19) := cellOf HN2.out 0 _ (by kernel_rfl)
        obtain ⟨g0, g1, g2, g3⟩ := hp.1.x.facts
        have HRg := hide hrg
        have hPl : wr.heap.size < V2.heap.size := by omega
        obtain ⟨hok, hah, hwf⟩ := hw.flow (by omega)
        have hA : PfB (itA (some fl)) 19 fl.ni fl.iw fl.no fl.ow 0 := by
          show PfB fl.flow _ _ _ _ _ _
          rw [flow_of hok]
          exact pfA_pf ..
        have hbd : Below V2.heap.size V2 V2.drew := ⟨rfl, rfl, rfl, Nat.le_refl _, fun _ _ => rfl⟩
        have h2d := hp.1.below hbd
        have hg2 : V2.heap[gx]? = some (.cells sx.cells 92 (0, 0)) := hp.1.x.sb
        have hPg : wr.heap.size ≠ gx := fun e => by
          have := HN2.out
          rw [e] at this
          have := this.symm.trans hg2
          simp at this
        have HG : Hid (Calls Try.prog 24 #[.pointer (some ⟨gx, 0, none⟩), .agg (itA (some fl))] V2.drew fun e w3 => e = .returned (.int .i64 0) ∧ Hid (SB w3 gx (sx.flowed fl.ni fl.iw fl.no fl.ow) ∧ Kp (fun k => k = gx) V2.drew w3) ∧ (w3.cell? ⟨kx, 0, none⟩ = some (.pointer (some ⟨gx, 0, none⟩)) ∧ w3.heap[wr.heap.size]? = some (.cells (itA (some fl)) 39 (0, 0)))) :=
          (flow_yes gx sx (itA (some fl)) 19 fl.ni fl.iw fl.no fl.ow 0 V2.drew h2d.x.sb hw.oa.2 hA (flow_may hok) hah).mono fun e w3 ⟨e1, s1, k1⟩ => ⟨e1, ⟨s1, k1⟩, (k1.cell (b := kx) (o := 0) g3 hp.1.x.apart.1).trans g0, (k1.block (k := wr.heap.size) hPl hPg).trans HN2.out⟩
        have HS2 : Hid (V2.drew.cell? ⟨kx, 0, none⟩ = some (.pointer (some ⟨gx, 0, none⟩)) ∧ V2.drew.heap[wr.heap.size]? = some (.cells (itA (some fl)) 39 (0, 0))) := ⟨g0, HN2.out⟩
        have H2d := hide h2d
        have HWf := hide hwf
        clear h hw hb hz hlen hv hrg hwy hwy0 hwy1 hV1 hV2 hb1 h1 hp hPk c2 g1 g2 hs1 hs2 hok hah hwf hA hbd h2d hg2 hPg
        go_wp2_with (first | rw [HV2.out] | (refine wpList_load_mid rfl 39 (.tmp 15) rfl g off rfl (itL (some fl)) _ HRg.out Try.underlying39 rfl (by rw [it_size (some fl)]; rfl) ?_) | (refine wpList_store_row rfl 39 (.tmp 3) (.tmp 16) rfl wr.heap.size (itA (some fl)) rfl rfl 39 _ (heap_alloc_last wr _) (it_size ..) (it_zero ..) (it_one ..) ?_; rw [World.setRow_alloc_new, HV1.out]))
        refine wp_region_held_drew (S := fun W => W.cell? ⟨kx, 0, none⟩ = some (.pointer (some ⟨gx, 0, none⟩)) ∧ W.heap[wr.heap.size]? = some (.cells (itA (some fl)) 39 (0, 0))) (by kernel_rfl) HS2.out (fun hHeld => ?_)
        refine take_do (i := 0) (d := 33) (v := ?_) rfl rfl (by kernel_rfl) (by kernel_rfl) (by kernel_rfl) (fun _ _ _ h => h) rfl ?_ (by assumption) ?_
        rotate_left
        · intro W hSw
          try dsimp only at hSw
          go_simp
          try with_reducible rfl
        try simp only [List.setIfInBounds_toArray, List.set_cons_zero, List.set_cons_succ]
        refine take_do (i := 1) (d := 34) (v := ?_) rfl rfl (by kernel_rfl) (by kernel_rfl) (by kernel_rfl) (fun _ _ _ h => h) rfl ?_ (by assumption) ?_
        rotate_left
        · intro W hSw
          try dsimp only at hSw
          go_simp
          try with_reducible rfl
        try simp only [List.setIfInBounds_toArray, List.set_cons_zero, List.set_cons_succ]
        refine take_do (i := 2) (d := 35) (v := ?_) rfl rfl (by kernel_rfl) (by kernel_rfl) (by kernel_rfl) (fun _ _ _ h => h) rfl ?_ (by assumption) ?_
        rotate_left
        · intro W hSw
          try dsimp only at hSw
          go_simp
          try with_reducible rfl
        try simp only [List.setIfInBounds_toArray, List.set_cons_zero, List.set_cons_succ]
        refine take_do (i := 3) (d := 36) (v := ?_) rfl rfl (by kernel_rfl) (by kernel_rfl) (by kernel_rfl) (fun _ _ _ h => h) rfl ?_ (by assumption) ?_
        rotate_left
        · intro W hSw
          try dsimp only at hSw
          go_simp
          try with_reducible rfl
        try simp only [List.setIfInBounds_toArray, List.set_cons_zero, List.set_cons_succ]
        refine take_do (i := 4) (d := 37) (v := ?_) rfl rfl (by kernel_rfl) (by kernel_rfl) (by kernel_rfl) (fun _ _ _ h => h) rfl ?_ (by assumption) ?_
        rotate_left
        · intro W hSw
          refine row_run W _ 39 (.tmp 3) ?_ wr.heap.size (itA (some fl)) 39 (0, 0) ?_ hSw.2 _ Try.underlying39 rfl (it_size ..) <;> rfl
        try simp only [List.setIfInBounds_toArray, List.set_cons_zero, List.set_cons_succ]
        refine wpAnyH_ready (rs := [5]) (by kernel_rfl) (by simp) ?_
        refine AllReadyH.cons rfl (fun K hK => ?_) AllReadyH.nil
        go_simp
        go_wp2_with (go_at_call 24; refine HG.out.mono ?_; rintro e3 w3 ⟨rfl, hM, hs3⟩)
        refine hK.out _ _ hs3 (fun hHeld => ?_)
        clear hK K
        try simp only [Act.put, List.setIfInBounds_toArray, List.set_cons_zero, List.set_cons_succ]
        refine take_do (i := 6) (d := 4) (v := ?_) rfl rfl (by kernel_rfl) (by kernel_rfl) (by kernel_rfl) (fun _ _ _ h => h) rfl ?_ (by assumption) ?_
        rotate_left
        · intro W hSw
          try dsimp only at hSw
          go_simp
          try with_reducible rfl
        try simp only [List.setIfInBounds_toArray, List.set_cons_zero, List.set_cons_succ]
        refine wpAnyH_done (by kernel_rfl) ?_ _
        have h3 := H2d.out.turn hM.out.1 hM.out.2 rfl rfl
        have hfin : WX z w0 w3 kx gx ky gy N sy vy Y X'.length := ⟨_, _, X', rfl, h3.1, HWf.out, h3.2 w0 ⟨HB2.out.os, HB2.out.tape, HB2.out.output, HB2.out.size, HB2.out.block⟩ HZ2.out, Nat.le_trans HZ2.out hM.out.2.size⟩
        have HF := hide hfin
        clear h3 hM hfin hs3
        go_wp2
        go_roundw
        case rel => exact ⟨_, HF.out⟩
        case measure => rw [HLen.out, HF.out.len]; omega
end
end Go.Proofs.Ytondbhdlccpklaa
