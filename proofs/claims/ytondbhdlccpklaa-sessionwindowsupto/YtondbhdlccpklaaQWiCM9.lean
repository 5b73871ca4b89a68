import Derived.Test.YtondbhdlccpklaaQWiAM9

/- SessionWindows: act: a window is widened, something comes. -/
namespace Go.Proofs.Ytondbhdlccpklaa
open Go.RowKit Go.Maps
set_option linter.unusedVariables false
set_option linter.unusedSimpArgs false

section
variable {z : Nat} {w w0 : World} {kx gx ky gy N : Nat} {sx sy : Sn} {vx vy : Value} {X Y : List It}
set_option maxRecDepth 100000 in
set_option maxHeartbeats 8000000 in
theorem act_got (o : Opd) (h : Wn z w kx gx ky gy N sx sy vx vy X Y) (hw : Win (N : Int) sx sy X Y) (hb : Below z w0 w) (hz : z ≤ w.heap.size) (hN : N ≤ 1000000000) (hk0 : ¬ Int.tmod o.k 5 = 0) (hk1 : ¬ Int.tmod o.k 5 = 1) (hc : ¬ Int.tmod o.k 5 = 3 ∨ (Int.tmod o.k 5 = 3 ∧ o.a < 0) ∨ (Int.tmod o.k 5 = 3 ∧ 0 ≤ o.a ∧ 4294967295 < o.a)) {X' : List It} (hX : X = none :: X') :
    Calls Try.prog 22 #[.pointer (some ⟨kx, 0, none⟩), .pointer (some ⟨ky, 0, none⟩), .agg o.cells] w fun e w' => e = .returned (.bool true) ∧ WN z w0 w' kx gx ky gy (N + 1) := by
  unfold Opd.cells
  obtain ⟨k, a, b, c, d, e, t, f⟩ := o
  dsimp only at *
  obtain ⟨V, hV⟩ : ∃ V, w.alloc (.cells #[.int .i64 k, .int .i64 a, .int .i64 b, .int .i64 c, .int .i64 d, .int .i64 e, .string t, .bool f] 24) = V := ⟨_, rfl⟩
  have hbV : Below w.heap.size w V := hV ▸ bel1 (Below.refl _ _) (Nat.le_refl _) _
  have HV := hide hV
  have hW := h.below hbV
  have HW := hide hW
  have HWin := hide hw
  have HB0 : Hid (Below z w0 V) := hb.trans (hbV.mono hz)
  have HZ0 : Hid (z ≤ V.heap.size) := Nat.le_trans hz hbV.size
  have hl0 : w.heap.size < V.heap.size := by rw [← hV]; simp
  have ck : V.cell? ⟨w.heap.size, 0, none⟩ = some (.int .i64 k) := by rw [← hV]; exact cellOf (heap_alloc_last w _) 0 _ rfl
  have ca : V.cell? ⟨w.heap.size, 1, none⟩ = some (.int .i64 a) := by rw [← hV]; exact cellOf (heap_alloc_last w _) 1 _ rfl
  obtain ⟨c0, c1, c2, c3⟩ := hW.x.facts
  obtain ⟨g, off, cap, hv, hcap, hcm, hgl, hrg, hwy, hwy0⟩ := (hX ▸ hW.x.wy).head
  rw [hv] at c1
  rcases hc with hc | ⟨hc, hc2⟩ | ⟨hc, hc2, hc3⟩
  all_goals
    by_cases hc1 : cap - 1 = 0
    · obtain ⟨V1, hV1⟩ : ∃ V1, V.alloc (.cells (itA (none)) 39) = V1 := ⟨_, rfl⟩
      have hb1 : Below V.heap.size V V1 := hV1 ▸ bel1 (Below.refl _ _) (Nat.le_refl _) _
      have h1 := hW.below hb1
      have hwy1 : Wy V1 z (.slice (some ⟨g, off, none⟩) X'.length 0) X' := (hwy0 hc1).at fun j e => hb1.block j ((hwy0 hc1).lt e).2
      have hp := h1.pop hwy1 (by rw [hv]; rfl) (by rw [hX]; simp)
      obtain ⟨V2, hV2⟩ : ∃ V2, V1.setCell ⟨kx, 1, none⟩ (.slice (some ⟨g, off, none⟩) X'.length 0) = V2 := ⟨_, rfl⟩
      rw [hV2] at hp
      obtain ⟨d0, d1, d2, d3⟩ := h1.x.facts
      rw [hv] at d1
      have HV1 := hide hV1
      have HV2 := hide hV2
      have HN1 : Hid (V1.heap[V.heap.size]? = some (.cells (itA (none)) 39 (0, 0))) := hV1 ▸ heap_alloc_last V _
      have hPk : V.heap.size ≠ kx := fun e => by have := hW.x.lt; omega
      have HN2 : Hid (V2.heap[V.heap.size]? = some (.cells (itA (none)) 39 (0, 0))) := hV2 ▸ (blk_set_other _ _ _ _ hPk).trans HN1.out
      have H2 := hide hp.1
      have HB2 := hide (hp.2 w0 (HB0.out.trans (hb1.mono HZ0.out)) (Nat.le_trans HZ0.out hb1.size))
      have hs1 : V1.heap.size = V.heap.size + 1 := by rw [← hV1]; simp
      have hs2 : V2.heap.size = V1.heap.size := by rw [← hV2]; simp
      have HZ2 : Hid (z ≤ V2.heap.size) := by show _ ≤ _; have := HZ0.out; omega
      have kd : V2.cell? ⟨V.heap.size, 0, none⟩ = some (.int .i64 20) := cellOf HN2.out 0 _ (by kernel_rfl)
      obtain ⟨g0, g1, g2, g3⟩ := hp.1.x.facts
      have HRg := hide hrg
      have hPl : V.heap.size < V2.heap.size := by omega
      have hgt := (hX ▸ hw : Win (N : Int) sx sy (none :: X') Y).got
      have HG := hide (got_yes gx sx V2 hp.1.x.sb hw.oa.1 hgt.1)
      have HWg := hide hgt.2
      clear hV hbV hW h hw hb hz hX hv hrg hwy hwy0 hwy1 hV1 hV2 hb1 h1 hp hPk c2 g1 g2 hs1 hs2 hgt
      go_enter Try.func22, Try.ntmps22
      go_wp2_with (first | rw [HV.out] | rw [HV2.out] | (refine wpList_load_mid rfl 39 (.tmp 104) rfl g off rfl (itL (none)) _ HRg.out Try.underlying39 rfl (by rw [it_size (none)]; rfl) ?_) | (refine wpList_store_row rfl 39 (.tmp 13) (.tmp 105) rfl V.heap.size (itA (none)) rfl rfl 39 _ (heap_alloc_last V _) (it_size ..) (it_zero ..) (it_one ..) ?_; rw [World.setRow_alloc_new, HV1.out]))
      refine HG.out.mono ?_
      rintro e3 w3 ⟨rfl, s3, k3⟩
      have h3 := H2.out.turn s3 k3 rfl rfl
      have H3 := hide h3.1
      have HB3 := hide (h3.2 w0 HB2.out HZ2.out)
      have HZ3 : Hid (z ≤ w3.heap.size) := Nat.le_trans HZ2.out k3.size
      clear h3 s3 k3
      go_wp2
      go_ret
      exact ⟨rfl, sx.got, sy, _, vy, X', Y, H3.out.more (by omega), by have := HWg.out.more; push_cast; exact this, HB3.out, HZ3.out⟩
    · obtain ⟨V1, hV1⟩ : ∃ V1, V.alloc (.cells (itA (none)) 39) = V1 := ⟨_, rfl⟩
      have hb1 : Below V.heap.size V V1 := hV1 ▸ bel1 (Below.refl _ _) (Nat.le_refl _) _
      have h1 := hW.below hb1
      have hwy1 : Wy V1 z (.slice (some ⟨g, off + 128, none⟩) X'.length (cap - 1)) X' := hwy.at fun j e => hb1.block j (hwy.lt e).2
      have hp := h1.pop hwy1 (by rw [hv]; rfl) (by rw [hX]; simp)
      obtain ⟨V2, hV2⟩ : ∃ V2, V1.setCell ⟨kx, 1, none⟩ (.slice (some ⟨g, off + 128, none⟩) X'.length (cap - 1)) = V2 := ⟨_, rfl⟩
      rw [hV2] at hp
      obtain ⟨d0, d1, d2, d3⟩ := h1.x.facts
      rw [hv] at d1
      have HV1 := hide hV1
      have HV2 := hide hV2
      have HN1 : Hid (V1.heap[V.heap.size]? = some (.cells (itA (none)) 39 (0, 0))) := hV1 ▸ heap_alloc_last V _
      have hPk : V.heap.size ≠ kx := fun e => by have := hW.x.lt; omega
      have HN2 : Hid (V2.heap[V.heap.size]? = some (.cells (itA (none)) 39 (0, 0))) := hV2 ▸ (blk_set_other _ _ _ _ hPk).trans HN1.out
      have H2 := hide hp.1
      have HB2 := hide (hp.2 w0 (HB0.out.trans (hb1.mono HZ0.out)) (Nat.le_trans HZ0.out hb1.size))
      have hs1 : V1.heap.size = V.heap.size + 1 := by rw [← hV1]; simp
      have hs2 : V2.heap.size = V1.heap.size := by rw [← hV2]; simp
      have HZ2 : Hid (z ≤ V2.heap.size) := by show _ ≤ _; have := HZ0.out; omega
      have kd : V2.cell? ⟨V.heap.size, 0, none⟩ = some (.int .i64 20) := cellOf HN2.out 0 _ (by kernel_rfl)
      obtain ⟨g0, g1, g2, g3⟩ := hp.1.x.facts
      have HRg := hide hrg
      have hPl : V.heap.size < V2.heap.size := by omega
      have hgt := (hX ▸ hw : Win (N : Int) sx sy (none :: X') Y).got
      have HG := hide (got_yes gx sx V2 hp.1.x.sb hw.oa.1 hgt.1)
      have HWg := hide hgt.2
      clear hV hbV hW h hw hb hz hX hv hrg hwy hwy0 hwy1 hV1 hV2 hb1 h1 hp hPk c2 g1 g2 hs1 hs2 hgt
      go_enter Try.func22, Try.ntmps22
      go_wp2_with (first | rw [HV.out] | rw [HV2.out] | (refine wpList_load_mid rfl 39 (.tmp 104) rfl g off rfl (itL (none)) _ HRg.out Try.underlying39 rfl (by rw [it_size (none)]; rfl) ?_) | (refine wpList_store_row rfl 39 (.tmp 13) (.tmp 105) rfl V.heap.size (itA (none)) rfl rfl 39 _ (heap_alloc_last V _) (it_size ..) (it_zero ..) (it_one ..) ?_; rw [World.setRow_alloc_new, HV1.out]))
      refine HG.out.mono ?_
      rintro e3 w3 ⟨rfl, s3, k3⟩
      have h3 := H2.out.turn s3 k3 rfl rfl
      have H3 := hide h3.1
      have HB3 := hide (h3.2 w0 HB2.out HZ2.out)
      have HZ3 : Hid (z ≤ w3.heap.size) := Nat.le_trans HZ2.out k3.size
      clear h3 s3 k3
      go_wp2
      go_ret
      exact ⟨rfl, sx.got, sy, _, vy, X', Y, H3.out.more (by omega), by have := HWg.out.more; push_cast; exact this, HB3.out, HZ3.out⟩
end
end Go.Proofs.Ytondbhdlccpklaa
