import Derived.Test.YtknkmamjdmadcaaLOwnMM9

/- Stage 14: Own. -/
namespace Go.Proofs.Ytknkmamjdmadcaa
open Go.RowKit Go.Maps
set_option linter.unusedVariables false
set_option linter.unusedSimpArgs false

set_option maxRecDepth 100000 in
set_option maxHeartbeats 1000000 in
theorem own_settled (g : Nat) (l : Lk) (T : List (ByteArray × Dv)) (tag : ByteArray) (a q k : Int) (w : World) (h : Lnk w g l T) (hz : tag.size ≤ maxLen) (hh : hasK T tag = true) (hu : lu dv0 T tag = (a, q)) (hk : k ≠ 0) (hm : l.rc = false ∨ l.rm ≠ 1) :
    Calls Try.prog 24 #[.pointer (some ⟨g, 0, none⟩), .string tag, .agg (stA k), .bool true] w fun e w' => e = .returned (.int .i64 0) ∧ Lnk w' g l (T.filter fun p => !decide (p.1 = tag)) ∧ Kp (fun j => j = l.dm) w w' := by
  obtain ⟨V0, hV0⟩ : ∃ V0, w.alloc (.cells (stA k) 53) = V0 := ⟨_, rfl⟩
  have hb0 : Below w.heap.size w V0 := hV0 ▸ bel1 (Below.refl _ _) (Nat.le_refl _) _
  have z0 : V0.heap.size = w.heap.size + 1 := by rw [← hV0]; simp
  have H0 : Hid (Lnk V0 g l T) := h.below hb0
  obtain ⟨V, hV⟩ : ∃ V, V0.alloc (.cells (dvA (a, q)) 89) = V := ⟨_, rfl⟩
  have hb1 : Below V0.heap.size V0 V := hV ▸ bel1 (Below.refl _ _) (Nat.le_refl _) _
  have z1 : V.heap.size = w.heap.size + 2 := by rw [← hV]; simp; omega
  have h1 : Lnk V g l T := H0.out.below hb1
  have hbV : Below w.heap.size w V := hb0.trans (hb1.mono hb0.size)
  have b0 : V.heap[w.heap.size]? = some (.cells (stA k) 53 (0, 0)) := (hb1.block _ (by omega)).trans (hV0 ▸ heap_alloc_last w _)
  have b1 : V.heap[w.heap.size + 1]? = some (.cells (dvA (a, q)) 89 (0, 0)) := by rw [← z0, ← hV]; exact heap_alloc_last V0 _
  obtain ⟨s0, s1, s2, s3, s4, s5, s6, s7, s8, s9, s10, s11⟩ := h1.lb.facts
  obtain ⟨t0, t1, t2, t3, t4, t5, t6, t7, t8, t9, t10, t11⟩ := H0.out.lb.facts
  have hl := h1.lb.lt
  have hl0 := H0.out.lb.lt
  have HM := hide (may_yes g l l.rc V h1.lb hm)
  have HS := hide (said_new a k V hk)
  have HF : Hid (∀ w1, Below V.heap.size V w1 → w1.heap[w.heap.size + 1]? = some (.cells (dvA (a, q)) 89 (0, 0))) := fun w1 hb => (hb.block _ (by omega)).trans b1
  have HQ : Hid (∀ w1, Below V.heap.size V w1 → (w1.setCells (w.heap.size + 1) 0 (stA k).toList).heap[w.heap.size + 1]? = some (.cells (dvA (k, q)) 89 (0, 0)) ∧ Below w.heap.size w (w1.setCells (w.heap.size + 1) 0 (stA k).toList)) := fun w1 hb => ⟨set_own k (HF.out w1 hb), setCells_below (by omega) _ _ _ (hbV.trans (hb.mono hbV.size))⟩
  have HL := hide h
  have HB0 := hide b0
  have HB1 := hide b1
  have HV0 := hide hV0
  have HV := hide hV
  have HU := hide hu
  have HH := hide hh
  have HZ := hide hz
  have HN : Hid (∀ c, (V0.alloc (.cells c 89)).heap[w.heap.size + 1]? = some (.cells c 89 (0, 0))) := fun c => by rw [← z0]; exact heap_alloc_last V0 _
  have HR : Hid (∀ c, (V0.alloc (.cells c 89)).setRow (w.heap.size + 1) (dvA (a, q)) = V) := fun c => by rw [← z0, World.setRow_alloc_new]; exact hV
  have hg0 : g ≠ w.heap.size := fun e => by have := h.lb.lt; omega
  clear h hz hh hu hk hV0 hV hb0 hb1 h1 hbV b0 b1
  go_enter Try.func24, Try.ntmps24
  go_wp2_with (first | (rw [HV0.out]; refine Shut.out ?_))
  unfold Shut
  go_wp2_with (first | (at_lookup; refine look_D rfl _ _ rfl l.dm rfl tag rfl T H0.out.tb HZ.out ?_; rw [HH.out, HU.out]; unfold dvV) | (refine wpList_store_row rfl 89 (.tmp 9) (.tmp 18) rfl (w.heap.size + 1) (dvA (a, q)) rfl rfl 89 _ (HN.out _) (Dv.sz _) rfl (by kernel_rfl) ?_; rw [HR.out]; refine Shut.out ?_))
  unfold Shut
  go_wp2_with (first | (go_at_call 45; refine HM.out.mono ?_; rintro e1 w1 ⟨rfl, rfl⟩) | (refine wpList_load_mid rfl 53 (.tmp 33) rfl (w.heap.size + 1) 0 rfl (stL a) _ (range_own HB1.out) Try.underlying53 rfl Try.infoSt ?_) | (refine wpList_load_row rfl 53 (.tmp 6) rfl w.heap.size rfl 53 (stA k) (0, 0) _ HB0.out Try.underlying53 rfl Try.infoSt ?_) | (go_at_call 46; refine HS.out.mono ?_; rintro e2 w2 ⟨rfl, hb2⟩; refine Shut.out ?_))
  unfold Shut
  have HF2 := hide (HF.out _ hb2)
  have HQ2 := hide (HQ.out _ hb2)
  go_wp2_with (refine wpList_store_mid rfl 53 (.tmp 37) (.tmp 36) rfl (w.heap.size + 1) 0 (stA k) rfl rfl (there_dv 0 (by omega) HF2.out k) Try.infoSt (by kernel_rfl) ?_; refine Shut.out ?_)
  unfold Shut
  obtain ⟨w3, hw3⟩ : ∃ w3, w2.setCells (w.heap.size + 1) 0 (stA k).toList = w3 := ⟨_, rfl⟩
  rw [hw3] at HQ2 ⊢
  have H3 := hide (HQ2.out.1)
  have HB3 := hide (HQ2.out.2)
  have HK := hide (keep_del g l T tag (k, q) w3 (HL.out.below HB3.out) HZ.out)
  clear hw3 HQ2 HF2 hb2 HQ HF HS HM HB0 HB1 HN HR
  go_wp2_with (first | (refine wpList_load_row rfl 89 (.tmp 9) rfl (w.heap.size + 1) rfl 89 (dvA (k, q)) (0, 0) _ H3.out Try.underlying89 rfl (Dv.sz _) ?_) | (go_at_call 47; refine HK.out.mono ?_; rintro e4 w4 ⟨rfl, hl4, hk4⟩))
  go_ret
  exact ⟨rfl, hl4, (Kp.ofBelow HB3.out).trans hk4⟩
set_option maxRecDepth 100000 in
set_option maxHeartbeats 1000000 in
theorem own_open (g : Nat) (l : Lk) (T : List (ByteArray × Dv)) (tag : ByteArray) (a q k : Int) (w : World) (h : Lnk w g l T) (hz : tag.size ≤ maxLen) (hh : hasK T tag = true) (hu : lu dv0 T tag = (a, q)) (hk : k ≠ 0) (hn : T.length < maxLen) :
    Calls Try.prog 24 #[.pointer (some ⟨g, 0, none⟩), .string tag, .agg (stA k), .bool false] w fun e w' => e = .returned (.int .i64 0) ∧ Lnk w' g l ((tag, (k, q)) :: T.filter fun p => !decide (p.1 = tag)) ∧ Kp (fun j => j = l.dm) w w' := by
  obtain ⟨V0, hV0⟩ : ∃ V0, w.alloc (.cells (stA k) 53) = V0 := ⟨_, rfl⟩
  have hb0 : Below w.heap.size w V0 := hV0 ▸ bel1 (Below.refl _ _) (Nat.le_refl _) _
  have z0 : V0.heap.size = w.heap.size + 1 := by rw [← hV0]; simp
  have H0 : Hid (Lnk V0 g l T) := h.below hb0
  obtain ⟨V, hV⟩ : ∃ V, V0.alloc (.cells (dvA (a, q)) 89) = V := ⟨_, rfl⟩
  have hb1 : Below V0.heap.size V0 V := hV ▸ bel1 (Below.refl _ _) (Nat.le_refl _) _
  have z1 : V.heap.size = w.heap.size + 2 := by rw [← hV]; simp; omega
  have h1 : Lnk V g l T := H0.out.below hb1
  have hbV : Below w.heap.size w V := hb0.trans (hb1.mono hb0.size)
  have b0 : V.heap[w.heap.size]? = some (.cells (stA k) 53 (0, 0)) := (hb1.block _ (by omega)).trans (hV0 ▸ heap_alloc_last w _)
  have b1 : V.heap[w.heap.size + 1]? = some (.cells (dvA (a, q)) 89 (0, 0)) := by rw [← z0, ← hV]; exact heap_alloc_last V0 _
  obtain ⟨s0, s1, s2, s3, s4, s5, s6, s7, s8, s9, s10, s11⟩ := h1.lb.facts
  obtain ⟨t0, t1, t2, t3, t4, t5, t6, t7, t8, t9, t10, t11⟩ := H0.out.lb.facts
  have hl := h1.lb.lt
  have hl0 := H0.out.lb.lt
  have HS := hide (said_new a k V hk)
  have HF : Hid (∀ w1, Below V.heap.size V w1 → w1.heap[w.heap.size + 1]? = some (.cells (dvA (a, q)) 89 (0, 0))) := fun w1 hb => (hb.block _ (by omega)).trans b1
  have HQ : Hid (∀ w1, Below V.heap.size V w1 → (w1.setCells (w.heap.size + 1) 0 (stA k).toList).heap[w.heap.size + 1]? = some (.cells (dvA (k, q)) 89 (0, 0)) ∧ Below w.heap.size w (w1.setCells (w.heap.size + 1) 0 (stA k).toList)) := fun w1 hb => ⟨set_own k (HF.out w1 hb), setCells_below (by omega) _ _ _ (hbV.trans (hb.mono hbV.size))⟩
  have HL := hide h
  have HB0 := hide b0
  have HB1 := hide b1
  have HV0 := hide hV0
  have HV := hide hV
  have HU := hide hu
  have HH := hide hh
  have HZ := hide hz
  have HN : Hid (∀ c, (V0.alloc (.cells c 89)).heap[w.heap.size + 1]? = some (.cells c 89 (0, 0))) := fun c => by rw [← z0]; exact heap_alloc_last V0 _
  have HR : Hid (∀ c, (V0.alloc (.cells c 89)).setRow (w.heap.size + 1) (dvA (a, q)) = V) := fun c => by rw [← z0, World.setRow_alloc_new]; exact hV
  have hg0 : g ≠ w.heap.size := fun e => by have := h.lb.lt; omega
  clear h hz hh hu hk hV0 hV hb0 hb1 h1 hbV b0 b1
  go_enter Try.func24, Try.ntmps24
  go_wp2_with (first | (rw [HV0.out]; refine Shut.out ?_))
  unfold Shut
  go_wp2_with (first | (at_lookup; refine look_D rfl _ _ rfl l.dm rfl tag rfl T H0.out.tb HZ.out ?_; rw [HH.out, HU.out]; unfold dvV) | (refine wpList_store_row rfl 89 (.tmp 9) (.tmp 18) rfl (w.heap.size + 1) (dvA (a, q)) rfl rfl 89 _ (HN.out _) (Dv.sz _) rfl (by kernel_rfl) ?_; rw [HR.out]; refine Shut.out ?_))
  unfold Shut
  go_wp2_with (first | (refine wpList_load_mid rfl 53 (.tmp 33) rfl (w.heap.size + 1) 0 rfl (stL a) _ (range_own HB1.out) Try.underlying53 rfl Try.infoSt ?_) | (refine wpList_load_row rfl 53 (.tmp 6) rfl w.heap.size rfl 53 (stA k) (0, 0) _ HB0.out Try.underlying53 rfl Try.infoSt ?_) | (go_at_call 46; refine HS.out.mono ?_; rintro e2 w2 ⟨rfl, hb2⟩; refine Shut.out ?_))
  unfold Shut
  have HF2 := hide (HF.out _ hb2)
  have HQ2 := hide (HQ.out _ hb2)
  go_wp2_with (refine wpList_store_mid rfl 53 (.tmp 37) (.tmp 36) rfl (w.heap.size + 1) 0 (stA k) rfl rfl (there_dv 0 (by omega) HF2.out k) Try.infoSt (by kernel_rfl) ?_; refine Shut.out ?_)
  unfold Shut
  obtain ⟨w3, hw3⟩ : ∃ w3, w2.setCells (w.heap.size + 1) 0 (stA k).toList = w3 := ⟨_, rfl⟩
  rw [hw3] at HQ2 ⊢
  have H3 := hide (HQ2.out.1)
  have HB3 := hide (HQ2.out.2)
  have HK := hide (keep_put g l T tag (k, q) w3 (HL.out.below HB3.out) HZ.out hn)
  clear hw3 HQ2 HF2 hb2 HQ HF HS HB0 HB1 HN HR
  go_wp2_with (first | (refine wpList_load_row rfl 89 (.tmp 9) rfl (w.heap.size + 1) rfl 89 (dvA (k, q)) (0, 0) _ H3.out Try.underlying89 rfl (Dv.sz _) ?_) | (go_at_call 47; refine HK.out.mono ?_; rintro e4 w4 ⟨rfl, hl4, hk4⟩))
  go_ret
  exact ⟨rfl, hl4, (Kp.ofBelow HB3.out).trans hk4⟩
end Go.Proofs.Ytknkmamjdmadcaa
