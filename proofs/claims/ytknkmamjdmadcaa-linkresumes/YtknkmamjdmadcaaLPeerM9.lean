import Derived.Test.YtknkmamjdmadcaaLOwnWM9

/- Stage 14: Peer. -/
namespace Go.Proofs.Ytknkmamjdmadcaa
open Go.RowKit Go.Maps
set_option linter.unusedVariables false
set_option linter.unusedSimpArgs false

theorem stop_load {P : Program} {ops : Array Oper} {rest : List Oper} {o : Oper} {a : Act} {w : World} {Q : Exit → Act → World → Prop} (t : TypeId) (x : Operand) (hop : o.op = .load t x) (h : Shut (wpList P ops Q (o :: rest) a w)) : wpList P ops Q (o :: rest) a w := h
theorem wpList_wanted {P : Program} {ops : Array Oper} {rest : List Oper} {o : Oper} {a : Act} {w : World} {Q : Exit → Act → World → Prop} (hw : Region.wanted o (yielded ops a.tmps) = true)
    (h : ∀ K : Act → World → Prop, (∀ a w, wpList P ops Q rest a w → K a w) → o.wp P a w K Q) : wpList P ops Q (o :: rest) a w :=
  wpList_step fun K hK => by rw [if_pos hw]; exact h K hK
theorem st_cells {w : World} {N : Nat} {k : Int} {t : TypeId} (h : w.heap[N]? = some (.cells (stA k) t (0, 0))) : w.cell? ⟨N, 0, none⟩ = some (.int .i64 k) ∧ w.cell? ⟨N, 1, none⟩ = some (.int .i64 0) ∧ w.cell? ⟨N, 2, none⟩ = some (.int .i64 0) ∧ w.cell? ⟨N, 3, none⟩ = some (.string ⟨#[]⟩) ∧ w.cell? ⟨N, 4, none⟩ = some (.string ⟨#[]⟩) ∧ w.cell? ⟨N, 5, none⟩ = some (.int .i64 0) ∧ w.cell? ⟨N, 6, none⟩ = some (.int .u64 0) ∧ w.cell? ⟨N, 7, none⟩ = some (.string ⟨#[]⟩) ∧ w.cell? ⟨N, 8, none⟩ = some (.slice none 0 0) ∧ w.cell? ⟨N, 9, none⟩ = some (.int .i64 0) ∧ w.cell? ⟨N, 10, none⟩ = some (.bool false) ∧ w.cell? ⟨N, 11, none⟩ = some (.bool false) ∧ w.cell? ⟨N, 12, none⟩ = some (.int .i64 0) ∧ w.cell? ⟨N, 13, none⟩ = some (.int .u64 0) ∧ w.cell? ⟨N, 14, none⟩ = some (.string ⟨#[]⟩) ∧ w.cell? ⟨N, 15, none⟩ = some (.slice none 0 0) ∧ w.cell? ⟨N, 16, none⟩ = some (.int .i64 0) ∧ w.cell? ⟨N, 17, none⟩ = some (.string ⟨#[]⟩) ∧ w.cell? ⟨N, 18, none⟩ = some (.slice none 0 0) :=
  ⟨cellOf h 0 _ rfl, cellOf h 1 _ rfl, cellOf h 2 _ rfl, cellOf h 3 _ rfl, cellOf h 4 _ rfl, cellOf h 5 _ rfl, cellOf h 6 _ rfl, cellOf h 7 _ rfl, cellOf h 8 _ rfl, cellOf h 9 _ rfl, cellOf h 10 _ rfl, cellOf h 11 _ rfl, cellOf h 12 _ rfl, cellOf h 13 _ rfl, cellOf h 14 _ rfl, cellOf h 15 _ rfl, cellOf h 16 _ rfl, cellOf h 17 _ rfl, cellOf h 18 _ rfl⟩
theorem dv_cells {w : World} {N : Nat} {a q : Int} {t : TypeId} (h : w.heap[N]? = some (.cells (dvA (a, q)) t (0, 0))) : w.cell? ⟨N, 19, none⟩ = some (.int .i64 q) ∧ w.cell? ⟨N, 20, none⟩ = some (.int .i64 0) ∧ w.cell? ⟨N, 21, none⟩ = some (.int .i64 0) ∧ w.cell? ⟨N, 22, none⟩ = some (.string ⟨#[]⟩) ∧ w.cell? ⟨N, 23, none⟩ = some (.string ⟨#[]⟩) ∧ w.cell? ⟨N, 24, none⟩ = some (.int .i64 0) ∧ w.cell? ⟨N, 25, none⟩ = some (.int .u64 0) ∧ w.cell? ⟨N, 26, none⟩ = some (.string ⟨#[]⟩) ∧ w.cell? ⟨N, 27, none⟩ = some (.slice none 0 0) ∧ w.cell? ⟨N, 28, none⟩ = some (.int .i64 0) ∧ w.cell? ⟨N, 29, none⟩ = some (.bool false) ∧ w.cell? ⟨N, 30, none⟩ = some (.bool false) ∧ w.cell? ⟨N, 31, none⟩ = some (.int .i64 0) ∧ w.cell? ⟨N, 32, none⟩ = some (.int .u64 0) ∧ w.cell? ⟨N, 33, none⟩ = some (.string ⟨#[]⟩) ∧ w.cell? ⟨N, 34, none⟩ = some (.slice none 0 0) ∧ w.cell? ⟨N, 35, none⟩ = some (.int .i64 0) ∧ w.cell? ⟨N, 36, none⟩ = some (.string ⟨#[]⟩) ∧ w.cell? ⟨N, 37, none⟩ = some (.slice none 0 0) :=
  ⟨cellOf h 19 _ rfl, cellOf h 20 _ rfl, cellOf h 21 _ rfl, cellOf h 22 _ rfl, cellOf h 23 _ rfl, cellOf h 24 _ rfl, cellOf h 25 _ rfl, cellOf h 26 _ rfl, cellOf h 27 _ rfl, cellOf h 28 _ rfl, cellOf h 29 _ rfl, cellOf h 30 _ rfl, cellOf h 31 _ rfl, cellOf h 32 _ rfl, cellOf h 33 _ rfl, cellOf h 34 _ rfl, cellOf h 35 _ rfl, cellOf h 36 _ rfl, cellOf h 37 _ rfl⟩
set_option maxRecDepth 100000 in
theorem same_no (a b : Int) (w : World) (hn : a ≠ b) :
    Calls Try.prog 48 #[.agg (stA a), .agg (stA b)] w fun e w' => e = .returned (.bool false) ∧ Below w.heap.size w w' := by
  have hne : (a == b) = false := by rw [beq_eq_false_iff_ne]; exact hn
  obtain ⟨V, hV⟩ : ∃ V, (w.alloc (.cells (stA a) 53)).alloc (.cells (stA b) 53) = V := ⟨_, rfl⟩
  have c0 := cellOf (hV ▸ heap_past (heap_alloc_last w _) _ : V.heap[w.heap.size]? = some (.cells (stA a) 53 (0, 0))) 0 (.int .i64 a) rfl
  have c1 := cellOf (hV ▸ heap_last1 w _ _ : V.heap[w.heap.size + 1]? = some (.cells (stA b) 53 (0, 0))) 0 (.int .i64 b) rfl
  have HB0 : Hid (Below w.heap.size w V) := hV ▸ bel1 (bel1 (Below.refl _ _) (Nat.le_refl _) _) (by simp) _
  have HV := hide hV
  have hs : V.heap.size = w.heap.size + 2 := by rw [← hV]; simp
  clear hV hn
  go_enter Try.func48, Try.ntmps48
  go_wp2_with (rw [HV.out])
  go_ret
  exact ⟨rfl, HB0.out⟩
set_option maxRecDepth 100000 in
set_option maxHeartbeats 1000000 in
theorem peer_settled (g : Nat) (l : Lk) (T : List (ByteArray × Dv)) (tag : ByteArray) (a q k : Int) (w : World) (h : Lnk w g l T) (hz : tag.size ≤ maxLen) (hh : hasK T tag = true) (hu : lu dv0 T tag = (a, q)) (hk : k ≠ 0) (hr : l.rc = false) (hm : l.rm ≠ 1) :
    Calls Try.prog 25 #[.pointer (some ⟨g, 0, none⟩), .string tag, .agg (stA k), .bool true] w fun e w' => e = .returned (.tuple #[.bool true, .int .i64 0]) ∧ Lnk w' g l (T.filter fun p => !decide (p.1 = tag)) ∧ Kp (fun j => j = l.dm) w w' := by
  obtain ⟨V0, hV0⟩ : ∃ V0, w.alloc (.cells (stA k) 53) = V0 := ⟨_, rfl⟩
  have hb0 : Below w.heap.size w V0 := hV0 ▸ bel1 (Below.refl _ _) (Nat.le_refl _) _
  have z0 : V0.heap.size = w.heap.size + 1 := by rw [← hV0]; simp
  have H0 : Hid (Lnk V0 g l T) := h.below hb0
  obtain ⟨V, hV⟩ : ∃ V, V0.alloc (.cells (dvA (a, q)) 89) = V := ⟨_, rfl⟩
  have hb1 : Below V0.heap.size V0 V := hV ▸ bel1 (Below.refl _ _) (Nat.le_refl _) _
  have z1 : V.heap.size = w.heap.size + 2 := by rw [← hV]; simp; omega
  have h1 : Lnk V g l T := H0.out.below hb1
  have hbV : Below w.heap.size w V := hb0.trans (hb1.mono hb0.size)
  have b0 : V.heap[w.heap.size]? = some (.cells (stA k) 53 (0, 0)) := (hb1.block _ (by omega)).trans (hV0 ▸ heap_alloc_last w _)
  have b1 : V.heap[w.heap.size + 1]? = some (.cells (dvA (a, q)) 89 (0, 0)) := by rw [← z0, ← hV]; exact heap_alloc_last V0 _
  obtain ⟨s0, s1, s2, s3, s4, s5, s6, s7, s8, s9, s10, s11⟩ := h1.lb.facts
  obtain ⟨t0, t1, t2, t3, t4, t5, t6, t7, t8, t9, t10, t11⟩ := H0.out.lb.facts
  rw [hr] at s1 t1
  have hl := h1.lb.lt
  have hl0 := H0.out.lb.lt
  have HM := hide (may_yes g l true V h1.lb (.inr hm))
  have HS := hide (said_new q k V hk)
  have HF : Hid (∀ w1, Below V.heap.size V w1 → w1.heap[w.heap.size + 1]? = some (.cells (dvA (a, q)) 89 (0, 0))) := fun w1 hb => (hb.block _ (by omega)).trans b1
  have HQ : Hid (∀ w1, Below V.heap.size V w1 → (w1.setCells (w.heap.size + 1) 19 (stA k).toList).heap[w.heap.size + 1]? = some (.cells (dvA (a, k)) 89 (0, 0)) ∧ Below w.heap.size w (w1.setCells (w.heap.size + 1) 19 (stA k).toList)) := fun w1 hb => ⟨set_peer k (HF.out w1 hb), setCells_below (by omega) _ _ _ (hbV.trans (hb.mono hbV.size))⟩
  have HL := hide h
  have HB0 := hide b0
  have HB1 := hide b1
  have HV0 := hide hV0
  have HV := hide hV
  have HU := hide hu
  have HH := hide hh
  have HZ := hide hz
  have HN : Hid (∀ c, (V0.alloc (.cells c 89)).heap[w.heap.size + 1]? = some (.cells c 89 (0, 0))) := fun c => by rw [← z0]; exact heap_alloc_last V0 _
  have HR : Hid (∀ c, (V0.alloc (.cells c 89)).setRow (w.heap.size + 1) (dvA (a, q)) = V) := fun c => by rw [← z0, World.setRow_alloc_new]; exact hV
  have hg0 : g ≠ w.heap.size := fun e => by have := h.lb.lt; omega
  clear h hz hh hu hk hV0 hV hb0 hb1 h1 hbV b0 b1
  go_enter Try.func25, Try.ntmps25
  go_wp2_with (first | (rw [HV0.out]; refine Shut.out ?_))
  unfold Shut
  go_wp2_with (first | (at_lookup; refine look_D rfl _ _ rfl l.dm rfl tag rfl T H0.out.tb HZ.out ?_; rw [HH.out, HU.out]; unfold dvV) | (refine wpList_store_row rfl 89 (.tmp 10) (.tmp 20) rfl (w.heap.size + 1) (dvA (a, q)) rfl rfl 89 _ (HN.out _) (Dv.sz _) rfl (by kernel_rfl) ?_; rw [HR.out]; refine Shut.out ?_))
  unfold Shut
  go_wp2_with (first | (go_at_call 45; refine HM.out.mono ?_; rintro e1 w1 ⟨rfl, rfl⟩) | (with_reducible refine stop_load 53 (.tmp 49) rfl ?_))
  unfold Shut
  refine wpList_load_mid rfl 53 (.tmp 49) rfl (w.heap.size + 1) 19 rfl (stL q) _ (range_peer HB1.out) Try.underlying53 rfl Try.infoSt ?_
  refine wpList_load_row rfl 53 (.tmp 6) rfl w.heap.size rfl 53 (stA k) (0, 0) _ HB0.out Try.underlying53 rfl Try.infoSt ?_
  go_wp2_with (go_at_call 46; refine HS.out.mono ?_; rintro e2 w2 ⟨rfl, hb2⟩; refine Shut.out ?_)
  unfold Shut
  have HF2 := hide (HF.out _ hb2)
  have HQ2 := hide (HQ.out _ hb2)
  go_wp2_with (refine wpList_store_mid rfl 53 (.tmp 53) (.tmp 52) rfl (w.heap.size + 1) 19 (stA k) rfl rfl (there_dv 19 (by omega) HF2.out k) Try.infoSt (by kernel_rfl) ?_; refine Shut.out ?_)
  unfold Shut
  obtain ⟨w3, hw3⟩ : ∃ w3, w2.setCells (w.heap.size + 1) 19 (stA k).toList = w3 := ⟨_, rfl⟩
  rw [hw3] at HQ2 ⊢
  have H3 := hide (HQ2.out.1)
  have HB3 := hide (HQ2.out.2)
  have HK := hide (keep_del g l T tag (a, k) w3 (HL.out.below HB3.out) HZ.out)
  clear hw3 HQ2 HF2 hb2 HQ HF HS HM HB0 HB1 HN HR
  go_wp2_with (first | (refine wpList_load_row rfl 89 (.tmp 10) rfl (w.heap.size + 1) rfl 89 (dvA (a, k)) (0, 0) _ H3.out Try.underlying89 rfl (Dv.sz _) ?_) | (go_at_call 47; refine HK.out.mono ?_; rintro e4 w4 ⟨rfl, hl4, hk4⟩))
  go_ret2
  exact ⟨rfl, hl4, (Kp.ofBelow HB3.out).trans hk4⟩
set_option maxRecDepth 100000 in
set_option maxHeartbeats 1000000 in
theorem peer_open (g : Nat) (l : Lk) (T : List (ByteArray × Dv)) (tag : ByteArray) (a q k : Int) (w : World) (h : Lnk w g l T) (hz : tag.size ≤ maxLen) (hh : hasK T tag = true) (hu : lu dv0 T tag = (a, q)) (hk : k ≠ 0) (hq : k ≠ q) (hn : T.length < maxLen) :
    Calls Try.prog 25 #[.pointer (some ⟨g, 0, none⟩), .string tag, .agg (stA k), .bool false] w fun e w' => e = .returned (.tuple #[.bool true, .int .i64 0]) ∧ Lnk w' g l ((tag, (a, k)) :: T.filter fun p => !decide (p.1 = tag)) ∧ Kp (fun j => j = l.dm) w w' := by
  obtain ⟨V0, hV0⟩ : ∃ V0, w.alloc (.cells (stA k) 53) = V0 := ⟨_, rfl⟩
  have hb0 : Below w.heap.size w V0 := hV0 ▸ bel1 (Below.refl _ _) (Nat.le_refl _) _
  have z0 : V0.heap.size = w.heap.size + 1 := by rw [← hV0]; simp
  have H0 : Hid (Lnk V0 g l T) := h.below hb0
  obtain ⟨V, hV⟩ : ∃ V, V0.alloc (.cells (dvA (a, q)) 89) = V := ⟨_, rfl⟩
  have hb1 : Below V0.heap.size V0 V := hV ▸ bel1 (Below.refl _ _) (Nat.le_refl _) _
  have z1 : V.heap.size = w.heap.size + 2 := by rw [← hV]; simp; omega
  have h1 : Lnk V g l T := H0.out.below hb1
  have hbV : Below w.heap.size w V := hb0.trans (hb1.mono hb0.size)
  have b0 : V.heap[w.heap.size]? = some (.cells (stA k) 53 (0, 0)) := (hb1.block _ (by omega)).trans (hV0 ▸ heap_alloc_last w _)
  have b1 : V.heap[w.heap.size + 1]? = some (.cells (dvA (a, q)) 89 (0, 0)) := by rw [← z0, ← hV]; exact heap_alloc_last V0 _
  obtain ⟨s0, s1, s2, s3, s4, s5, s6, s7, s8, s9, s10, s11⟩ := h1.lb.facts
  obtain ⟨t0, t1, t2, t3, t4, t5, t6, t7, t8, t9, t10, t11⟩ := H0.out.lb.facts
  have hk0 : (k != 0) = true := by rw [bne_iff_ne]; exact hk
  have p0 := (st_cells b0).1
  have hlv : w.heap.size + 1 < V.heap.size := by omega
  have hlv0 : w.heap.size < V.heap.size := by omega
  have HSm := hide (same_no k q V hq)
  have HKN := hide hk
  clear hq
  have hl := h1.lb.lt
  have hl0 := H0.out.lb.lt
  have HF : Hid (∀ w1, Below V.heap.size V w1 → w1.heap[w.heap.size + 1]? = some (.cells (dvA (a, q)) 89 (0, 0))) := fun w1 hb => (hb.block _ (by omega)).trans b1
  have HQ : Hid (∀ w1, Below V.heap.size V w1 → (w1.setCells (w.heap.size + 1) 19 (stA k).toList).heap[w.heap.size + 1]? = some (.cells (dvA (a, k)) 89 (0, 0)) ∧ Below w.heap.size w (w1.setCells (w.heap.size + 1) 19 (stA k).toList)) := fun w1 hb => ⟨set_peer k (HF.out w1 hb), setCells_below (by omega) _ _ _ (hbV.trans (hb.mono hbV.size))⟩
  have HL := hide h
  have HB0 := hide b0
  have HB1 := hide b1
  have HV0 := hide hV0
  have HV := hide hV
  have HU := hide hu
  have HH := hide hh
  have HZ := hide hz
  have HN : Hid (∀ c, (V0.alloc (.cells c 89)).heap[w.heap.size + 1]? = some (.cells c 89 (0, 0))) := fun c => by rw [← z0]; exact heap_alloc_last V0 _
  have HR : Hid (∀ c, (V0.alloc (.cells c 89)).setRow (w.heap.size + 1) (dvA (a, q)) = V) := fun c => by rw [← z0, World.setRow_alloc_new]; exact hV
  have hg0 : g ≠ w.heap.size := fun e => by have := h.lb.lt; omega
  clear h hz hh hu hk hV0 hV hb0 hb1 h1 hbV b0 b1
  go_enter Try.func25, Try.ntmps25
  go_wp2_with (first | (rw [HV0.out]; refine Shut.out ?_))
  unfold Shut
  go_wp2_with (first | (at_lookup; refine look_D rfl _ _ rfl l.dm rfl tag rfl T H0.out.tb HZ.out ?_; rw [HH.out, HU.out]; unfold dvV) | (refine wpList_store_row rfl 89 (.tmp 10) (.tmp 20) rfl (w.heap.size + 1) (dvA (a, q)) rfl rfl 89 _ (HN.out _) (Dv.sz _) rfl (by kernel_rfl) ?_; rw [HR.out]; refine Shut.out ?_))
  unfold Shut
  go_wp2_with (with_reducible refine stop_load 53 (.tmp 6) rfl ?_)
  unfold Shut
  refine wpList_wanted (by kernel_rfl) fun K hK => wp_load_row 53 (.tmp 6) rfl w.heap.size rfl 53 (stA k) (0, 0) _ HB0.out Try.underlying53 rfl Try.infoSt (hK _ _ ?_)
  clear hK K
  go_wp2_with (with_reducible refine stop_load 53 (.tmp 43) rfl ?_)
  unfold Shut
  refine wpList_wanted (by kernel_rfl) fun K hK => wp_load_mid 53 (.tmp 43) rfl (w.heap.size + 1) 19 rfl (stL q) _ (range_peer HB1.out) Try.underlying53 rfl Try.infoSt (hK _ _ ?_)
  clear hK K
  go_wp2_with (first | (go_at_call 48; refine HSm.out.mono ?_; rintro e1 w1 ⟨rfl, hbs⟩; refine Shut.out ?_))
  unfold Shut
  have HB0' := hide ((hbs.block _ hlv0).trans HB0.out)
  have HB1' := hide ((hbs.block _ hlv).trans HB1.out)
  have HS := hide (said_new q k w1 HKN.out)
  have HBS := hide hbs
  clear hbs HSm p0
  go_wp2_with (with_reducible refine stop_load 53 (.tmp 49) rfl ?_)
  unfold Shut
  refine wpList_load_mid rfl 53 (.tmp 49) rfl (w.heap.size + 1) 19 rfl (stL q) _ (range_peer HB1'.out) Try.underlying53 rfl Try.infoSt ?_
  refine wpList_load_row rfl 53 (.tmp 6) rfl w.heap.size rfl 53 (stA k) (0, 0) _ HB0'.out Try.underlying53 rfl Try.infoSt ?_
  go_wp2_with (go_at_call 46; refine HS.out.mono ?_; rintro e2 w2 ⟨rfl, hb2⟩; refine Shut.out ?_)
  unfold Shut
  have HF2 := hide (HF.out _ (HBS.out.trans (hb2.mono HBS.out.size)))
  have HQ2 := hide (HQ.out _ (HBS.out.trans (hb2.mono HBS.out.size)))
  go_wp2_with (refine wpList_store_mid rfl 53 (.tmp 53) (.tmp 52) rfl (w.heap.size + 1) 19 (stA k) rfl rfl (there_dv 19 (by omega) HF2.out k) Try.infoSt (by kernel_rfl) ?_; refine Shut.out ?_)
  unfold Shut
  obtain ⟨w3, hw3⟩ : ∃ w3, w2.setCells (w.heap.size + 1) 19 (stA k).toList = w3 := ⟨_, rfl⟩
  rw [hw3] at HQ2 ⊢
  have H3 := hide (HQ2.out.1)
  have HB3 := hide (HQ2.out.2)
  have HK := hide (keep_put g l T tag (a, k) w3 (HL.out.below HB3.out) HZ.out hn)
  clear hw3 HQ2 HF2 hb2 HQ HF HS HB0 HB1 HN HR
  go_wp2_with (first | (refine wpList_load_row rfl 89 (.tmp 10) rfl (w.heap.size + 1) rfl 89 (dvA (a, k)) (0, 0) _ H3.out Try.underlying89 rfl (Dv.sz _) ?_) | (go_at_call 47; refine HK.out.mono ?_; rintro e4 w4 ⟨rfl, hl4, hk4⟩))
  go_ret2
  exact ⟨rfl, hl4, (Kp.ofBelow HB3.out).trans hk4⟩
end Go.Proofs.Ytknkmamjdmadcaa
