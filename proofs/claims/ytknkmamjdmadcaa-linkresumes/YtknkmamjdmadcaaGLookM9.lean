import Derived.Test.YtknkmamjdmadcaaGOfM9
import Derived.Test.YtknkmamjdmadcaaGPeerM9
import Derived.Test.YtknkmamjdmadcaaLPeerM9
import Derived.Test.YtknkmamjdmadcaaLAgIM9
import Derived.Maps.RangeWalk
import Derived.StringKeys
import Derived.OwnWalk

/- Stage 14: Look. -/
namespace Go.Proofs.Ytknkmamjdmadcaa.G
open Go.RowKit Go.Maps
set_option linter.unusedVariables false
set_option linter.unusedSimpArgs false

theorem results_cell3 {P : Program} {fn : Func} {p q u : Tmp} {ty : TypeId} (h : fn.results = #[.cell p ty, .cell q ty, .tmp u]) (tmps : Array Value) (w : World) (g g2 : Nat) (t : TypeId) (cs cs2 : Array Value) (fr : Nat × Nat) (d : TypeDesc)
    (hp : tmps.getD p undef = .pointer (some ⟨g, 0, none⟩)) (hq : tmps.getD q undef = .pointer (some ⟨g2, 0, none⟩)) (hg : w.heap[g]? = some (.cells cs t fr)) (hg2 : w.heap[g2]? = some (.cells cs2 t fr))
    (hu : P.underlying ty = some d) (hd : (match d with | .struct _ | .array _ _ => true | _ => false) = true) (hi : (P.info? ty).map (·.size) = some cs.size) (hi2 : (P.info? ty).map (·.size) = some cs2.size) :
    (results fn tmps).run P w = .ok (.tuple #[.agg cs, .agg cs2, tmps.getD u undef]) w := by
  have hp' : tmps[p]?.getD undef = .pointer (some ⟨g, 0, none⟩) := by simpa using hp
  have hq' : tmps[q]?.getD undef = .pointer (some ⟨g2, 0, none⟩) := by simpa using hq
  simp [results, h, hp', hq', asAddr, run_loadVar_row w g t ty cs fr d hg hu hd hi, run_loadVar_row w g2 t ty cs2 fr d hg2 hu hd hi2]
set_option maxRecDepth 100000 in
set_option maxHeartbeats 2000000 in
theorem look_any (d g : Nat) (l : Lk) (T : List (ByteArray × Dv)) (tag : ByteArray) (w : World) (h : Lnk w g l T) (hS : Sts d g l w T) (hz : tag.size ≤ maxLen) :
    Calls Try.prog 15 #[.pointer (some ⟨g, 0, none⟩), .string tag] w fun e w' => (∃ a b : Sw, e = .returned (.tuple #[.agg a.A, .agg b.A, .bool (hasK T tag)]) ∧ b.k = (lu dv0 T tag).2.k) ∧ Below w.heap.size w w' := by
  have hm : StIn (fun b => b < w.heap.size) w d (lu dv0 T tag).1 ∧ StIn (fun b => b < w.heap.size) w d (lu dv0 T tag).2 := by
    cases hh : hasK T tag with
    | true => exact ⟨StIn.keep (fun _ _ => rfl) (fun b hb => hb.1) (hS _ (lu_mem (d := dv0) hh)).1, StIn.keep (fun _ _ => rfl) (fun b hb => hb.1) (hS _ (lu_mem (d := dv0) hh)).2⟩
    | false => rw [lu_none hh]; exact ⟨sw0_in _ _ d, sw0_in _ _ d⟩
  obtain ⟨⟨a, q⟩, hu⟩ : ∃ p, lu dv0 T tag = p := ⟨_, rfl⟩
  obtain ⟨hb, hhb⟩ : ∃ hb, hasK T tag = hb := ⟨_, rfl⟩
  rw [hu] at hm
  obtain ⟨V0, hV0⟩ : ∃ V0, (w.alloc (.cells sw0.A 53)).alloc (.cells sw0.A 53) = V0 := ⟨_, rfl⟩
  have hb0 : Below w.heap.size w V0 := hV0 ▸ bel1 (bel1 (Below.refl _ _) (Nat.le_refl _) _) (by simp) _
  have z0 : V0.heap.size = w.heap.size + 2 := by rw [← hV0]; simp
  have r0 : V0.heap[w.heap.size]? = some (.cells sw0.A 53 (0, 0)) := hV0 ▸ heap_past (heap_alloc_last w _) _
  have r1 : V0.heap[w.heap.size + 1]? = some (.cells sw0.A 53 (0, 0)) := hV0 ▸ heap_last1 w _ _
  have H0 : Hid (Lnk V0 g l T) := h.below hb0
  obtain ⟨V, hV⟩ : ∃ V, V0.alloc (.cells (dvA (a, q)) 89) = V := ⟨_, rfl⟩
  have hb1 : Below V0.heap.size V0 V := hV ▸ bel1 (Below.refl _ _) (Nat.le_refl _) _
  have z1 : V.heap.size = w.heap.size + 3 := by rw [← hV]; simp; omega
  have b1 : V.heap[w.heap.size + 2]? = some (.cells (dvA (a, q)) 89 (0, 0)) := by rw [← z0, ← hV]; exact heap_alloc_last V0 _
  have hbV : Below w.heap.size w V.drew := (hb0.trans (hb1.mono hb0.size)).trans ((bel_drew V).mono (hb0.trans (hb1.mono hb0.size)).size)
  have zd : V.drew.heap.size = w.heap.size + 3 := z1
  obtain ⟨t0, t1, t2, t3, t4, t5, t6, t7, t8, t9, t10, t11⟩ := H0.out.lb.facts
  have hl0 := H0.out.lb.lt
  have HK : Hid (∀ w1, Below V.drew.heap.size V.drew w1 → (w1.rangeAt (w.heap.size + 2) 0 a.L ∧ w1.rangeAt (w.heap.size + 2) 19 q.L) ∧ Below w.heap.size w w1 ∧ w1.heap[w.heap.size]? = some (.cells sw0.A 53 (0, 0)) ∧ w1.heap[w.heap.size + 1]? = some (.cells sw0.A 53 (0, 0))) := fun w1 hb => by
    have hc : ∀ b, b < w.heap.size + 3 → w1.heap[b]? = V.heap[b]? := fun b h => hb.block b (by omega)
    have hx := (hc (w.heap.size + 2) (by omega)).trans b1
    exact ⟨⟨range_own hx, range_peer hx⟩, hbV.trans (hb.mono (by omega)), (hc _ (by omega)).trans ((hb1.block _ (by omega)).trans r0), (hc _ (by omega)).trans ((hb1.block _ (by omega)).trans r1)⟩
  have HA : Hid (∀ w1, Below V.drew.heap.size V.drew w1 → Calls Try.prog 29 #[.agg a.L.toArray] w1 fun e w' => ∃ s' : Sw, e = .returned (.agg s'.A) ∧ s'.k = a.k ∧ Hid (Below V.drew.heap.size V.drew w')) := fun w1 hb => by
    have hx := (HK.out w1 hb).2.1
    exact (state_any d a w.heap.size w1 hx.size (StIn.keep (fun b h => hx.block b h) (fun _ h => h) hm.1)).mono fun e w' h => by
      obtain ⟨s', h1, h2, _, h4⟩ := h
      exact ⟨s', h1, h2, hb.trans (h4.mono hb.size)⟩
  have HQ : Hid (∀ w1, Below V.drew.heap.size V.drew w1 → Calls Try.prog 29 #[.agg q.L.toArray] w1 fun e w' => ∃ s' : Sw, e = .returned (.agg s'.A) ∧ s'.k = q.k ∧ Hid (Below V.drew.heap.size V.drew w')) := fun w1 hb => by
    have hx := (HK.out w1 hb).2.1
    exact (state_any d q w.heap.size w1 hx.size (StIn.keep (fun b h => hx.block b h) (fun _ h => h) hm.2)).mono fun e w' h => by
      obtain ⟨s', h1, h2, _, h4⟩ := h
      exact ⟨s', h1, h2, hb.trans (h4.mono hb.size)⟩
  have HR : Hid (Below V.drew.heap.size V.drew V.drew) := Below.refl _ _
  have HV : Hid (∀ c, (V0.alloc (.cells c 89)).setRow (w.heap.size + 2) (dvA (a, q)) = V) := fun c => by rw [← z0, World.setRow_alloc_new]; exact hV
  have HN : Hid (∀ c, (V0.alloc (.cells c 89)).heap[w.heap.size + 2]? = some (.cells c 89 (0, 0))) := fun c => by rw [← z0]; exact heap_alloc_last V0 _
  have HV0 : Hid ((w.alloc (.cells #[.int .i64 0, .int .i64 0, .int .i64 0, .string ⟨#[]⟩, .string ⟨#[]⟩, .int .i64 0, .int .u64 0, .string ⟨#[]⟩, .slice none 0 0, .int .i64 0, .bool false, .bool false, .int .i64 0, .int .u64 0, .string ⟨#[]⟩, .slice none 0 0, .int .i64 0, .string ⟨#[]⟩, .slice none 0 0] 53)).alloc (.cells #[.int .i64 0, .int .i64 0, .int .i64 0, .string ⟨#[]⟩, .string ⟨#[]⟩, .int .i64 0, .int .u64 0, .string ⟨#[]⟩, .slice none 0 0, .int .i64 0, .bool false, .bool false, .int .i64 0, .int .u64 0, .string ⟨#[]⟩, .slice none 0 0, .int .i64 0, .string ⟨#[]⟩, .slice none 0 0] 53) = V0) := hV0
  have HE : Hid (∀ w5 (y z : Sw), Below V.drew.heap.size V.drew w5 → ((w5.setRow w.heap.size y.A).heap[w.heap.size + 1]? = some (.cells sw0.A 53 (0, 0)) ∧ ((w5.setRow w.heap.size y.A).rangeAt (w.heap.size + 2) 0 a.L ∧ (w5.setRow w.heap.size y.A).rangeAt (w.heap.size + 2) 19 q.L)) ∧ (((w5.setRow w.heap.size y.A).setRow (w.heap.size + 1) z.A).rangeAt (w.heap.size + 2) 0 a.L ∧ ((w5.setRow w.heap.size y.A).setRow (w.heap.size + 1) z.A).rangeAt (w.heap.size + 2) 19 q.L) ∧ ((w5.setRow w.heap.size y.A).setRow (w.heap.size + 1) z.A).heap[w.heap.size]? = some (.cells y.A 53 (0, 0)) ∧ ((w5.setRow w.heap.size y.A).setRow (w.heap.size + 1) z.A).heap[w.heap.size + 1]? = some (.cells z.A 53 (0, 0)) ∧ Below w.heap.size w ((w5.setRow w.heap.size y.A).setRow (w.heap.size + 1) z.A)) := fun w5 y z hb => by
    obtain ⟨⟨k1, k2⟩, k3, k4, k5⟩ := HK.out w5 hb
    have e1 : (w5.setRow w.heap.size y.A).heap[w.heap.size + 1]? = some (.cells sw0.A 53 (0, 0)) := (setRow_other w5 _ (by omega)).trans k5
    have e2 : (w5.setRow w.heap.size y.A).heap[w.heap.size + 2]? = w5.heap[w.heap.size + 2]? := setRow_other w5 _ (by omega)
    have e3 : ((w5.setRow w.heap.size y.A).setRow (w.heap.size + 1) z.A).heap[w.heap.size + 2]? = w5.heap[w.heap.size + 2]? := (setRow_other _ _ (by omega)).trans e2
    exact ⟨⟨e1, range_keep k1 e2, range_keep k2 e2⟩, ⟨range_keep k1 e3, range_keep k2 e3⟩, (setRow_other _ _ (by omega)).trans (setRow_same k4 _), setRow_same e1 _, bel_setRow (bel_setRow k3 (Nat.le_refl _) _) (by omega) _⟩
  have HU := hide hu
  have HH := hide hhb
  have HZ := hide hz
  have hg0 : g ≠ w.heap.size := fun e => by have := h.lb.lt; omega
  clear h hS hz hm hV0 hV hb0 hb1 hbV b1 r0 r1 hu hhb zd
  rw [HU.out, HH.out]
  go_enter Try.func15, Try.ntmps15
  go_wp2_with (first | (rw [HV0.out]; refine Shut.out ?_))
  unfold Shut
  go_wp2_with (first | (at_lookup; refine look_D rfl _ _ rfl l.dm rfl tag rfl T H0.out.tb HZ.out ?_; rw [HH.out, HU.out]; unfold dvV) | (refine wpList_store_row rfl 89 (.tmp 7) (.tmp 16) rfl (w.heap.size + 2) (dvA (a, q)) rfl rfl 89 _ (HN.out _) (Dv.sz _) rfl (Dv.one _) ?_; rw [HV.out]; refine Shut.out ?_))
  unfold Shut
  go_wp2
  refine wp_region_held_drew (S := fun W => W.rangeAt (w.heap.size + 2) 0 a.L ∧ W.rangeAt (w.heap.size + 2) 19 q.L) (by kernel_rfl) (HK.out _ HR.out).1 (fun hHeld => ?_)
  refine take_do (i := 0) (d := 18) (v := ?_) rfl rfl (by kernel_rfl) (by kernel_rfl) (by kernel_rfl) (fun _ _ _ h => h) rfl ?_ (by assumption) ?_
  rotate_left
  · intro W hSw
    try dsimp only at hSw
    go_simp
    try with_reducible rfl
  try simp only [List.setIfInBounds_toArray, List.set_cons_zero, List.set_cons_succ]
  refine take_do (i := 1) (d := 19) (v := .agg a.L.toArray) rfl rfl (by kernel_rfl) (by kernel_rfl) (by kernel_rfl) (fun _ _ _ h => h) rfl ?_ (by assumption) ?_
  · intro W hSw
    exact mid_run W _ 53 (.tmp 18) rfl (w.heap.size + 2) 0 a.L rfl hSw.1 _ Try.underlying53 rfl Try.infoSt
  try simp only [List.setIfInBounds_toArray, List.set_cons_zero, List.set_cons_succ]
  refine take_do (i := 3) (d := 21) (v := ?_) rfl rfl (by kernel_rfl) (by kernel_rfl) (by kernel_rfl) (fun _ _ _ h => h) rfl ?_ (by assumption) ?_
  rotate_left
  · intro W hSw
    try dsimp only at hSw
    go_simp
    try with_reducible rfl
  try simp only [List.setIfInBounds_toArray, List.set_cons_zero, List.set_cons_succ]
  refine take_do (i := 4) (d := 22) (v := .agg q.L.toArray) rfl rfl (by kernel_rfl) (by kernel_rfl) (by kernel_rfl) (fun _ _ _ h => h) rfl ?_ (by assumption) ?_
  · intro W hSw
    exact mid_run W _ 53 (.tmp 21) rfl (w.heap.size + 2) 19 q.L rfl hSw.2 _ Try.underlying53 rfl Try.infoSt
  try simp only [List.setIfInBounds_toArray, List.set_cons_zero, List.set_cons_succ]
  refine take_do (i := 6) (d := 24) (v := ?_) rfl rfl (by kernel_rfl) (by kernel_rfl) (by kernel_rfl) (fun _ _ _ h => h) rfl ?_ (by assumption) ?_
  rotate_left
  · intro W hSw
    try dsimp only at hSw
    go_simp
    try with_reducible rfl
  try simp only [List.setIfInBounds_toArray, List.set_cons_zero, List.set_cons_succ]
  refine wpAnyH_ready (rs := [2]) (by kernel_rfl) (by simp) ?_
  refine AllReadyH.cons rfl (fun K hK => ?_) AllReadyH.nil
  · go_simp
    go_wp2_with (go_at_call 29; refine (HA.out _ HR.out).mono ?_; rintro e3 w3 ⟨y, rfl, hyk, hb3⟩)
    refine hK.out _ _ (HK.out _ hb3.out).1 (fun hHeld => ?_)
    clear hK K
    try simp only [Act.put, List.setIfInBounds_toArray, List.set_cons_zero, List.set_cons_succ]
    refine wpAnyH_ready (rs := [5]) (by kernel_rfl) (by simp) ?_
    refine AllReadyH.cons rfl (fun K hK => ?_) AllReadyH.nil
    go_simp
    go_wp2_with (go_at_call 29; refine (HQ.out _ hb3.out).mono ?_; rintro e4 w4 ⟨z, rfl, hzk, hb4⟩)
    refine hK.out _ _ (HK.out _ hb4.out).1 (fun hHeld => ?_)
    clear hK K
    try simp only [Act.put, List.setIfInBounds_toArray, List.set_cons_zero, List.set_cons_succ]
    have HF := hide (HE.out w4 y z hb4.out)
    refine wpAnyH_ready (rs := [7]) (by kernel_rfl) (by simp) ?_
    refine AllReadyH.cons rfl (fun K hK => ?_) AllReadyH.nil
    rw [if_pos (by kernel_rfl)]
    refine wp_store_row 53 (.tmp 4) (.tmp 20) rfl w.heap.size y.A rfl rfl 53 _ (HK.out _ hb4.out).2.2.1 Try.infoSt rfl y.one ?_
    refine hK.out _ _ HF.out.1.2 (fun hHeld => ?_)
    clear hK K
    refine wpAnyH_ready (rs := [8]) (by kernel_rfl) (by simp) ?_
    refine AllReadyH.cons rfl (fun K hK => ?_) AllReadyH.nil
    rw [if_pos (by kernel_rfl)]
    refine wp_store_row 53 (.tmp 5) (.tmp 23) rfl (w.heap.size + 1) z.A rfl rfl 53 _ HF.out.1.1 Try.infoSt rfl z.one ?_
    refine hK.out _ _ HF.out.2.1 (fun hHeld => ?_)
    clear hK K
    refine take_do (i := 9) (d := 6) (v := ?_) rfl rfl (by kernel_rfl) (by kernel_rfl) (by kernel_rfl) (fun _ _ _ h => h) rfl ?_ (by assumption) ?_
    rotate_left
    · intro W hSw
      try dsimp only at hSw
      go_simp
      try with_reducible rfl
    try simp only [List.setIfInBounds_toArray, List.set_cons_zero, List.set_cons_succ]
    refine wpAnyH_done (by kernel_rfl) ?_ _
    go_wp2
    exact bodyPost_ret (v := .tuple #[.agg y.A, .agg z.A, .bool hb]) (results_cell3 Try.results15 _ _ w.heap.size (w.heap.size + 1) 53 y.A z.A (0, 0) _ rfl rfl HF.out.2.2.1 HF.out.2.2.2.1 Try.underlying53 rfl Try.infoSt Try.infoSt) rfl ⟨⟨y, z, rfl, hzk⟩, HF.out.2.2.2.2⟩
end Go.Proofs.Ytknkmamjdmadcaa.G
