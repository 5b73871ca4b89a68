import Derived.Test.YtondbhdlccpklaaQWnd2M9
import Derived.Test.YtondbhdlccpklaaQMkWM9

/- Stage 13: the law's windows: Peer, Flow, Fields. -/
namespace Go.Proofs.Ytondbhdlccpklaa
open Go.RowKit Go.Maps
set_option linter.unusedVariables false
set_option linter.unusedSimpArgs false

theorem row_run {P : Program} {e : Operand → Value} (W : World) (op : Oper) (ty : TypeId) (x : Operand) (ho : op.op = .load ty x) (b : Nat) (cells : Array Value) (t : TypeId) (fr : Nat × Nat) (hx : e x = .pointer (some ⟨b, 0, none⟩)) (hb : W.heap[b]? = some (.cells cells t fr)) (d : TypeDesc) (hu : P.underlying ty = some d) (hd : d.isRow = true) (hi : (P.info? ty).map (·.size) = some cells.size) :
    (execOp e op).run P W = .ok (.value (.agg cells)) W := by
  have hr : W.rangeAt b 0 cells.toList := fun j v hv => by
    rw [Nat.zero_add]
    simp [World.cell?, hb]
    simpa using hv
  have := run_loadVar_mid (P := P) W b 0 ty cells.toList d hr hu hd (by rw [hi, Array.length_toList])
  rw [Array.toArray_toList] at this
  unfold execOp
  simp only [ho, hx, Instr.loadAt, Instr.sureAddr, Sem.run_bind, Sem.run_pure, Result.andThen_ok, this]
section
variable {w : World} {g g' : Nat} {B : Nat → Prop}
theorem flow_pf (o : Opd) : PfB o.flow o.fk o.a o.b o.c o.d 0 := pfA_pf ..
theorem flow_size (o : Opd) : (Try.prog.info? 39).map (·.size) = some o.flow.size := pfI ..
theorem flow_one (o : Opd) : o.flow.all (·.oneCell') = true := pfA_one ..
theorem flow_zero (o : Opd) : Try.zeroCells39.size = o.flow.size := pfZ ..
theorem sflow_size (s : Sn) : (Try.prog.info? 39).map (·.size) = some s.flow.size := pfI ..
theorem sflow_one (s : Sn) : s.flow.all (·.oneCell') = true := pfA_one ..
theorem sflow_zero (s : Sn) : Try.zeroCells39.size = s.flow.size := pfZ ..
set_option maxRecDepth 100000 in
set_option maxHeartbeats 4000000 in
theorem windows_peer (o : Opd) (h : Std w g g' B) (hk : o.k = 1) :
    Calls Try.prog 48 #[.pointer (some ⟨g, 0, none⟩), .pointer (some ⟨g', 0, none⟩), .agg o.cells] w fun e w' => e = .returned (.bool true) ∧ StdOn w g g' B w' := by
  unfold Opd.cells
  obtain ⟨k, a, b, c, d, e, t, f⟩ := o
  dsimp only at hk ⊢
  subst hk
  obtain ⟨o, ho⟩ : ∃ o : Opd, o = ⟨1, a, b, c, d, e, t, f⟩ := ⟨_, rfl⟩
  obtain ⟨V, hV⟩ : ∃ V, w.alloc (.cells #[.int .i64 1, .int .i64 a, .int .i64 b, .int .i64 c, .int .i64 d, .int .i64 e, .string t, .bool f] 24) = V := ⟨_, rfl⟩
  have HB : Hid (Below w.heap.size w V) := hV ▸ bel1 (Below.refl _ _) (Nat.le_refl _) _
  have HV := hide hV
  have HC : Hid (Calls Try.prog 10 #[.agg #[.int .i64 1, .int .i64 a, .int .i64 b, .int .i64 c, .int .i64 d, .int .i64 e, .string t, .bool f]] V fun e w' => e = .returned (.agg o.begin) ∧ Below V.heap.size V w') := by
    rw [ho]
    exact begin_any ⟨1, a, b, c, d, e, t, f⟩ V
  have HS := hide h
  clear hV h ho
  go_enter Try.func48, Try.ntmps48
  go_wp2_with fail
  rw [HV.out]
  refine HC.out.mono ?_
  rintro e1 w1 ⟨rfl, b1⟩
  obtain ⟨V1, hV1⟩ : ∃ V1, w1.alloc (.cells o.begin 39) = V1 := ⟨_, rfl⟩
  have HV1 := hide hV1
  have HB1 : Hid (Below w.heap.size w V1.drew) := hV1 ▸ (bel1 (belOn HB.out HB.out.size b1) (by have := HB.out.size; have := b1.size; omega) _).trans ((bel_drew _).mono (by have := HB.out.size; have := b1.size; simp; omega))
  have HN1 : Hid (V1.drew.heap[w1.heap.size]? = some (.cells (o.begin) 39 (0, 0))) := hV1 ▸ heap_alloc_last w1 _
  have hlt := (Array.getElem?_eq_some_iff.1 HN1.out).1
  have hnB : ¬ B w1.heap.size := fun e => by have := HS.out.out e; have := HB.out.size; have := b1.size; omega
  obtain ⟨v, ⟨i, rfl⟩, M, hP, hQ⟩ := peer_both (begin_pf o) (HS.out.below HB1.out)
  have HP : Hid (Calls Try.prog 21 #[.pointer (some ⟨g, 0, none⟩), .agg (o.begin)] V1.drew fun e w2 => e = .returned (.int .i64 i) ∧ Hid (M w2) ∧ Hid (w2.heap[w1.heap.size]? = some (.cells (o.begin) 39 (0, 0)))) := hP.mono fun e w2 h => ⟨h.1, h.2.1, (h.2.2.block hlt hnB).trans HN1.out⟩
  have HQ : Hid (∀ w2, Hid (M w2) → Calls Try.prog 71 #[.pointer (some ⟨g', 0, none⟩), .agg (o.begin)] w2 fun e w3 => e = .returned (.int .i64 i) ∧ Hid (StdOn V1.drew g g' B w3) ∧ Hid (w3.heap[w1.heap.size]? = some (.cells (o.begin) 39 (0, 0)))) := fun w2 hM => (hQ w2 hM.out).mono fun e w3 h => ⟨h.1, h.2, by
    obtain ⟨B', _, h2, _⟩ := h.2
    exact (h2.block hlt hnB).trans HN1.out⟩
  clear hP hQ hV1 b1 hlt hnB HC
  go_wp2_with (refine wpList_store_row rfl 39 (.tmp 7) (.tmp 16) rfl w1.heap.size (o.begin) rfl rfl 39 _ (heap_alloc_last w1 _) (begin_size o) (begin_zero o) (begin_one o) ?_; rw [World.setRow_alloc_new, HV1.out])
  refine wp_region_held_drew (S := fun W => W.heap[w1.heap.size]? = some (.cells (o.begin) 39 (0, 0))) (by kernel_rfl) HN1.out (fun hHeld => ?_)
  refine take_do (i := 0) (d := 17) (v := ?_) rfl rfl (by kernel_rfl) (by kernel_rfl) (by kernel_rfl) (fun _ _ _ h => h) rfl ?_ (by assumption) ?_
  rotate_left
  · intro W hSw
    try dsimp only at hSw
    go_simp
    try with_reducible rfl
  try simp only [List.setIfInBounds_toArray, List.set_cons_zero, List.set_cons_succ]
  refine take_do (i := 1) (d := 18) (v := ?_) rfl rfl (by kernel_rfl) (by kernel_rfl) (by kernel_rfl) (fun _ _ _ h => h) rfl ?_ (by assumption) ?_
  rotate_left
  · intro W hSw
    refine row_run W _ 39 (.tmp 7) ?_ w1.heap.size (o.begin) 39 (0, 0) ?_ hSw _ Try.underlying39 rfl (begin_size o) <;> rfl
  try simp only [List.setIfInBounds_toArray, List.set_cons_zero, List.set_cons_succ]
  refine take_do (i := 3) (d := 20) (v := ?_) rfl rfl (by kernel_rfl) (by kernel_rfl) (by kernel_rfl) (fun _ _ _ h => h) rfl ?_ (by assumption) ?_
  rotate_left
  · intro W hSw
    try dsimp only at hSw
    go_simp
    try with_reducible rfl
  try simp only [List.setIfInBounds_toArray, List.set_cons_zero, List.set_cons_succ]
  refine take_do (i := 4) (d := 21) (v := ?_) rfl rfl (by kernel_rfl) (by kernel_rfl) (by kernel_rfl) (fun _ _ _ h => h) rfl ?_ (by assumption) ?_
  rotate_left
  · intro W hSw
    refine row_run W _ 39 (.tmp 7) ?_ w1.heap.size (o.begin) 39 (0, 0) ?_ hSw _ Try.underlying39 rfl (begin_size o) <;> rfl
  try simp only [List.setIfInBounds_toArray, List.set_cons_zero, List.set_cons_succ]
  refine wpAnyH_ready (rs := [2]) (by kernel_rfl) (by simp) ?_
  refine AllReadyH.cons rfl (fun K hK => ?_) AllReadyH.nil
  go_simp
  go_wp2_with (go_at_call 21; refine HP.out.mono ?_; rintro e2 w2 ⟨rfl, hM, hs2⟩)
  refine hK.out _ _ hs2.out (fun hHeld => ?_)
  clear hK K
  try simp only [Act.put, List.setIfInBounds_toArray, List.set_cons_zero, List.set_cons_succ]
  refine wpAnyH_ready (rs := [5]) (by kernel_rfl) (by simp) ?_
  refine AllReadyH.cons rfl (fun K hK => ?_) AllReadyH.nil
  go_simp
  go_wp2_with (go_at_call 71; refine (HQ.out _ hM).mono ?_; rintro e3 w3 ⟨rfl, hS, hs3⟩)
  refine hK.out _ _ hs3.out (fun hHeld => ?_)
  clear hK K
  try simp only [Act.put, List.setIfInBounds_toArray, List.set_cons_zero, List.set_cons_succ]
  refine take_do (i := 6) (d := 23) (v := ?_) rfl rfl (by kernel_rfl) (by kernel_rfl) (by kernel_rfl) (fun _ _ _ h => h) rfl ?_ (by assumption) ?_
  rotate_left
  · intro W hSw
    try dsimp only at hSw
    go_simp
    try with_reducible rfl
  try simp only [List.setIfInBounds_toArray, List.set_cons_zero, List.set_cons_succ]
  refine take_do (i := 7) (d := 6) (v := ?_) rfl rfl (by kernel_rfl) (by kernel_rfl) (by kernel_rfl) (fun _ _ _ h => h) rfl ?_ (by assumption) ?_
  rotate_left
  · intro W hSw
    try dsimp only at hSw
    go_simp
    try with_reducible rfl
  try simp only [List.setIfInBounds_toArray, List.set_cons_zero, List.set_cons_succ]
  refine wpAnyH_done (by kernel_rfl) ?_ _
  go_wp2
  go_ret
  exact ⟨rfl, StdOn.from HB1.out hS.out⟩
set_option maxRecDepth 100000 in
set_option maxHeartbeats 4000000 in
theorem windows_flow (o : Opd) (h : Std w g g' B) (hk : o.k = 5) :
    Calls Try.prog 48 #[.pointer (some ⟨g, 0, none⟩), .pointer (some ⟨g', 0, none⟩), .agg o.cells] w fun e w' => e = .returned (.bool true) ∧ StdOn w g g' B w' := by
  unfold Opd.cells
  obtain ⟨k, a, b, c, d, e, t, f⟩ := o
  dsimp only at hk ⊢
  subst hk
  obtain ⟨o, ho⟩ : ∃ o : Opd, o = ⟨5, a, b, c, d, e, t, f⟩ := ⟨_, rfl⟩
  obtain ⟨V, hV⟩ : ∃ V, w.alloc (.cells #[.int .i64 5, .int .i64 a, .int .i64 b, .int .i64 c, .int .i64 d, .int .i64 e, .string t, .bool f] 24) = V := ⟨_, rfl⟩
  have HB : Hid (Below w.heap.size w V) := hV ▸ bel1 (Below.refl _ _) (Nat.le_refl _) _
  have HV := hide hV
  have HC : Hid (Calls Try.prog 75 #[.agg #[.int .i64 5, .int .i64 a, .int .i64 b, .int .i64 c, .int .i64 d, .int .i64 e, .string t, .bool f]] V fun e w' => e = .returned (.agg o.flow) ∧ Below V.heap.size V w') := by
    rw [ho]
    exact flow_any ⟨5, a, b, c, d, e, t, f⟩ V
  have HS := hide h
  clear hV h ho
  go_enter Try.func48, Try.ntmps48
  go_wp2_with fail
  rw [HV.out]
  refine HC.out.mono ?_
  rintro e1 w1 ⟨rfl, b1⟩
  obtain ⟨V1, hV1⟩ : ∃ V1, w1.alloc (.cells o.flow 39) = V1 := ⟨_, rfl⟩
  have HV1 := hide hV1
  have HB1 : Hid (Below w.heap.size w V1.drew) := hV1 ▸ (bel1 (belOn HB.out HB.out.size b1) (by have := HB.out.size; have := b1.size; omega) _).trans ((bel_drew _).mono (by have := HB.out.size; have := b1.size; simp; omega))
  have HN1 : Hid (V1.drew.heap[w1.heap.size]? = some (.cells (o.flow) 39 (0, 0))) := hV1 ▸ heap_alloc_last w1 _
  have hlt := (Array.getElem?_eq_some_iff.1 HN1.out).1
  have hnB : ¬ B w1.heap.size := fun e => by have := HS.out.out e; have := HB.out.size; have := b1.size; omega
  obtain ⟨v, ⟨i, rfl⟩, M, hP, hQ⟩ := flow_both (flow_pf o) (HS.out.below HB1.out)
  have HP : Hid (Calls Try.prog 24 #[.pointer (some ⟨g, 0, none⟩), .agg (o.flow)] V1.drew fun e w2 => e = .returned (.int .i64 i) ∧ Hid (M w2) ∧ Hid (w2.heap[w1.heap.size]? = some (.cells (o.flow) 39 (0, 0)))) := hP.mono fun e w2 h => ⟨h.1, h.2.1, (h.2.2.block hlt hnB).trans HN1.out⟩
  have HQ : Hid (∀ w2, Hid (M w2) → Calls Try.prog 76 #[.pointer (some ⟨g', 0, none⟩), .agg (o.flow)] w2 fun e w3 => e = .returned (.int .i64 i) ∧ Hid (StdOn V1.drew g g' B w3) ∧ Hid (w3.heap[w1.heap.size]? = some (.cells (o.flow) 39 (0, 0)))) := fun w2 hM => (hQ w2 hM.out).mono fun e w3 h => ⟨h.1, h.2, by
    obtain ⟨B', _, h2, _⟩ := h.2
    exact (h2.block hlt hnB).trans HN1.out⟩
  clear hP hQ hV1 b1 hlt hnB HC
  go_wp2_with (refine wpList_store_row rfl 39 (.tmp 8) (.tmp 48) rfl w1.heap.size (o.flow) rfl rfl 39 _ (heap_alloc_last w1 _) (flow_size o) (flow_zero o) (flow_one o) ?_; rw [World.setRow_alloc_new, HV1.out])
  refine wp_region_held_drew (S := fun W => W.heap[w1.heap.size]? = some (.cells (o.flow) 39 (0, 0))) (by kernel_rfl) HN1.out (fun hHeld => ?_)
  refine take_do (i := 0) (d := 49) (v := ?_) rfl rfl (by kernel_rfl) (by kernel_rfl) (by kernel_rfl) (fun _ _ _ h => h) rfl ?_ (by assumption) ?_
  rotate_left
  · intro W hSw
    try dsimp only at hSw
    go_simp
    try with_reducible rfl
  try simp only [List.setIfInBounds_toArray, List.set_cons_zero, List.set_cons_succ]
  refine take_do (i := 1) (d := 50) (v := ?_) rfl rfl (by kernel_rfl) (by kernel_rfl) (by kernel_rfl) (fun _ _ _ h => h) rfl ?_ (by assumption) ?_
  rotate_left
  · intro W hSw
    refine row_run W _ 39 (.tmp 8) ?_ w1.heap.size (o.flow) 39 (0, 0) ?_ hSw _ Try.underlying39 rfl (flow_size o) <;> rfl
  try simp only [List.setIfInBounds_toArray, List.set_cons_zero, List.set_cons_succ]
  refine take_do (i := 3) (d := 52) (v := ?_) rfl rfl (by kernel_rfl) (by kernel_rfl) (by kernel_rfl) (fun _ _ _ h => h) rfl ?_ (by assumption) ?_
  rotate_left
  · intro W hSw
    try dsimp only at hSw
    go_simp
    try with_reducible rfl
  try simp only [List.setIfInBounds_toArray, List.set_cons_zero, List.set_cons_succ]
  refine take_do (i := 4) (d := 53) (v := ?_) rfl rfl (by kernel_rfl) (by kernel_rfl) (by kernel_rfl) (fun _ _ _ h => h) rfl ?_ (by assumption) ?_
  rotate_left
  · intro W hSw
    refine row_run W _ 39 (.tmp 8) ?_ w1.heap.size (o.flow) 39 (0, 0) ?_ hSw _ Try.underlying39 rfl (flow_size o) <;> rfl
  try simp only [List.setIfInBounds_toArray, List.set_cons_zero, List.set_cons_succ]
  refine wpAnyH_ready (rs := [2]) (by kernel_rfl) (by simp) ?_
  refine AllReadyH.cons rfl (fun K hK => ?_) AllReadyH.nil
  go_simp
  go_wp2_with (go_at_call 24; refine HP.out.mono ?_; rintro e2 w2 ⟨rfl, hM, hs2⟩)
  refine hK.out _ _ hs2.out (fun hHeld => ?_)
  clear hK K
  try simp only [Act.put, List.setIfInBounds_toArray, List.set_cons_zero, List.set_cons_succ]
  refine wpAnyH_ready (rs := [5]) (by kernel_rfl) (by simp) ?_
  refine AllReadyH.cons rfl (fun K hK => ?_) AllReadyH.nil
  go_simp
  go_wp2_with (go_at_call 76; refine (HQ.out _ hM).mono ?_; rintro e3 w3 ⟨rfl, hS, hs3⟩)
  refine hK.out _ _ hs3.out (fun hHeld => ?_)
  clear hK K
  try simp only [Act.put, List.setIfInBounds_toArray, List.set_cons_zero, List.set_cons_succ]
  refine take_do (i := 6) (d := 55) (v := ?_) rfl rfl (by kernel_rfl) (by kernel_rfl) (by kernel_rfl) (fun _ _ _ h => h) rfl ?_ (by assumption) ?_
  rotate_left
  · intro W hSw
    try dsimp only at hSw
    go_simp
    try with_reducible rfl
  try simp only [List.setIfInBounds_toArray, List.set_cons_zero, List.set_cons_succ]
  refine take_do (i := 7) (d := 6) (v := ?_) rfl rfl (by kernel_rfl) (by kernel_rfl) (by kernel_rfl) (fun _ _ _ h => h) rfl ?_ (by assumption) ?_
  rotate_left
  · intro W hSw
    try dsimp only at hSw
    go_simp
    try with_reducible rfl
  try simp only [List.setIfInBounds_toArray, List.set_cons_zero, List.set_cons_succ]
  refine wpAnyH_done (by kernel_rfl) ?_ _
  go_wp2
  go_ret
  exact ⟨rfl, StdOn.from HB1.out hS.out⟩
set_option maxRecDepth 100000 in
set_option maxHeartbeats 4000000 in
theorem windows_fields (o : Opd) (h : Std w g g' B) (hk : o.k = 7) :
    Calls Try.prog 48 #[.pointer (some ⟨g, 0, none⟩), .pointer (some ⟨g', 0, none⟩), .agg o.cells] w fun e w' => e = .returned (.bool true) ∧ StdOn w g g' B w' := by
  unfold Opd.cells
  obtain ⟨k, a, b, c, d, e, t, f⟩ := o
  dsimp only at hk ⊢
  subst hk
  obtain ⟨V, hV⟩ : ∃ V, w.alloc (.cells #[.int .i64 7, .int .i64 a, .int .i64 b, .int .i64 c, .int .i64 d, .int .i64 e, .string t, .bool f] 24) = V := ⟨_, rfl⟩
  have HB : Hid (Below w.heap.size w V) := hV ▸ bel1 (Below.refl _ _) (Nat.le_refl _) _
  have HV := hide hV
  have HS := hide h
  obtain ⟨s, H, R, S, C, vh, vr, vs, va, hs, rs, Sr, Cr, tw, h64, hBB, hL⟩ := h
  have HF := hide (fields_any g s V (tw.a.below HB.out).sb)
  have HRb := hide tw.b
  clear hV tw h64 hBB hL
  go_enter Try.func48, Try.ntmps48
  go_wp2_with fail
  rw [HV.out]
  refine HF.out.mono ?_
  rintro e6 w6 ⟨rfl, b6⟩
  obtain ⟨V6, hV6⟩ : ∃ V6, w6.alloc (.cells s.flow 39) = V6 := ⟨_, rfl⟩
  have HV6 := hide hV6
  have HB6 : Hid (Below w.heap.size w V6) := hV6 ▸ bel1 (belOn HB.out HB.out.size b6) (by have := HB.out.size; have := b6.size; omega) _
  have HN6 : Hid (V6.heap[w6.heap.size]? = some (.cells s.flow 39 (0, 0))) := hV6 ▸ heap_alloc_last w6 _
  have HG6 := hide (rfields_any g' s vh vr vs va V6 (HRb.out.below HB6.out).rb)
  clear b6 hV6 HF HRb
  go_wp2_with (refine wpList_store_row rfl 39 (.tmp 9) (.tmp 70) rfl w6.heap.size s.flow rfl rfl 39 _ (heap_alloc_last w6 _) (sflow_size ..) (sflow_zero ..) (sflow_one ..) ?_; rw [World.setRow_alloc_new, HV6.out])
  refine HG6.out.mono ?_
  rintro e7 w7 ⟨rfl, b7⟩
  obtain ⟨V7, hV7⟩ : ∃ V7, w7.alloc (.cells s.flow 39) = V7 := ⟨_, rfl⟩
  have HV7 := hide hV7
  have hb7 : Below V6.heap.size V6 V7 := hV7 ▸ bel1 b7 b7.size _
  have HN7 : Hid (V7.heap[w7.heap.size]? = some (.cells s.flow 39 (0, 0))) := hV7 ▸ heap_alloc_last w7 _
  have HM7 : Hid (V7.heap[w6.heap.size]? = some (.cells s.flow 39 (0, 0))) := (hb7.block _ (Array.getElem?_eq_some_iff.1 HN6.out).1).trans HN6.out
  have HB7 : Hid (Below w.heap.size w V7) := belOn HB6.out HB6.out.size hb7
  have HSf : Hid (Calls Try.prog 16 #[.agg s.flow, .agg s.flow] V7 fun e w' => e = .returned (.bool true) ∧ Below V7.heap.size V7 w') := sameFlow_any _ _ _ _ V7
  clear b7 hb7 hV7 HG6 HB6 HN6
  go_wp2_with (first | (refine wpList_store_row rfl 39 (.tmp 10) (.tmp 72) rfl w7.heap.size s.flow rfl rfl 39 _ (heap_alloc_last w7 _) (sflow_size ..) (sflow_zero ..) (sflow_one ..) ?_; rw [World.setRow_alloc_new, HV7.out]) | (refine wpList_load_row rfl 39 (.tmp 9) rfl w6.heap.size rfl 39 s.flow (0, 0) _ HM7.out Try.underlying39 rfl (sflow_size ..) ?_) | (refine wpList_load_row rfl 39 (.tmp 10) rfl w7.heap.size rfl 39 s.flow (0, 0) _ HN7.out Try.underlying39 rfl (sflow_size ..) ?_))
  refine HSf.out.mono ?_
  rintro e8 w8 ⟨rfl, b8⟩
  have HB8 : Hid (Below w.heap.size w w8) := belOn HB7.out HB7.out.size b8
  clear b8 HSf
  go_wp2
  go_ret
  exact ⟨rfl, HS.out.on HB8.out⟩
theorem windows_any (o : Opd) (h : Std w g g' B) :
    Calls Try.prog 48 #[.pointer (some ⟨g, 0, none⟩), .pointer (some ⟨g', 0, none⟩), .agg o.cells] w fun e w' => e = .returned (.bool true) ∧ StdOn w g g' B w' := by
  by_cases h1 : o.k = 1
  · exact windows_peer o h h1
  by_cases h2 : o.k = 2
  · exact windows_room o h h2
  by_cases h3 : o.k = 3
  · exact windows_sent o h h3
  by_cases h4 : o.k = 4
  · exact windows_got o h h4
  by_cases h5 : o.k = 5
  · exact windows_flow o h h5
  by_cases h6 : o.k = 6
  · exact windows_widen o h h6
  by_cases h7 : o.k = 7
  · exact windows_fields o h h7
  by_cases h16 : o.k = 16
  · exact windows_state o h h16
  exact windows_else o h h1 h2 h3 h4 h5 h6 h7 h16
end
end Go.Proofs.Ytondbhdlccpklaa
