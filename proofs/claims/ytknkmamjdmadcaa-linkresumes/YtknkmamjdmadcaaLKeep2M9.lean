import Derived.Test.YtknkmamjdmadcaaLSaidM9

/- Stage 14: said, maySettle, keep. -/
namespace Go.Proofs.Ytknkmamjdmadcaa
open Go.RowKit Go.Maps
set_option linter.unusedVariables false
set_option linter.unusedSimpArgs false

theorem may_yes (g : Nat) (l : Lk) (r : Bool) (w : World) (h : LB w g l) (hm : r = false ∨ l.rm ≠ 1) :
    Calls Try.prog 45 #[.pointer (some ⟨g, 0, none⟩), .bool r] w fun e w' => e = .returned (.bool true) ∧ w = w' := by
  obtain ⟨s0, s1, s2, s3, s4, s5, s6, s7, s8, s9, s10, s11⟩ := h.facts
  have hl := h.lt
  clear h
  cases r
  · go_enter Try.func45, Try.ntmps45
    go_wp2
    go_ret
    exact ⟨rfl, rfl⟩
  · have hq : l.rm ≠ 1 := by simpa using hm
    have hne : (l.rm == 1) = false := by rw [beq_eq_false_iff_ne]; exact hq
    go_enter Try.func45, Try.ntmps45
    go_wp2
    go_ret
    exact ⟨by simp [hq], rfl⟩
set_option maxRecDepth 100000 in
set_option maxHeartbeats 1000000 in
theorem said_new (a k : Int) (w : World) (hk : k ≠ 0) :
    Calls Try.prog 46 #[.agg (stA a), .agg (stA k)] w fun e w' => e = .returned (.agg (stA k)) ∧ Below w.heap.size w w' := by
  have hne : (k == 0) = false := by rw [beq_eq_false_iff_ne]; exact hk
  obtain ⟨V, hV⟩ : ∃ V, ((w.alloc (.cells (stA a) 53)).alloc (.cells (stA k) 53)).alloc (.cells (stA 0) 53) = V := ⟨_, rfl⟩
  have h1 : V.heap[w.heap.size + 1]? = some (.cells (stA k) 53 (0, 0)) := hV ▸ heap_past (heap_last1 w _ _) _
  have h2 : V.heap[w.heap.size + 2]? = some (.cells (stA 0) 53 (0, 0)) := by
    rw [← hV]
    have := heap_alloc_last ((w.alloc (.cells (stA a) 53)).alloc (.cells (stA k) 53)) (.cells (stA 0) 53)
    rwa [show ((w.alloc (.cells (stA a) 53)).alloc (.cells (stA k) 53)).heap.size = w.heap.size + 2 by simp] at this
  have HB0 : Hid (Below w.heap.size w V) := hV ▸ bel1 (bel1 (bel1 (Below.refl _ _) (Nat.le_refl _) _) (by simp) _) (by simp; omega) _
  have c0 := cellOf h1 0 (.int .i64 k) rfl
  have l2 : w.heap.size + 2 < V.heap.size := (Array.getElem?_eq_some_iff.1 h2).1
  have H1 := hide h1
  have HO := hide (ownState k V)
  have HF : Hid (∀ w1, Below V.heap.size V w1 → w1.heap[w.heap.size + 2]? = some (.cells (stA 0) 53 (0, 0)) ∧ Below w.heap.size w w1) := fun w1 hb => ⟨(hb.block _ l2).trans h2, HB0.out.trans (hb.mono HB0.out.size)⟩
  have HV : Hid (((w.alloc (.cells (stA a) 53)).alloc (.cells (stA k) 53)).alloc (.cells #[.int .i64 0, .int .i64 0, .int .i64 0, .string ⟨#[]⟩, .string ⟨#[]⟩, .int .i64 0, .int .u64 0, .string ⟨#[]⟩, .slice none 0 0, .int .i64 0, .bool false, .bool false, .int .i64 0, .int .u64 0, .string ⟨#[]⟩, .slice none 0 0, .int .i64 0, .string ⟨#[]⟩, .slice none 0 0] 53) = V) := hV
  clear hV h1 h2 hk
  go_enter Try.func46, Try.ntmps46
  go_wp2_with (first | (rw [HV.out]; refine Shut.out ?_))
  unfold Shut
  go_wp2_with (first | (refine wpList_load_row rfl 53 (.tmp 3) rfl (w.heap.size + 1) rfl 53 (stA k) (0, 0) _ H1.out Try.underlying53 rfl Try.infoSt ?_) | (go_at_call 29; refine HO.out.mono ?_; rintro e1 w1 ⟨rfl, hb1⟩; refine Shut.out ?_))
  unfold Shut
  obtain ⟨h2, hb⟩ := HF.out w1 hb1
  have H2 := hide h2
  have HB := hide hb
  clear h2 hb hb1
  go_wp2_with (refine wpList_store_row rfl 53 (.tmp 4) (.tmp 10) rfl (w.heap.size + 2) (stA k) rfl rfl 53 _ H2.out Try.infoSt rfl (by kernel_rfl) ?_)
  exact bodyPost_ret (v := .agg (stA k)) (results_cell_row Try.results46 _ _ (w.heap.size + 2) 53 (stA k) (0, 0) _ rfl (setRow_same H2.out _) Try.underlying53 rfl Try.infoSt) rfl ⟨rfl, bel_setRow HB.out (by omega) _⟩
set_option maxRecDepth 100000 in
set_option maxHeartbeats 1000000 in
theorem keep_del (g : Nat) (l : Lk) (T : List (ByteArray × Dv)) (tag : ByteArray) (p : Dv) (w : World) (h : Lnk w g l T) (hz : tag.size ≤ maxLen) :
    Calls Try.prog 47 #[.pointer (some ⟨g, 0, none⟩), .string tag, .agg (dvA p), .bool true] w fun e w' => e = .returned (.tuple #[]) ∧ Lnk w' g l (T.filter fun p => !decide (p.1 = tag)) ∧ Kp (fun k => k = l.dm) w w' := by
  obtain ⟨s0, s1, s2, s3, s4, s5, s6, s7, s8, s9, s10, s11⟩ := h.lb.facts
  have hl := h.lb.lt
  have HT := hide (fun (o : Obj) => (h.tb.at (Below.heap_alloc w o _ h.tb.lt) : TbD (w.alloc o) l.dm T))
  have HL := hide h
  have HZ := hide hz
  clear h hz
  go_enter Try.func47, Try.ntmps47
  go_wp2_with (refine del_D rfl _ _ rfl l.dm rfl tag rfl T (HT.out _) HZ.out ?_; intro w1 hT1 hK1 hS1)
  first | go_end0 | refine bodyPost_ret (results_none rfl _ _ _) rfl ?_
  have k1 : Kp (fun k => k = l.dm) w w1 := ((Kp.refl _ w).alloc _).trans hK1
  exact ⟨rfl, HL.out.put hT1 k1, k1⟩
end Go.Proofs.Ytknkmamjdmadcaa


/- Stage 14: keep, of a delivery that stays. -/
namespace Go.Proofs.Ytknkmamjdmadcaa
open Go.RowKit Go.Maps
set_option linter.unusedVariables false
set_option linter.unusedSimpArgs false

theorem row_run {P : Program} {e : Operand → Value} (W : World) (op : Oper) (ty : TypeId) (x : Operand) (ho : op.op = .load ty x) (b : Nat) (cells : Array Value) (t : TypeId) (fr : Nat × Nat) (hx : e x = .pointer (some ⟨b, 0, none⟩)) (hb : W.heap[b]? = some (.cells cells t fr)) (d : TypeDesc) (hu : P.underlying ty = some d) (hd : d.isRow = true) (hi : (P.info? ty).map (·.size) = some cells.size) :
    (execOp e op).run P W = .ok (.value (.agg cells)) W := by
  have hr : W.rangeAt b 0 cells.toList := fun j v hv => by
    rw [Nat.zero_add]
    simp [World.cell?, hb]
    simpa using hv
  have := run_loadVar_mid (P := P) W b 0 ty cells.toList d hr hu hd (by rw [hi, Array.length_toList])
  rw [Array.toArray_toList] at this
  unfold execOp
  simp only [ho, hx, Instr.loadAt, Instr.sureAddr, Sem.run_bind, Sem.run_pure, Result.andThen_ok, this]
theorem wp_put_D {o : Oper} {a : Act} {w : World} {K : Act → World → Prop} {Q : Exit → Act → World → Prop} (m x v : Operand) (hop : o.op = Op.mapUpdate 82 m x v) (b : Nat) (hm : a.eval m = .map (some b)) (k : ByteArray) (p : Dv) (hx : a.eval x = .string k) (hv : a.eval v = dvV p) (l : List (ByteArray × Dv)) (hT : TbD w b l) (hk : k.size ≤ maxLen) (hn : l.length < maxLen)
    (hK : ∀ w', TbD w' b ((k, p) :: l.filter fun p => !decide (p.1 = k)) → Kp (fun q => q = b) w w' → w'.heap.size = w.heap.size → K (a.put o.dst undef) w') : o.wp Try.prog a w K Q := by
  obtain ⟨D, h1, h2⟩ := hT
  obtain ⟨w', hrun, r1, r2⟩ := h1.store Try.skeyed Try.underlying82 hn (keyS hk) (val := dvV p) (d := .held (dvV p)) (ps := []) rfl
  unfold Oper.wp
  simp [execOp, hop, hm, hx, hv, hrun, Result.andThen]
  exact hK w' (TbD.mk r1 (h2.put k p)) (grown_kp r2) (turned_size r2)
theorem Dv.sz (p : Dv) : (Try.prog.info? 89).map (·.size) = some (dvA p).size := by rw [Try.infoDv]; rfl
set_option maxRecDepth 100000 in
set_option maxHeartbeats 1000000 in
theorem keep_put (g : Nat) (l : Lk) (T : List (ByteArray × Dv)) (tag : ByteArray) (p : Dv) (w : World) (h : Lnk w g l T) (hz : tag.size ≤ maxLen) (hn : T.length < maxLen) :
    Calls Try.prog 47 #[.pointer (some ⟨g, 0, none⟩), .string tag, .agg (dvA p), .bool false] w fun e w' => e = .returned (.tuple #[]) ∧ Lnk w' g l ((tag, p) :: T.filter fun p => !decide (p.1 = tag)) ∧ Kp (fun k => k = l.dm) w w' := by
  obtain ⟨s0, s1, s2, s3, s4, s5, s6, s7, s8, s9, s10, s11⟩ := h.lb.facts
  have hl := h.lb.lt
  have HL := hide h
  have HZ := hide hz
  have HN := hide hn
  obtain ⟨W1, hW1⟩ : ∃ W1, w.alloc (.cells (dvA p) 89) = W1 := ⟨_, rfl⟩
  have HW1 := hide hW1
  have HB1 : Hid (Below w.heap.size w W1) := hW1 ▸ bel1 (Below.refl _ _) (Nat.le_refl _) _
  have HT1 : Hid (TbD W1.drew l.dm T) := h.tb.at (HB1.out.block _ h.tb.lt)
  have HS1 : Hid (W1.drew.cell? ⟨g, 11, none⟩ = some (.map (some l.dm)) ∧ W1.drew.heap[w.heap.size]? = some (.cells (dvA p) 89 (0, 0))) := ⟨(HB1.out.cell (p := ⟨g, 11, none⟩) hl).trans s11, hW1 ▸ heap_alloc_last w _⟩
  have HS2 : Hid (∀ w', Kp (fun k => k = l.dm) W1.drew w' → w'.cell? ⟨g, 11, none⟩ = some (.map (some l.dm)) ∧ w'.heap[w.heap.size]? = some (.cells (dvA p) 89 (0, 0))) := fun w' hk =>
    ⟨(hk.cell (b := g) (Nat.lt_of_lt_of_le hl HB1.out.size) (fun e => h.ne e.symm)).trans HS1.out.1, (hk.block (Array.getElem?_eq_some_iff.1 HS1.out.2).1 (fun e => HT1.out.ne HS1.out.2 e.symm)).trans HS1.out.2⟩
  have HK1 : Hid (Kp (fun k => k = l.dm) w W1.drew) := Kp.ofBelow (HB1.out.trans ((bel_drew W1).mono HB1.out.size))
  clear h hz hn hW1
  go_enter Try.func47, Try.ntmps47
  go_wp2
  rw [HW1.out]
  refine wp_region_held_drew (S := fun W => W.cell? ⟨g, 11, none⟩ = some (.map (some l.dm)) ∧ W.heap[w.heap.size]? = some (.cells (dvA p) 89 (0, 0))) (by kernel_rfl) HS1.out (fun hHeld => ?_)
  refine take_do (i := 0) (d := 14) (v := ?_) rfl rfl (by kernel_rfl) (by kernel_rfl) (by kernel_rfl) (fun _ _ _ h => h) rfl ?_ (by assumption) ?_
  rotate_left
  · intro W hSw
    try dsimp only at hSw
    go_simp
    try with_reducible rfl
  try simp only [List.setIfInBounds_toArray, List.set_cons_zero, List.set_cons_succ]
  refine take_do (i := 1) (d := 15) (v := ?_) rfl rfl (by kernel_rfl) (by kernel_rfl) (by kernel_rfl) (fun _ _ _ h => h) rfl ?_ (by assumption) ?_
  rotate_left
  · intro W hSw
    try dsimp only at hSw
    go_simp
    try with_reducible rfl
  try simp only [List.setIfInBounds_toArray, List.set_cons_zero, List.set_cons_succ]
  refine take_do (i := 2) (d := 16) (v := ?_) rfl rfl (by kernel_rfl) (by kernel_rfl) (by kernel_rfl) (fun _ _ _ h => h) rfl ?_ (by assumption) ?_
  rotate_left
  · intro W hSw
    try dsimp only at hSw
    go_simp
    try with_reducible rfl
  try simp only [List.setIfInBounds_toArray, List.set_cons_zero, List.set_cons_succ]
  refine take_do (i := 3) (d := 17) (v := ?_) rfl rfl (by kernel_rfl) (by kernel_rfl) (by kernel_rfl) (fun _ _ _ h => h) rfl ?_ (by assumption) ?_
  rotate_left
  · intro W hSw
    try dsimp only at hSw
    go_simp
    try with_reducible rfl
  try simp only [List.setIfInBounds_toArray, List.set_cons_zero, List.set_cons_succ]
  refine take_do (i := 4) (d := 18) (v := ?_) rfl rfl (by kernel_rfl) (by kernel_rfl) (by kernel_rfl) (fun _ _ _ h => h) rfl ?_ (by assumption) ?_
  rotate_left
  · intro W hSw
    try dsimp only at hSw
    go_simp
    try with_reducible rfl
  try simp only [List.setIfInBounds_toArray, List.set_cons_zero, List.set_cons_succ]
  refine take_do (i := 5) (d := 19) (v := .agg (dvA p)) rfl rfl (by kernel_rfl) (by kernel_rfl) (by kernel_rfl) (fun _ _ _ h => h) rfl ?_ (by assumption) ?_
  · intro W hSw
    exact row_run W _ 89 (.tmp 6) rfl w.heap.size (dvA p) 89 (0, 0) rfl hSw.2 _ Try.underlying89 rfl (Dv.sz p)
  try simp only [List.setIfInBounds_toArray, List.set_cons_zero, List.set_cons_succ]
  refine wpAnyH_ready (rs := [6]) (by kernel_rfl) (by simp) ?_
  refine AllReadyH.cons rfl (fun K hK => ?_) AllReadyH.nil
  rw [if_pos (by kernel_rfl)]
  refine wp_put_D (.tmp 17) (.tmp 18) (.tmp 19) rfl l.dm rfl tag p rfl rfl T HT1.out HZ.out HN.out ?_
  intro w2 hT2 hK2 hS2
  refine hK.out _ _ (HS2.out w2 hK2) (fun hHeld => ?_)
  refine wpAnyH_done (by kernel_rfl) ?_ _
  go_wp2
  first | go_end0 | refine bodyPost_ret (results_none rfl _ _ _) rfl ?_
  have k1 := HK1.out.trans hK2
  exact ⟨rfl, HL.out.put hT2 k1, k1⟩
end Go.Proofs.Ytknkmamjdmadcaa
