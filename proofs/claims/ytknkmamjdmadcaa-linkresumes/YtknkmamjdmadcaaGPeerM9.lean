import Derived.Test.YtknkmamjdmadcaaGMapM9
import Derived.Test.YtknkmamjdmadcaaLKeep2M9
import Derived.Maps.RangeWalk
import Derived.StringKeys
import Derived.OwnWalk
import Derived.Test.YtknkmamjdmadcaaLOwnMM9
import Derived.Test.YtknkmamjdmadcaaLPeerM9

/- Stage 14: keep, of a delivery that stays, with any states. -/
namespace Go.Proofs.Ytknkmamjdmadcaa.G
open Go.RowKit Go.Maps
set_option linter.unusedVariables false
set_option linter.unusedSimpArgs false

theorem wp_put_D {o : Oper} {a : Act} {w : World} {K : Act → World → Prop} {Q : Exit → Act → World → Prop} (m x v : Operand) (hop : o.op = Op.mapUpdate 82 m x v) (b : Nat) (hm : a.eval m = .map (some b)) (k : ByteArray) (p : Dv) (hx : a.eval x = .string k) (hv : a.eval v = dvV p) (l : List (ByteArray × Dv)) (hT : TbD w b l) (hk : k.size ≤ maxLen) (hn : l.length < maxLen)
    (hK : ∀ w', TbD w' b ((k, p) :: l.filter fun p => !decide (p.1 = k)) → Kp (fun q => q = b) w w' → w'.heap.size = w.heap.size → K (a.put o.dst undef) w') : o.wp Try.prog a w K Q := by
  obtain ⟨D, h1, h2⟩ := hT
  obtain ⟨w', hrun, r1, r2⟩ := h1.store Try.skeyed Try.underlying82 hn (keyS hk) (val := dvV p) (d := .held (dvV p)) (ps := []) rfl
  unfold Oper.wp
  simp [execOp, hop, hm, hx, hv, hrun, Result.andThen]
  exact hK w' (TbD.mk r1 (h2.put k p)) (grown_kp r2) (turned_size r2)
set_option maxRecDepth 100000 in
set_option maxHeartbeats 1000000 in
theorem keep_put (g : Nat) (l : Lk) (T : List (ByteArray × Dv)) (tag : ByteArray) (p : Dv) (w : World) (h : Lnk w g l T) (hz : tag.size ≤ maxLen) (hn : T.length < maxLen) :
    Calls Try.prog 47 #[.pointer (some ⟨g, 0, none⟩), .string tag, .agg (dvA p), .bool false] w fun e w' => e = .returned (.tuple #[]) ∧ Lnk w' g l ((tag, p) :: T.filter fun p => !decide (p.1 = tag)) ∧ Kp (fun k => k = l.dm) w w' := by
  obtain ⟨s0, s1, s2, s3, s4, s5, s6, s7, s8, s9, s10, s11⟩ := h.lb.facts
  have hl := h.lb.lt
  have HL := hide h
  have HZ := hide hz
  have HN := hide hn
  obtain ⟨W1, hW1⟩ : ∃ W1, w.alloc (.cells (dvA p) 89) = W1 := ⟨_, rfl⟩
  have HW1 := hide hW1
  have HB1 : Hid (Below w.heap.size w W1) := hW1 ▸ bel1 (Below.refl _ _) (Nat.le_refl _) _
  have HT1 : Hid (TbD W1.drew l.dm T) := h.tb.at (HB1.out.block _ h.tb.lt)
  have HS1 : Hid (W1.drew.cell? ⟨g, 11, none⟩ = some (.map (some l.dm)) ∧ W1.drew.heap[w.heap.size]? = some (.cells (dvA p) 89 (0, 0))) := ⟨(HB1.out.cell (p := ⟨g, 11, none⟩) hl).trans s11, hW1 ▸ heap_alloc_last w _⟩
  have HS2 : Hid (∀ w', Kp (fun k => k = l.dm) W1.drew w' → w'.cell? ⟨g, 11, none⟩ = some (.map (some l.dm)) ∧ w'.heap[w.heap.size]? = some (.cells (dvA p) 89 (0, 0))) := fun w' hk =>
    ⟨(hk.cell (b := g) (Nat.lt_of_lt_of_le hl HB1.out.size) (fun e => h.ne e.symm)).trans HS1.out.1, (hk.block (Array.getElem?_eq_some_iff.1 HS1.out.2).1 (fun e => HT1.out.ne HS1.out.2 e.symm)).trans HS1.out.2⟩
  have HK1 : Hid (Kp (fun k => k = l.dm) w W1.drew) := Kp.ofBelow (HB1.out.trans ((bel_drew W1).mono HB1.out.size))
  clear h hz hn hW1
  go_enter Try.func47, Try.ntmps47
  go_wp2
  rw [HW1.out]
  refine wp_region_held_drew (S := fun W => W.cell? ⟨g, 11, none⟩ = some (.map (some l.dm)) ∧ W.heap[w.heap.size]? = some (.cells (dvA p) 89 (0, 0))) (by kernel_rfl) HS1.out (fun hHeld => ?_)
  refine take_do (i := 0) (d := 14) (v := ?_) rfl rfl (by kernel_rfl) (by kernel_rfl) (by kernel_rfl) (fun _ _ _ h => h) rfl ?_ (by assumption) ?_
  rotate_left
  · intro W hSw
    try dsimp only at hSw
    go_simp
    try with_reducible rfl
  try simp only [List.setIfInBounds_toArray, List.set_cons_zero, List.set_cons_succ]
  refine take_do (i := 1) (d := 15) (v := ?_) rfl rfl (by kernel_rfl) (by kernel_rfl) (by kernel_rfl) (fun _ _ _ h => h) rfl ?_ (by assumption) ?_
  rotate_left
  · intro W hSw
    try dsimp only at hSw
    go_simp
    try with_reducible rfl
  try simp only [List.setIfInBounds_toArray, List.set_cons_zero, List.set_cons_succ]
  refine take_do (i := 2) (d := 16) (v := ?_) rfl rfl (by kernel_rfl) (by kernel_rfl) (by kernel_rfl) (fun _ _ _ h => h) rfl ?_ (by assumption) ?_
  rotate_left
  · intro W hSw
    try dsimp only at hSw
    go_simp
    try with_reducible rfl
  try simp only [List.setIfInBounds_toArray, List.set_cons_zero, List.set_cons_succ]
  refine take_do (i := 3) (d := 17) (v := ?_) rfl rfl (by kernel_rfl) (by kernel_rfl) (by kernel_rfl) (fun _ _ _ h => h) rfl ?_ (by assumption) ?_
  rotate_left
  · intro W hSw
    try dsimp only at hSw
    go_simp
    try with_reducible rfl
  try simp only [List.setIfInBounds_toArray, List.set_cons_zero, List.set_cons_succ]
  refine take_do (i := 4) (d := 18) (v := ?_) rfl rfl (by kernel_rfl) (by kernel_rfl) (by kernel_rfl) (fun _ _ _ h => h) rfl ?_ (by assumption) ?_
  rotate_left
  · intro W hSw
    try dsimp only at hSw
    go_simp
    try with_reducible rfl
  try simp only [List.setIfInBounds_toArray, List.set_cons_zero, List.set_cons_succ]
  refine take_do (i := 5) (d := 19) (v := .agg (dvA p)) rfl rfl (by kernel_rfl) (by kernel_rfl) (by kernel_rfl) (fun _ _ _ h => h) rfl ?_ (by assumption) ?_
  · intro W hSw
    exact row_run W _ 89 (.tmp 6) rfl w.heap.size (dvA p) 89 (0, 0) rfl hSw.2 _ Try.underlying89 rfl (Dv.sz p)
  try simp only [List.setIfInBounds_toArray, List.set_cons_zero, List.set_cons_succ]
  refine wpAnyH_ready (rs := [6]) (by kernel_rfl) (by simp) ?_
  refine AllReadyH.cons rfl (fun K hK => ?_) AllReadyH.nil
  rw [if_pos (by kernel_rfl)]
  refine wp_put_D (.tmp 17) (.tmp 18) (.tmp 19) rfl l.dm rfl tag p rfl rfl T HT1.out HZ.out HN.out ?_
  intro w2 hT2 hK2 hS2
  refine hK.out _ _ (HS2.out w2 hK2) (fun hHeld => ?_)
  refine wpAnyH_done (by kernel_rfl) ?_ _
  go_wp2
  first | go_end0 | refine bodyPost_ret (results_none rfl _ _ _) rfl ?_
  have k1 := HK1.out.trans hK2
  exact ⟨rfl, HL.out.put hT2 k1, k1⟩
end Go.Proofs.Ytknkmamjdmadcaa.G


/- Stage 14: said, of any states. -/
namespace Go.Proofs.Ytknkmamjdmadcaa.G
open Go.RowKit Go.Maps
set_option linter.unusedVariables false
set_option linter.unusedSimpArgs false

def aft (a k : Int) : Int := if k = 0 then a else k
theorem setRow_size (w : World) (b : Nat) (cs : Array Value) : (w.setRow b cs).heap.size = w.heap.size := by simp [World.setRow]
theorem setRow_other (w : World) {b k : Nat} (cs : Array Value) (h : k ≠ b) : (w.setRow b cs).heap[k]? = w.heap[k]? := by
  simp [World.setRow, Array.getElem?_modify, Ne.symm h]
set_option maxRecDepth 100000 in
set_option maxHeartbeats 1000000 in
theorem said_no (d : Nat) (s k : Sw) (Q : Nat → Prop) (w : World) (hq : ∀ b, Q b → b < w.heap.size) (hs : StIn Q w d s) (hk : StIn (fun b => b < w.heap.size) w d k) (h0 : k.k = 0) :
    Calls Try.prog 46 #[.agg s.A, .agg k.A] w fun e w' => ∃ s' : Sw, e = .returned (.agg s'.A) ∧ s'.k = s.k ∧ Hid (StIn (fun b => Q b ∨ New w w' b) w' d s') ∧ Below w.heap.size w w' := by
  obtain ⟨V, hV⟩ : ∃ V, ((w.alloc (.cells s.A 53)).alloc (.cells k.A 53)).alloc (.cells sw0.A 53) = V := ⟨_, rfl⟩
  have hy : V.heap[w.heap.size]? = some (.cells s.A 53 (0, 0)) := hV ▸ heap_past (heap_past (heap_alloc_last w _) _) _
  have h1 : V.heap[w.heap.size + 1]? = some (.cells k.A 53 (0, 0)) := hV ▸ heap_past (heap_last1 w _ _) _
  have h2 : V.heap[w.heap.size + 2]? = some (.cells sw0.A 53 (0, 0)) := by
    rw [← hV]
    have := heap_alloc_last ((w.alloc (.cells s.A 53)).alloc (.cells k.A 53)) (.cells sw0.A 53)
    rwa [show ((w.alloc (.cells s.A 53)).alloc (.cells k.A 53)).heap.size = w.heap.size + 2 by simp] at this
  have HB0 : Hid (Below w.heap.size w V) := hV ▸ bel1 (bel1 (bel1 (Below.refl _ _) (Nat.le_refl _) _) (by simp) _) (by simp; omega) _
  have c0 : V.cell? ⟨w.heap.size + 1, 0, none⟩ = some (.int .i64 k.k) := cellOf h1 0 (.int .i64 k.k) rfl
  have l2 : w.heap.size + 2 < V.heap.size := (Array.getElem?_eq_some_iff.1 h2).1
  have H1 := hide h1
  have HY := hide hy
  have HV : Hid (((w.alloc (.cells s.A 53)).alloc (.cells k.A 53)).alloc (.cells #[.int .i64 0, .int .i64 0, .int .i64 0, .string ⟨#[]⟩, .string ⟨#[]⟩, .int .i64 0, .int .u64 0, .string ⟨#[]⟩, .slice none 0 0, .int .i64 0, .bool false, .bool false, .int .i64 0, .int .u64 0, .string ⟨#[]⟩, .slice none 0 0, .int .i64 0, .string ⟨#[]⟩, .slice none 0 0] 53) = V) := hV
  have HX : Hid (∀ w', Below w.heap.size w w' → StIn (fun b => Q b ∨ New w w' b) w' d s) := fun w' hb => StIn.keep (fun b h => hb.block b (hq b h)) (fun b h => .inl h) hs
  rw [h0] at c0
  have H2 := hide h2
  clear hV h1 h2 hy hs hk hq h0
  go_enter Try.func46, Try.ntmps46
  go_wp2_with (first | (rw [HV.out]; refine Shut.out ?_))
  unfold Shut
  go_wp2_with (first | (refine wpList_load_row rfl 53 (.tmp 2) rfl w.heap.size rfl 53 s.A (0, 0) _ HY.out Try.underlying53 rfl Try.infoSt ?_) | (refine wpList_store_row rfl 53 (.tmp 4) (.tmp 8) rfl (w.heap.size + 2) s.A rfl rfl 53 _ H2.out Try.infoSt rfl s.one ?_))
  have hb := bel_setRow HB0.out (show w.heap.size ≤ w.heap.size + 2 by omega) s.A
  exact bodyPost_ret (v := .agg s.A) (results_cell_row Try.results46 _ _ (w.heap.size + 2) 53 s.A (0, 0) _ rfl (setRow_same H2.out _) Try.underlying53 rfl Try.infoSt) rfl ⟨s, rfl, rfl, HX.out _ hb, hb⟩
set_option maxRecDepth 100000 in
set_option maxHeartbeats 1000000 in
theorem said_new (d : Nat) (s k : Sw) (Q : Nat → Prop) (w : World) (hq : ∀ b, Q b → b < w.heap.size) (hs : StIn Q w d s) (hk : StIn (fun b => b < w.heap.size) w d k) (h0 : k.k ≠ 0) :
    Calls Try.prog 46 #[.agg s.A, .agg k.A] w fun e w' => ∃ s' : Sw, e = .returned (.agg s'.A) ∧ s'.k = k.k ∧ Hid (StIn (fun b => Q b ∨ New w w' b) w' d s') ∧ Below w.heap.size w w' := by
  obtain ⟨V, hV⟩ : ∃ V, ((w.alloc (.cells s.A 53)).alloc (.cells k.A 53)).alloc (.cells sw0.A 53) = V := ⟨_, rfl⟩
  have hy : V.heap[w.heap.size]? = some (.cells s.A 53 (0, 0)) := hV ▸ heap_past (heap_past (heap_alloc_last w _) _) _
  have h1 : V.heap[w.heap.size + 1]? = some (.cells k.A 53 (0, 0)) := hV ▸ heap_past (heap_last1 w _ _) _
  have h2 : V.heap[w.heap.size + 2]? = some (.cells sw0.A 53 (0, 0)) := by
    rw [← hV]
    have := heap_alloc_last ((w.alloc (.cells s.A 53)).alloc (.cells k.A 53)) (.cells sw0.A 53)
    rwa [show ((w.alloc (.cells s.A 53)).alloc (.cells k.A 53)).heap.size = w.heap.size + 2 by simp] at this
  have HB0 : Hid (Below w.heap.size w V) := hV ▸ bel1 (bel1 (bel1 (Below.refl _ _) (Nat.le_refl _) _) (by simp) _) (by simp; omega) _
  have c0 : V.cell? ⟨w.heap.size + 1, 0, none⟩ = some (.int .i64 k.k) := cellOf h1 0 (.int .i64 k.k) rfl
  have l2 : w.heap.size + 2 < V.heap.size := (Array.getElem?_eq_some_iff.1 h2).1
  have H1 := hide h1
  have HY := hide hy
  have HV : Hid (((w.alloc (.cells s.A 53)).alloc (.cells k.A 53)).alloc (.cells #[.int .i64 0, .int .i64 0, .int .i64 0, .string ⟨#[]⟩, .string ⟨#[]⟩, .int .i64 0, .int .u64 0, .string ⟨#[]⟩, .slice none 0 0, .int .i64 0, .bool false, .bool false, .int .i64 0, .int .u64 0, .string ⟨#[]⟩, .slice none 0 0, .int .i64 0, .string ⟨#[]⟩, .slice none 0 0] 53) = V) := hV
  have hne : (k.k == 0) = false := by rw [beq_eq_false_iff_ne]; exact h0
  have HO := hide (state_any d k w.heap.size V HB0.out.size (StIn.keep (fun b h => HB0.out.block b h) (fun _ h => h) hk))
  have HF : Hid (∀ w1, Below V.heap.size V w1 → w1.heap[w.heap.size + 2]? = some (.cells sw0.A 53 (0, 0)) ∧ Below w.heap.size w w1) := fun w1 hb => ⟨(hb.block _ l2).trans h2, HB0.out.trans (hb.mono HB0.out.size)⟩
  clear hV h1 h2 hy hs hk hq h0
  go_enter Try.func46, Try.ntmps46
  go_wp2_with (first | (rw [HV.out]; refine Shut.out ?_))
  unfold Shut
  go_wp2_with (first | (refine wpList_load_row rfl 53 (.tmp 3) rfl (w.heap.size + 1) rfl 53 k.A (0, 0) _ H1.out Try.underlying53 rfl Try.infoSt ?_) | (go_at_call 29; refine HO.out.mono ?_; rintro e1 w1 ⟨y, rfl, hyk, hyi, hb1⟩; refine Shut.out ?_))
  unfold Shut
  obtain ⟨h2, hb⟩ := HF.out w1 hb1
  have H2 := hide h2
  have HB := hide hb
  have HN : Hid (∀ w', w'.heap.size = w1.heap.size → (∀ b, b ≠ w.heap.size + 2 → w'.heap[b]? = w1.heap[b]?) → StIn (fun b => Q b ∨ New w w' b) w' d y) := fun w' hz hh => StIn.keep (fun b h => hh b (fun e => by have := h.1; omega)) (fun b h => .inr ⟨by have := h.1; have := HB0.out.size; omega, hz ▸ h.2⟩) hyi.out
  clear h2 hb hb1 hyi
  go_wp2_with (refine wpList_store_row rfl 53 (.tmp 4) (.tmp 10) rfl (w.heap.size + 2) y.A rfl rfl 53 _ H2.out Try.infoSt rfl y.one ?_)
  exact bodyPost_ret (v := .agg y.A) (results_cell_row Try.results46 _ _ (w.heap.size + 2) 53 y.A (0, 0) _ rfl (setRow_same H2.out _) Try.underlying53 rfl Try.infoSt) rfl ⟨y, rfl, hyk, HN.out _ (setRow_size _ _ _) (fun b hb => setRow_other _ _ hb), bel_setRow HB.out (by omega) _⟩
theorem said_any (d : Nat) (s k : Sw) (Q : Nat → Prop) (w : World) (hq : ∀ b, Q b → b < w.heap.size) (hs : StIn Q w d s) (hk : StIn (fun b => b < w.heap.size) w d k) :
    Calls Try.prog 46 #[.agg s.A, .agg k.A] w fun e w' => ∃ s' : Sw, e = .returned (.agg s'.A) ∧ s'.k = (aft s.k k.k) ∧ Hid (StIn (fun b => Q b ∨ New w w' b) w' d s') ∧ Below w.heap.size w w' := by
  by_cases h0 : k.k = 0
  · rw [show aft s.k k.k = s.k from if_pos h0]; exact said_no d s k Q w hq hs hk h0
  · rw [show aft s.k k.k = k.k from if_neg h0]; exact said_new d s k Q w hq hs hk h0
end Go.Proofs.Ytknkmamjdmadcaa.G


/- Stage 14: Own, with any states. -/
namespace Go.Proofs.Ytknkmamjdmadcaa.G
open Go.RowKit Go.Maps
set_option linter.unusedVariables false
set_option linter.unusedSimpArgs false

theorem set_own {w : World} {N : Nat} {a q : Sw} {t : TypeId} {fr : Nat × Nat} (k : Sw) (h : w.heap[N]? = some (.cells (dvA (a, q)) t fr)) : (w.setCells N 0 k.A.toList).heap[N]? = some (.cells (dvA (k, q)) t fr) :=
  setCells_at N k.L 0 w [] a.L q.L h rfl rfl
theorem set_peer {w : World} {N : Nat} {a q : Sw} {t : TypeId} {fr : Nat × Nat} (k : Sw) (h : w.heap[N]? = some (.cells (dvA (a, q)) t fr)) : (w.setCells N 19 k.A.toList).heap[N]? = some (.cells (dvA (a, k)) t fr) := by
  have := setCells_at N k.L 19 w a.L q.L [] (by rw [List.append_nil]; exact h) rfl rfl
  rwa [List.append_nil] at this
theorem range_own {w : World} {N : Nat} {a q : Sw} {t : TypeId} {fr : Nat × Nat} (h : w.heap[N]? = some (.cells (dvA (a, q)) t fr)) : w.rangeAt N 0 a.L := range_at h [] a.L q.L rfl
theorem range_peer {w : World} {N : Nat} {a q : Sw} {t : TypeId} {fr : Nat × Nat} (h : w.heap[N]? = some (.cells (dvA (a, q)) t fr)) : w.rangeAt N 19 q.L := range_at h a.L q.L [] (by rw [List.append_nil])
theorem there_dv {w : World} {N : Nat} {p : Dv} {t : TypeId} (o : Nat) (ho : o ≤ 19) (h : w.heap[N]? = some (.cells (dvA p) t (0, 0))) (k : Sw) : w.there N o k.A.size := there_of h (show o + 19 ≤ 38 by omega)
theorem Sts.put {d g : Nat} {l : Lk} {w w' : World} {T : List (ByteArray × Dv)} {tag : ByteArray} {p : Dv} (h : Sts d g l w T) (hk : Kp (inL g l) w w') (h1 : StIn (Qg g l w') w' d p.1) (h2 : StIn (Qg g l w') w' d p.2) : Sts d g l w' ((tag, p) :: T.filter fun p => !decide (p.1 = tag)) := fun x hx => by
  rcases List.mem_cons.1 hx with rfl | hx
  · exact ⟨h1, h2⟩
  · exact h.kp hk x (List.mem_filter.1 hx).1
set_option maxRecDepth 100000 in
set_option maxHeartbeats 1000000 in
theorem own_any (d g : Nat) (l : Lk) (T : List (ByteArray × Dv)) (tag : ByteArray) (k : Sw) (w : World) (h : Lnk w g l T) (hS : Sts d g l w T) (hz : tag.size ≤ maxLen) (hh : hasK T tag = true) (hk : StIn (fun b => b < w.heap.size) w d k) (hn : T.length < maxLen) :
    Calls Try.prog 24 #[.pointer (some ⟨g, 0, none⟩), .string tag, .agg k.A, .bool false] w fun e w' => e = .returned (.int .i64 0) ∧ ∃ s' : Sw, s'.k = (aft (lu dv0 T tag).1.k k.k) ∧ Lnk w' g l ((tag, (s', (lu dv0 T tag).2)) :: T.filter fun p => !decide (p.1 = tag)) ∧ Hid (Sts d g l w' ((tag, (s', (lu dv0 T tag).2)) :: T.filter fun p => !decide (p.1 = tag))) ∧ Kp (fun j => j = l.dm) w w' := by
  have hm := hS _ (lu_mem (d := dv0) hh)
  obtain ⟨⟨a, q⟩, hu⟩ : ∃ p, lu dv0 T tag = p := ⟨_, rfl⟩
  rw [hu] at hm
  obtain ⟨ha, hq0⟩ := hm
  simp only at ha hq0
  obtain ⟨V0, hV0⟩ : ∃ V0, w.alloc (.cells k.A 53) = V0 := ⟨_, rfl⟩
  have hb0 : Below w.heap.size w V0 := hV0 ▸ bel1 (Below.refl _ _) (Nat.le_refl _) _
  have z0 : V0.heap.size = w.heap.size + 1 := by rw [← hV0]; simp
  have H0 : Hid (Lnk V0 g l T) := h.below hb0
  obtain ⟨V, hV⟩ : ∃ V, V0.alloc (.cells (dvA (a, q)) 89) = V := ⟨_, rfl⟩
  have hb1 : Below V0.heap.size V0 V := hV ▸ bel1 (Below.refl _ _) (Nat.le_refl _) _
  have z1 : V.heap.size = w.heap.size + 2 := by rw [← hV]; simp; omega
  have h1 : Lnk V g l T := H0.out.below hb1
  have hbV : Below w.heap.size w V := hb0.trans (hb1.mono hb0.size)
  have b0 : V.heap[w.heap.size]? = some (.cells k.A 53 (0, 0)) := (hb1.block _ (by omega)).trans (hV0 ▸ heap_alloc_last w _)
  have b1 : V.heap[w.heap.size + 1]? = some (.cells (dvA (a, q)) 89 (0, 0)) := by rw [← z0, ← hV]; exact heap_alloc_last V0 _
  obtain ⟨s0, s1, s2, s3, s4, s5, s6, s7, s8, s9, s10, s11⟩ := h1.lb.facts
  obtain ⟨t0, t1, t2, t3, t4, t5, t6, t7, t8, t9, t10, t11⟩ := H0.out.lb.facts
  have hl := h1.lb.lt
  have hl0 := H0.out.lb.lt
  have hQ : ∀ b, Qg g l w b → b < w.heap.size := fun b hb => hb.1
  have HS := hide (said_any d a k (Qg g l w) V (fun b hb => Nat.lt_of_lt_of_le hb.1 hbV.size) (StIn.keep (fun b hb => hbV.block b hb.1) (fun _ hb => hb) ha) (StIn.keep (fun b hb => hbV.block b hb) (fun b hb => Nat.lt_of_lt_of_le hb hbV.size) hk))
  have HF : Hid (∀ w1, Below V.heap.size V w1 → w1.heap[w.heap.size + 1]? = some (.cells (dvA (a, q)) 89 (0, 0))) := fun w1 hb => (hb.block _ (by omega)).trans b1
  have HQ : Hid (∀ w1, Below V.heap.size V w1 → ∀ y : Sw, (w1.setCells (w.heap.size + 1) 0 y.A.toList).heap[w.heap.size + 1]? = some (.cells (dvA (y, q)) 89 (0, 0)) ∧ Below w.heap.size w (w1.setCells (w.heap.size + 1) 0 y.A.toList)) := fun w1 hb y => ⟨set_own y (HF.out w1 hb), setCells_below (by omega) _ _ _ (hbV.trans (hb.mono hbV.size))⟩
  have HL := hide h
  have HSt := hide hS
  have HQ0 := hide hq0
  have HB0 := hide b0
  have HB1 := hide b1
  have HV0 := hide hV0
  have HV := hide hV
  have HU := hide hu
  have HH := hide hh
  have HZ := hide hz
  have HN : Hid (∀ c, (V0.alloc (.cells c 89)).heap[w.heap.size + 1]? = some (.cells c 89 (0, 0))) := fun c => by rw [← z0]; exact heap_alloc_last V0 _
  have HR : Hid (∀ c, (V0.alloc (.cells c 89)).setRow (w.heap.size + 1) (dvA (a, q)) = V) := fun c => by rw [← z0, World.setRow_alloc_new]; exact hV
  have hg0 : g ≠ w.heap.size := fun e => by have := h.lb.lt; omega
  clear h hS ha hq0 hQ hz hh hu hk hV0 hV hb0 hb1 h1 hbV b0 b1
  go_enter Try.func24, Try.ntmps24
  go_wp2_with (first | (rw [HV0.out]; refine Shut.out ?_))
  unfold Shut
  go_wp2_with (first | (at_lookup; refine look_D rfl _ _ rfl l.dm rfl tag rfl T H0.out.tb HZ.out ?_; rw [HH.out, HU.out]; unfold dvV) | (refine wpList_store_row rfl 89 (.tmp 9) (.tmp 18) rfl (w.heap.size + 1) (dvA (a, q)) rfl rfl 89 _ (HN.out _) (Dv.sz _) rfl (by kernel_rfl) ?_; rw [HR.out]; refine Shut.out ?_))
  unfold Shut
  go_wp2_with (first | (refine wpList_load_mid rfl 53 (.tmp 33) rfl (w.heap.size + 1) 0 rfl (a.L) _ (range_own HB1.out) Try.underlying53 rfl Try.infoSt ?_) | (refine wpList_load_row rfl 53 (.tmp 6) rfl w.heap.size rfl 53 k.A (0, 0) _ HB0.out Try.underlying53 rfl Try.infoSt ?_) | (go_at_call 46; refine HS.out.mono ?_; rintro e2 w2 ⟨y, rfl, hyk, hyi, hb2⟩; refine Shut.out ?_))
  unfold Shut
  have HF2 := hide (HF.out _ hb2)
  have HQ2 := hide (HQ.out _ hb2 y)
  have HY : Hid (∀ w4, Kp (fun j => j = l.dm) (w2.setCells (w.heap.size + 1) 0 y.A.toList) w4 → Sts d g l w4 ((tag, (y, q)) :: T.filter fun p => !decide (p.1 = tag))) := fun w4 hk4 => by
    have hl4 := HQ2.out.2
    have k4 : Kp (inL g l) w w4 := (Kp.ofBelow hl4).trans (hk4.mono (fun j hj => .inr hj))
    have e1 := setCells_size (w.heap.size + 1) y.A.toList 0 w2
    have zz := hb2.size
    refine HSt.out.put k4 (StIn.keep (fun b hb => ?_) (fun b hb => ?_) hyi.out) (StIn.keep (fun b hb => k4.block hb.1 hb.2) (fun b hb => ⟨Nat.lt_of_lt_of_le hb.1 k4.size, hb.2⟩) HQ0.out)
    · have hlt : b < w2.heap.size := hb.elim (fun h => by have := h.1; omega) (fun h => h.2)
      have hne : b ≠ w.heap.size + 1 := fun e => hb.elim (fun h => by have := h.1; omega) (fun h => by have := h.1; omega)
      have hnd : b ≠ l.dm := fun e => hb.elim (fun h => h.2 (.inr e)) (fun h => by have := h.1; have := HL.out.lt (k := l.dm) (.inr rfl); omega)
      exact (hk4.block (by omega) hnd).trans (setCells_other _ _ hne _ _ _)
    · refine ⟨?_, fun hi => ?_⟩
      · have := hk4.size
        exact hb.elim (fun h => by have := h.1; omega) (fun h => by have := h.2; omega)
      · exact hb.elim (fun h => h.2 hi) (fun h => by have := h.1; have := HL.out.lt hi; omega)
  clear hyi
  go_wp2_with (refine wpList_store_mid rfl 53 (.tmp 37) (.tmp 36) rfl (w.heap.size + 1) 0 y.A rfl rfl (there_dv 0 (by omega) HF2.out y) Try.infoSt y.one ?_; refine Shut.out ?_)
  unfold Shut
  obtain ⟨w3, hw3⟩ : ∃ w3, w2.setCells (w.heap.size + 1) 0 y.A.toList = w3 := ⟨_, rfl⟩
  rw [hw3] at HQ2 HY ⊢
  have H3 := hide (HQ2.out.1)
  have HB3 := hide (HQ2.out.2)
  have HK := hide (keep_put g l T tag (y, q) w3 (HL.out.below HB3.out) HZ.out hn)
  clear hw3 HQ2 HF2 hb2 HQ HF HS HB0 HB1 HN HR
  go_wp2_with (first | (refine wpList_load_row rfl 89 (.tmp 9) rfl (w.heap.size + 1) rfl 89 (dvA (y, q)) (0, 0) _ H3.out Try.underlying89 rfl (Dv.sz _) ?_) | (go_at_call 47; refine HK.out.mono ?_; rintro e4 w4 ⟨rfl, hl4, hk4⟩))
  go_ret
  exact ⟨rfl, y, by rw [HU.out]; exact hyk, by rw [HU.out]; exact hl4, by rw [HU.out]; exact HY.out w4 hk4, (Kp.ofBelow HB3.out).trans hk4⟩
set_option maxRecDepth 100000 in
set_option maxHeartbeats 1000000 in
theorem own_none (g : Nat) (l : Lk) (T : List (ByteArray × Dv)) (tag : ByteArray) (k : Sw) (w : World) (h : Lnk w g l T) (hz : tag.size ≤ maxLen) (hh : hasK T tag = false) :
    Calls Try.prog 24 #[.pointer (some ⟨g, 0, none⟩), .string tag, .agg k.A, .bool false] w fun e w' => e = .returned (.int .i64 143) ∧ Below w.heap.size w w' := by
  obtain ⟨V0, hV0⟩ : ∃ V0, w.alloc (.cells k.A 53) = V0 := ⟨_, rfl⟩
  have hb0 : Below w.heap.size w V0 := hV0 ▸ bel1 (Below.refl _ _) (Nat.le_refl _) _
  have z0 : V0.heap.size = w.heap.size + 1 := by rw [← hV0]; simp
  have H0 : Hid (Lnk V0 g l T) := h.below hb0
  obtain ⟨t0, t1, t2, t3, t4, t5, t6, t7, t8, t9, t10, t11⟩ := H0.out.lb.facts
  have hl0 := H0.out.lb.lt
  have HV0 := hide hV0
  have HH := hide hh
  have HZ := hide hz
  have HN : Hid (∀ c, (V0.alloc (.cells c 89)).heap[w.heap.size + 1]? = some (.cells c 89 (0, 0))) := fun c => by rw [← z0]; exact heap_alloc_last V0 _
  have HR : Hid (∀ c, Below w.heap.size w ((V0.alloc (.cells c 89)).setRow (w.heap.size + 1) (dvA dv0))) := fun c => by rw [← z0, World.setRow_alloc_new]; exact bel1 hb0 hb0.size _
  have hg0 : g ≠ w.heap.size := fun e => by have := h.lb.lt; omega
  clear h hz hh hV0 hb0
  go_enter Try.func24, Try.ntmps24
  go_wp2_with (first | (rw [HV0.out]; refine Shut.out ?_))
  unfold Shut
  go_wp2_with (first | (at_lookup; refine look_D rfl _ _ rfl l.dm rfl tag rfl T H0.out.tb HZ.out ?_; rw [HH.out, lu_none HH.out]; unfold dvV) | (refine wpList_store_row rfl 89 (.tmp 9) (.tmp 18) rfl (w.heap.size + 1) (dvA dv0) rfl rfl 89 _ (HN.out _) (Dv.sz _) rfl (by kernel_rfl) ?_))
  go_ret
  exact ⟨rfl, HR.out _⟩
end Go.Proofs.Ytknkmamjdmadcaa.G


/- Stage 14: Peer, with any states. -/
namespace Go.Proofs.Ytknkmamjdmadcaa.G
open Go.RowKit Go.Maps
set_option linter.unusedVariables false
set_option linter.unusedSimpArgs false

set_option maxRecDepth 100000 in
set_option maxHeartbeats 1000000 in
theorem peer_no (d g : Nat) (l : Lk) (T : List (ByteArray × Dv)) (tag : ByteArray) (k : Sw) (w : World) (h : Lnk w g l T) (hS : Sts d g l w T) (hz : tag.size ≤ maxLen) (hh : hasK T tag = true) (hk : StIn (fun b => b < w.heap.size) w d k) (hkk : k.k = 0) (hn : T.length < maxLen) :
    Calls Try.prog 25 #[.pointer (some ⟨g, 0, none⟩), .string tag, .agg k.A, .bool false] w fun e w' => (∃ n : Bool, e = .returned (.tuple #[.bool n, .int .i64 0])) ∧ ∃ s' : Sw, s'.k = (aft (lu dv0 T tag).2.k k.k) ∧ Lnk w' g l ((tag, ((lu dv0 T tag).1, s')) :: T.filter fun p => !decide (p.1 = tag)) ∧ Hid (Sts d g l w' ((tag, ((lu dv0 T tag).1, s')) :: T.filter fun p => !decide (p.1 = tag))) ∧ Kp (fun j => j = l.dm) w w' := by
  have hm := hS _ (lu_mem (d := dv0) hh)
  obtain ⟨⟨a, q⟩, hu⟩ : ∃ p, lu dv0 T tag = p := ⟨_, rfl⟩
  rw [hu] at hm
  obtain ⟨ha, hq0⟩ := hm
  simp only at ha hq0
  obtain ⟨V0, hV0⟩ : ∃ V0, w.alloc (.cells k.A 53) = V0 := ⟨_, rfl⟩
  have hb0 : Below w.heap.size w V0 := hV0 ▸ bel1 (Below.refl _ _) (Nat.le_refl _) _
  have z0 : V0.heap.size = w.heap.size + 1 := by rw [← hV0]; simp
  have H0 : Hid (Lnk V0 g l T) := h.below hb0
  obtain ⟨V, hV⟩ : ∃ V, V0.alloc (.cells (dvA (a, q)) 89) = V := ⟨_, rfl⟩
  have hb1 : Below V0.heap.size V0 V := hV ▸ bel1 (Below.refl _ _) (Nat.le_refl _) _
  have z1 : V.heap.size = w.heap.size + 2 := by rw [← hV]; simp; omega
  have h1 : Lnk V g l T := H0.out.below hb1
  have hbV : Below w.heap.size w V := hb0.trans (hb1.mono hb0.size)
  have b0 : V.heap[w.heap.size]? = some (.cells k.A 53 (0, 0)) := (hb1.block _ (by omega)).trans (hV0 ▸ heap_alloc_last w _)
  have b1 : V.heap[w.heap.size + 1]? = some (.cells (dvA (a, q)) 89 (0, 0)) := by rw [← z0, ← hV]; exact heap_alloc_last V0 _
  obtain ⟨s0, s1, s2, s3, s4, s5, s6, s7, s8, s9, s10, s11⟩ := h1.lb.facts
  obtain ⟨t0, t1, t2, t3, t4, t5, t6, t7, t8, t9, t10, t11⟩ := H0.out.lb.facts
  have p0 : V.cell? ⟨w.heap.size, 0, none⟩ = some (.int .i64 k.k) := cellOf b0 0 (.int .i64 k.k) rfl
  rw [hkk] at p0
  have hlv : w.heap.size + 1 < V.heap.size := by omega
  have hlv0 : w.heap.size < V.heap.size := by omega
  have HSm := hide (same_any d k q V.heap.size V (Nat.le_refl _) (StIn.keep (fun b hb => hbV.block b hb) (fun b hb => Nat.lt_of_lt_of_le hb hbV.size) hk) (StIn.keep (fun b hb => hbV.block b hb.1) (fun b hb => Nat.lt_of_lt_of_le hb.1 hbV.size) hq0))
  have HSd : Hid (∀ w1, Below V.heap.size V w1 → Calls Try.prog 46 #[.agg q.A, .agg k.A] w1 fun e w' => ∃ s' : Sw, e = .returned (.agg s'.A) ∧ s'.k = (aft q.k k.k) ∧ Hid (StIn (fun b => Qg g l w b ∨ New w1 w' b) w' d s') ∧ Below w1.heap.size w1 w') := fun w1 hb => by
    have hb2 : Below w.heap.size w w1 := hbV.trans (hb.mono hbV.size)
    exact said_any d q k (Qg g l w) w1 (fun b h => Nat.lt_of_lt_of_le h.1 hb2.size) (StIn.keep (fun b h => hb2.block b h.1) (fun _ h => h) hq0) (StIn.keep (fun b h => hb2.block b h) (fun b h => Nat.lt_of_lt_of_le h hb2.size) hk)
  have hl := h1.lb.lt
  have hl0 := H0.out.lb.lt
  have HF : Hid (∀ w1, Below V.heap.size V w1 → w1.heap[w.heap.size + 1]? = some (.cells (dvA (a, q)) 89 (0, 0))) := fun w1 hb => (hb.block _ (by omega)).trans b1
  have HQ : Hid (∀ w1, Below V.heap.size V w1 → ∀ y : Sw, (w1.setCells (w.heap.size + 1) 19 y.A.toList).heap[w.heap.size + 1]? = some (.cells (dvA (a, y)) 89 (0, 0)) ∧ Below w.heap.size w (w1.setCells (w.heap.size + 1) 19 y.A.toList)) := fun w1 hb y => ⟨set_peer y (HF.out w1 hb), setCells_below (by omega) _ _ _ (hbV.trans (hb.mono hbV.size))⟩
  have HL := hide h
  have HSt := hide hS
  have HA0 := hide ha
  have HB0 := hide b0
  have HB1 := hide b1
  have HV0 := hide hV0
  have HV := hide hV
  have HU := hide hu
  have HH := hide hh
  have HZ := hide hz
  have HN : Hid (∀ c, (V0.alloc (.cells c 89)).heap[w.heap.size + 1]? = some (.cells c 89 (0, 0))) := fun c => by rw [← z0]; exact heap_alloc_last V0 _
  have HR : Hid (∀ c, (V0.alloc (.cells c 89)).setRow (w.heap.size + 1) (dvA (a, q)) = V) := fun c => by rw [← z0, World.setRow_alloc_new]; exact hV
  have hg0 : g ≠ w.heap.size := fun e => by have := h.lb.lt; omega
  clear h hS ha hq0 hkk hz hh hu hk hV0 hV hb0 hb1 h1 hbV b0 b1
  go_enter Try.func25, Try.ntmps25
  go_wp2_with (first | (rw [HV0.out]; refine Shut.out ?_))
  unfold Shut
  go_wp2_with (first | (at_lookup; refine look_D rfl _ _ rfl l.dm rfl tag rfl T H0.out.tb HZ.out ?_; rw [HH.out, HU.out]; unfold dvV) | (refine wpList_store_row rfl 89 (.tmp 10) (.tmp 20) rfl (w.heap.size + 1) (dvA (a, q)) rfl rfl 89 _ (HN.out _) (Dv.sz _) rfl (by kernel_rfl) ?_; rw [HR.out]; refine Shut.out ?_))
  unfold Shut
  obtain ⟨w1, hw1⟩ : ∃ w1, V = w1 := ⟨_, rfl⟩
  have hbs : Below V.heap.size V w1 := hw1 ▸ Below.refl _ _
  have HB0' := hide ((hbs.block _ hlv0).trans HB0.out)
  have HB1' := hide ((hbs.block _ hlv).trans HB1.out)
  have HS := hide (HSd.out w1 hbs)
  have HBS := hide hbs
  have HW := hide hw1
  clear hbs HSm hw1
  go_wp2_with (with_reducible refine stop_load 53 (.tmp 49) rfl ?_)
  unfold Shut
  rw [HW.out]
  clear p0
  refine wpList_load_mid rfl 53 (.tmp 49) rfl (w.heap.size + 1) 19 rfl (q.L) _ (range_peer HB1'.out) Try.underlying53 rfl Try.infoSt ?_
  refine wpList_load_row rfl 53 (.tmp 6) rfl w.heap.size rfl 53 k.A (0, 0) _ HB0'.out Try.underlying53 rfl Try.infoSt ?_
  go_wp2_with (go_at_call 46; refine HS.out.mono ?_; rintro e2 w2 ⟨y, rfl, hyk, hyi, hb2⟩; refine Shut.out ?_)
  unfold Shut
  have HF2 := hide (HF.out _ (HBS.out.trans (hb2.mono HBS.out.size)))
  have HQ2 := hide (HQ.out _ (HBS.out.trans (hb2.mono HBS.out.size)) y)
  have HY : Hid (∀ w4, Kp (fun j => j = l.dm) (w2.setCells (w.heap.size + 1) 19 y.A.toList) w4 → Sts d g l w4 ((tag, (a, y)) :: T.filter fun p => !decide (p.1 = tag))) := fun w4 hk4 => by
    have hl4 := HQ2.out.2
    have k4 : Kp (inL g l) w w4 := (Kp.ofBelow hl4).trans (hk4.mono (fun j hj => .inr hj))
    have e1 := setCells_size (w.heap.size + 1) y.A.toList 19 w2
    have zz := hb2.size
    have zy := HBS.out.size
    refine HSt.out.put k4 (StIn.keep (fun b hb => k4.block hb.1 hb.2) (fun b hb => ⟨Nat.lt_of_lt_of_le hb.1 k4.size, hb.2⟩) HA0.out) (StIn.keep (fun b hb => ?_) (fun b hb => ?_) hyi.out)
    · have hlt : b < w2.heap.size := hb.elim (fun h => by have := h.1; omega) (fun h => h.2)
      have hne : b ≠ w.heap.size + 1 := fun e => hb.elim (fun h => by have := h.1; omega) (fun h => by have := h.1; omega)
      have hnd : b ≠ l.dm := fun e => hb.elim (fun h => h.2 (.inr e)) (fun h => by have := h.1; have := HL.out.lt (k := l.dm) (.inr rfl); omega)
      exact (hk4.block (by omega) hnd).trans (setCells_other _ _ hne _ _ _)
    · refine ⟨?_, fun hi => ?_⟩
      · have := hk4.size
        exact hb.elim (fun h => by have := h.1; omega) (fun h => by have := h.2; omega)
      · exact hb.elim (fun h => h.2 hi) (fun h => by have := h.1; have := HL.out.lt hi; omega)
  clear hyi
  go_wp2_with (refine wpList_store_mid rfl 53 (.tmp 53) (.tmp 52) rfl (w.heap.size + 1) 19 y.A rfl rfl (there_dv 19 (by omega) HF2.out y) Try.infoSt y.one ?_; refine Shut.out ?_)
  unfold Shut
  obtain ⟨w3, hw3⟩ : ∃ w3, w2.setCells (w.heap.size + 1) 19 y.A.toList = w3 := ⟨_, rfl⟩
  rw [hw3] at HQ2 HY ⊢
  have H3 := hide (HQ2.out.1)
  have HB3 := hide (HQ2.out.2)
  have HK := hide (keep_put g l T tag (a, y) w3 (HL.out.below HB3.out) HZ.out hn)
  clear hw3 HQ2 HF2 hb2 HQ HF HS HB0 HB1 HN HR
  go_wp2_with (first | (refine wpList_load_row rfl 89 (.tmp 10) rfl (w.heap.size + 1) rfl 89 (dvA (a, y)) (0, 0) _ H3.out Try.underlying89 rfl (Dv.sz _) ?_) | (go_at_call 47; refine HK.out.mono ?_; rintro e4 w4 ⟨rfl, hl4, hk4⟩))
  go_ret2
  exact ⟨⟨_, rfl⟩, y, by rw [HU.out]; exact hyk, by rw [HU.out]; exact hl4, by rw [HU.out]; exact HY.out w4 hk4, (Kp.ofBelow HB3.out).trans hk4⟩
set_option maxRecDepth 100000 in
set_option maxHeartbeats 1000000 in
theorem peer_yes (d g : Nat) (l : Lk) (T : List (ByteArray × Dv)) (tag : ByteArray) (k : Sw) (w : World) (h : Lnk w g l T) (hS : Sts d g l w T) (hz : tag.size ≤ maxLen) (hh : hasK T tag = true) (hk : StIn (fun b => b < w.heap.size) w d k) (hkk : k.k ≠ 0) (hn : T.length < maxLen) :
    Calls Try.prog 25 #[.pointer (some ⟨g, 0, none⟩), .string tag, .agg k.A, .bool false] w fun e w' => (∃ n : Bool, e = .returned (.tuple #[.bool n, .int .i64 0])) ∧ ∃ s' : Sw, s'.k = (aft (lu dv0 T tag).2.k k.k) ∧ Lnk w' g l ((tag, ((lu dv0 T tag).1, s')) :: T.filter fun p => !decide (p.1 = tag)) ∧ Hid (Sts d g l w' ((tag, ((lu dv0 T tag).1, s')) :: T.filter fun p => !decide (p.1 = tag))) ∧ Kp (fun j => j = l.dm) w w' := by
  have hm := hS _ (lu_mem (d := dv0) hh)
  obtain ⟨⟨a, q⟩, hu⟩ : ∃ p, lu dv0 T tag = p := ⟨_, rfl⟩
  rw [hu] at hm
  obtain ⟨ha, hq0⟩ := hm
  simp only at ha hq0
  obtain ⟨V0, hV0⟩ : ∃ V0, w.alloc (.cells k.A 53) = V0 := ⟨_, rfl⟩
  have hb0 : Below w.heap.size w V0 := hV0 ▸ bel1 (Below.refl _ _) (Nat.le_refl _) _
  have z0 : V0.heap.size = w.heap.size + 1 := by rw [← hV0]; simp
  have H0 : Hid (Lnk V0 g l T) := h.below hb0
  obtain ⟨V, hV⟩ : ∃ V, V0.alloc (.cells (dvA (a, q)) 89) = V := ⟨_, rfl⟩
  have hb1 : Below V0.heap.size V0 V := hV ▸ bel1 (Below.refl _ _) (Nat.le_refl _) _
  have z1 : V.heap.size = w.heap.size + 2 := by rw [← hV]; simp; omega
  have h1 : Lnk V g l T := H0.out.below hb1
  have hbV : Below w.heap.size w V := hb0.trans (hb1.mono hb0.size)
  have b0 : V.heap[w.heap.size]? = some (.cells k.A 53 (0, 0)) := (hb1.block _ (by omega)).trans (hV0 ▸ heap_alloc_last w _)
  have b1 : V.heap[w.heap.size + 1]? = some (.cells (dvA (a, q)) 89 (0, 0)) := by rw [← z0, ← hV]; exact heap_alloc_last V0 _
  obtain ⟨s0, s1, s2, s3, s4, s5, s6, s7, s8, s9, s10, s11⟩ := h1.lb.facts
  obtain ⟨t0, t1, t2, t3, t4, t5, t6, t7, t8, t9, t10, t11⟩ := H0.out.lb.facts
  have hk0 : (k.k != 0) = true := by rw [bne_iff_ne]; exact hkk
  have p0 : V.cell? ⟨w.heap.size, 0, none⟩ = some (.int .i64 k.k) := cellOf b0 0 (.int .i64 k.k) rfl
  have hlv : w.heap.size + 1 < V.heap.size := by omega
  have hlv0 : w.heap.size < V.heap.size := by omega
  have HSm := hide (same_any d k q V.heap.size V (Nat.le_refl _) (StIn.keep (fun b hb => hbV.block b hb) (fun b hb => Nat.lt_of_lt_of_le hb hbV.size) hk) (StIn.keep (fun b hb => hbV.block b hb.1) (fun b hb => Nat.lt_of_lt_of_le hb.1 hbV.size) hq0))
  have HSd : Hid (∀ w1, Below V.heap.size V w1 → Calls Try.prog 46 #[.agg q.A, .agg k.A] w1 fun e w' => ∃ s' : Sw, e = .returned (.agg s'.A) ∧ s'.k = (aft q.k k.k) ∧ Hid (StIn (fun b => Qg g l w b ∨ New w1 w' b) w' d s') ∧ Below w1.heap.size w1 w') := fun w1 hb => by
    have hb2 : Below w.heap.size w w1 := hbV.trans (hb.mono hbV.size)
    exact said_any d q k (Qg g l w) w1 (fun b h => Nat.lt_of_lt_of_le h.1 hb2.size) (StIn.keep (fun b h => hb2.block b h.1) (fun _ h => h) hq0) (StIn.keep (fun b h => hb2.block b h) (fun b h => Nat.lt_of_lt_of_le h hb2.size) hk)
  have hl := h1.lb.lt
  have hl0 := H0.out.lb.lt
  have HF : Hid (∀ w1, Below V.heap.size V w1 → w1.heap[w.heap.size + 1]? = some (.cells (dvA (a, q)) 89 (0, 0))) := fun w1 hb => (hb.block _ (by omega)).trans b1
  have HQ : Hid (∀ w1, Below V.heap.size V w1 → ∀ y : Sw, (w1.setCells (w.heap.size + 1) 19 y.A.toList).heap[w.heap.size + 1]? = some (.cells (dvA (a, y)) 89 (0, 0)) ∧ Below w.heap.size w (w1.setCells (w.heap.size + 1) 19 y.A.toList)) := fun w1 hb y => ⟨set_peer y (HF.out w1 hb), setCells_below (by omega) _ _ _ (hbV.trans (hb.mono hbV.size))⟩
  have HL := hide h
  have HSt := hide hS
  have HA0 := hide ha
  have HB0 := hide b0
  have HB1 := hide b1
  have HV0 := hide hV0
  have HV := hide hV
  have HU := hide hu
  have HH := hide hh
  have HZ := hide hz
  have HN : Hid (∀ c, (V0.alloc (.cells c 89)).heap[w.heap.size + 1]? = some (.cells c 89 (0, 0))) := fun c => by rw [← z0]; exact heap_alloc_last V0 _
  have HR : Hid (∀ c, (V0.alloc (.cells c 89)).setRow (w.heap.size + 1) (dvA (a, q)) = V) := fun c => by rw [← z0, World.setRow_alloc_new]; exact hV
  have hg0 : g ≠ w.heap.size := fun e => by have := h.lb.lt; omega
  clear h hS ha hq0 hkk hz hh hu hk hV0 hV hb0 hb1 h1 hbV b0 b1
  go_enter Try.func25, Try.ntmps25
  go_wp2_with (first | (rw [HV0.out]; refine Shut.out ?_))
  unfold Shut
  go_wp2_with (first | (at_lookup; refine look_D rfl _ _ rfl l.dm rfl tag rfl T H0.out.tb HZ.out ?_; rw [HH.out, HU.out]; unfold dvV) | (refine wpList_store_row rfl 89 (.tmp 10) (.tmp 20) rfl (w.heap.size + 1) (dvA (a, q)) rfl rfl 89 _ (HN.out _) (Dv.sz _) rfl (by kernel_rfl) ?_; rw [HR.out]; refine Shut.out ?_))
  unfold Shut
  go_wp2_with (with_reducible refine stop_load 53 (.tmp 6) rfl ?_)
  unfold Shut
  refine wpList_wanted (by kernel_rfl) fun K hK => wp_load_row 53 (.tmp 6) rfl w.heap.size rfl 53 k.A (0, 0) _ HB0.out Try.underlying53 rfl Try.infoSt (hK _ _ ?_)
  clear hK K
  go_wp2_with (with_reducible refine stop_load 53 (.tmp 43) rfl ?_)
  unfold Shut
  refine wpList_wanted (by kernel_rfl) fun K hK => wp_load_mid 53 (.tmp 43) rfl (w.heap.size + 1) 19 rfl (q.L) _ (range_peer HB1.out) Try.underlying53 rfl Try.infoSt (hK _ _ ?_)
  clear hK K
  go_wp2_with (first | (go_at_call 48; refine HSm.out.mono ?_; rintro e1 w1 ⟨q0, rfl, hbs⟩; refine Shut.out ?_))
  unfold Shut
  have HB0' := hide ((hbs.block _ hlv0).trans HB0.out)
  have HB1' := hide ((hbs.block _ hlv).trans HB1.out)
  have HS := hide (HSd.out w1 hbs)
  have HBS := hide hbs
  clear hbs HSm p0
  go_wp2_with (with_reducible refine stop_load 53 (.tmp 49) rfl ?_)
  unfold Shut
  refine wpList_load_mid rfl 53 (.tmp 49) rfl (w.heap.size + 1) 19 rfl (q.L) _ (range_peer HB1'.out) Try.underlying53 rfl Try.infoSt ?_
  refine wpList_load_row rfl 53 (.tmp 6) rfl w.heap.size rfl 53 k.A (0, 0) _ HB0'.out Try.underlying53 rfl Try.infoSt ?_
  go_wp2_with (go_at_call 46; refine HS.out.mono ?_; rintro e2 w2 ⟨y, rfl, hyk, hyi, hb2⟩; refine Shut.out ?_)
  unfold Shut
  have HF2 := hide (HF.out _ (HBS.out.trans (hb2.mono HBS.out.size)))
  have HQ2 := hide (HQ.out _ (HBS.out.trans (hb2.mono HBS.out.size)) y)
  have HY : Hid (∀ w4, Kp (fun j => j = l.dm) (w2.setCells (w.heap.size + 1) 19 y.A.toList) w4 → Sts d g l w4 ((tag, (a, y)) :: T.filter fun p => !decide (p.1 = tag))) := fun w4 hk4 => by
    have hl4 := HQ2.out.2
    have k4 : Kp (inL g l) w w4 := (Kp.ofBelow hl4).trans (hk4.mono (fun j hj => .inr hj))
    have e1 := setCells_size (w.heap.size + 1) y.A.toList 19 w2
    have zz := hb2.size
    have zy := HBS.out.size
    refine HSt.out.put k4 (StIn.keep (fun b hb => k4.block hb.1 hb.2) (fun b hb => ⟨Nat.lt_of_lt_of_le hb.1 k4.size, hb.2⟩) HA0.out) (StIn.keep (fun b hb => ?_) (fun b hb => ?_) hyi.out)
    · have hlt : b < w2.heap.size := hb.elim (fun h => by have := h.1; omega) (fun h => h.2)
      have hne : b ≠ w.heap.size + 1 := fun e => hb.elim (fun h => by have := h.1; omega) (fun h => by have := h.1; omega)
      have hnd : b ≠ l.dm := fun e => hb.elim (fun h => h.2 (.inr e)) (fun h => by have := h.1; have := HL.out.lt (k := l.dm) (.inr rfl); omega)
      exact (hk4.block (by omega) hnd).trans (setCells_other _ _ hne _ _ _)
    · refine ⟨?_, fun hi => ?_⟩
      · have := hk4.size
        exact hb.elim (fun h => by have := h.1; omega) (fun h => by have := h.2; omega)
      · exact hb.elim (fun h => h.2 hi) (fun h => by have := h.1; have := HL.out.lt hi; omega)
  clear hyi
  go_wp2_with (refine wpList_store_mid rfl 53 (.tmp 53) (.tmp 52) rfl (w.heap.size + 1) 19 y.A rfl rfl (there_dv 19 (by omega) HF2.out y) Try.infoSt y.one ?_; refine Shut.out ?_)
  unfold Shut
  obtain ⟨w3, hw3⟩ : ∃ w3, w2.setCells (w.heap.size + 1) 19 y.A.toList = w3 := ⟨_, rfl⟩
  rw [hw3] at HQ2 HY ⊢
  have H3 := hide (HQ2.out.1)
  have HB3 := hide (HQ2.out.2)
  have HK := hide (keep_put g l T tag (a, y) w3 (HL.out.below HB3.out) HZ.out hn)
  clear hw3 HQ2 HF2 hb2 HQ HF HS HB0 HB1 HN HR
  go_wp2_with (first | (refine wpList_load_row rfl 89 (.tmp 10) rfl (w.heap.size + 1) rfl 89 (dvA (a, y)) (0, 0) _ H3.out Try.underlying89 rfl (Dv.sz _) ?_) | (go_at_call 47; refine HK.out.mono ?_; rintro e4 w4 ⟨rfl, hl4, hk4⟩))
  go_ret2
  exact ⟨⟨_, rfl⟩, y, by rw [HU.out]; exact hyk, by rw [HU.out]; exact hl4, by rw [HU.out]; exact HY.out w4 hk4, (Kp.ofBelow HB3.out).trans hk4⟩
theorem peer_any (d g : Nat) (l : Lk) (T : List (ByteArray × Dv)) (tag : ByteArray) (k : Sw) (w : World) (h : Lnk w g l T) (hS : Sts d g l w T) (hz : tag.size ≤ maxLen) (hh : hasK T tag = true) (hk : StIn (fun b => b < w.heap.size) w d k) (hn : T.length < maxLen) :
    Calls Try.prog 25 #[.pointer (some ⟨g, 0, none⟩), .string tag, .agg k.A, .bool false] w fun e w' => (∃ n : Bool, e = .returned (.tuple #[.bool n, .int .i64 0])) ∧ ∃ s' : Sw, s'.k = (aft (lu dv0 T tag).2.k k.k) ∧ Lnk w' g l ((tag, ((lu dv0 T tag).1, s')) :: T.filter fun p => !decide (p.1 = tag)) ∧ Hid (Sts d g l w' ((tag, ((lu dv0 T tag).1, s')) :: T.filter fun p => !decide (p.1 = tag))) ∧ Kp (fun j => j = l.dm) w w' := by
  by_cases hkk : k.k = 0
  · exact peer_no d g l T tag k w h hS hz hh hk hkk hn
  · exact peer_yes d g l T tag k w h hS hz hh hk hkk hn
set_option maxRecDepth 100000 in
set_option maxHeartbeats 1000000 in
theorem peer_none (g : Nat) (l : Lk) (T : List (ByteArray × Dv)) (tag : ByteArray) (k : Sw) (w : World) (h : Lnk w g l T) (hz : tag.size ≤ maxLen) (hh : hasK T tag = false) :
    Calls Try.prog 25 #[.pointer (some ⟨g, 0, none⟩), .string tag, .agg k.A, .bool false] w fun e w' => e = .returned (.tuple #[.bool false, .int .i64 143]) ∧ Below w.heap.size w w' := by
  obtain ⟨V0, hV0⟩ : ∃ V0, w.alloc (.cells k.A 53) = V0 := ⟨_, rfl⟩
  have hb0 : Below w.heap.size w V0 := hV0 ▸ bel1 (Below.refl _ _) (Nat.le_refl _) _
  have z0 : V0.heap.size = w.heap.size + 1 := by rw [← hV0]; simp
  have H0 : Hid (Lnk V0 g l T) := h.below hb0
  obtain ⟨t0, t1, t2, t3, t4, t5, t6, t7, t8, t9, t10, t11⟩ := H0.out.lb.facts
  have hl0 := H0.out.lb.lt
  have HV0 := hide hV0
  have HH := hide hh
  have HZ := hide hz
  have HN : Hid (∀ c, (V0.alloc (.cells c 89)).heap[w.heap.size + 1]? = some (.cells c 89 (0, 0))) := fun c => by rw [← z0]; exact heap_alloc_last V0 _
  have HR : Hid (∀ c, Below w.heap.size w ((V0.alloc (.cells c 89)).setRow (w.heap.size + 1) (dvA dv0))) := fun c => by rw [← z0, World.setRow_alloc_new]; exact bel1 hb0 hb0.size _
  have hg0 : g ≠ w.heap.size := fun e => by have := h.lb.lt; omega
  clear h hz hh hV0 hb0
  go_enter Try.func25, Try.ntmps25
  go_wp2_with (first | (rw [HV0.out]; refine Shut.out ?_))
  unfold Shut
  go_wp2_with (first | (at_lookup; refine look_D rfl _ _ rfl l.dm rfl tag rfl T H0.out.tb HZ.out ?_; rw [HH.out, lu_none HH.out]; unfold dvV) | (refine wpList_store_row rfl 89 (.tmp 10) (.tmp 20) rfl (w.heap.size + 1) (dvA dv0) rfl rfl 89 _ (HN.out _) (Dv.sz _) rfl (by kernel_rfl) ?_))
  go_ret2
  exact ⟨rfl, HR.out _⟩
end Go.Proofs.Ytknkmamjdmadcaa.G
