
/- Stage 14: said, maySettle, keep. -/
import Derived.Test.YtjipcdknkghoaaaLSaid
namespace Go.Proofs.Ytjipcdknkghoaaa
open Go.RowKit Go.Maps
set_option linter.unusedVariables false
set_option linter.unusedSimpArgs false

theorem may_yes (g : Nat) (l : Lk) (r : Bool) (w : World) (h : LB w g l) (hm : r = false ∨ l.rm ≠ 1) :
    Calls Try.prog 45 #[.pointer (some ⟨g, 0, none⟩), .bool r] w fun e w' => e = .returned (.bool true) ∧ w = w' := by
  obtain ⟨s0, s1, s2, s3, s4, s5, s6, s7, s8, s9, s10, s11⟩ := h.facts
  have hl := h.lt
  clear h
  cases r
  · go_enter Try.func45, Try.ntmps45
    go_wp2
    go_ret
    exact ⟨rfl, rfl⟩
  · have hq : l.rm ≠ 1 := by simpa using hm
    have hne : (l.rm == 1) = false := by rw [beq_eq_false_iff_ne]; exact hq
    go_enter Try.func45, Try.ntmps45
    go_wp2
    go_ret
    exact ⟨by simp [hq], rfl⟩
set_option maxRecDepth 100000 in
set_option maxHeartbeats 1000000 in
theorem said_new (a k : Int) (w : World) (hk : k ≠ 0) :
    Calls Try.prog 46 #[.agg (stA a), .agg (stA k)] w fun e w' => e = .returned (.agg (stA k)) ∧ Below w.heap.size w w' := by
  have hne : (k == 0) = false := by rw [beq_eq_false_iff_ne]; exact hk
  obtain ⟨V, hV⟩ : ∃ V, ((w.alloc (.cells (stA a) 53)).alloc (.cells (stA k) 53)).alloc (.cells (stA 0) 53) = V := ⟨_, rfl⟩
  have h1 : V.heap[w.heap.size + 1]? = some (.cells (stA k) 53 (0, 0)) := hV ▸ heap_past (heap_last1 w _ _) _
  have h2 : V.heap[w.heap.size + 2]? = some (.cells (stA 0) 53 (0, 0)) := by
    rw [← hV]
    have := heap_alloc_last ((w.alloc (.cells (stA a) 53)).alloc (.cells (stA k) 53)) (.cells (stA 0) 53)
    rwa [show ((w.alloc (.cells (stA a) 53)).alloc (.cells (stA k) 53)).heap.size = w.heap.size + 2 by simp] at this
  have HB0 : Hid (Below w.heap.size w V) := hV ▸ bel1 (bel1 (bel1 (Below.refl _ _) (Nat.le_refl _) _) (by simp) _) (by simp; omega) _
  have c0 := cellOf h1 0 (.int .i64 k) rfl
  have l2 : w.heap.size + 2 < V.heap.size := (Array.getElem?_eq_some_iff.1 h2).1
  have H1 := hide h1
  have HO := hide (ownState k V)
  have HF : Hid (∀ w1, Below V.heap.size V w1 → w1.heap[w.heap.size + 2]? = some (.cells (stA 0) 53 (0, 0)) ∧ Below w.heap.size w w1) := fun w1 hb => ⟨(hb.block _ l2).trans h2, HB0.out.trans (hb.mono HB0.out.size)⟩
  have HV : Hid (((w.alloc (.cells (stA a) 53)).alloc (.cells (stA k) 53)).alloc (.cells #[.int .i64 0, .int .i64 0, .int .i64 0, .string ⟨#[]⟩, .string ⟨#[]⟩, .int .i64 0, .int .u64 0, .string ⟨#[]⟩, .slice none 0 0, .int .i64 0, .bool false, .bool false, .int .i64 0, .int .u64 0, .string ⟨#[]⟩, .slice none 0 0, .int .i64 0, .string ⟨#[]⟩, .slice none 0 0] 53) = V) := hV
  clear hV h1 h2 hk
  go_enter Try.func46, Try.ntmps46
  go_wp2_with (first | (rw [HV.out]; refine Shut.out ?_))
  unfold Shut
  go_wp2_with (first | (refine wpList_load_row rfl 53 (.tmp 3) rfl (w.heap.size + 1) rfl 53 (stA k) (0, 0) _ H1.out Try.underlying53 rfl Try.infoSt ?_) | (go_at_call 29; refine HO.out.mono ?_; rintro e1 w1 ⟨rfl, hb1⟩; refine Shut.out ?_))
  unfold Shut
  obtain ⟨h2, hb⟩ := HF.out w1 hb1
  have H2 := hide h2
  have HB := hide hb
  clear h2 hb hb1
  go_wp2_with (refine wpList_store_row rfl 53 (.tmp 4) (.tmp 10) rfl (w.heap.size + 2) (stA k) rfl rfl 53 _ H2.out Try.infoSt rfl (by kernel_rfl) ?_)
  exact bodyPost_ret (v := .agg (stA k)) (results_cell_row Try.results46 _ _ (w.heap.size + 2) 53 (stA k) (0, 0) _ rfl (setRow_same H2.out _) Try.underlying53 rfl Try.infoSt) rfl ⟨rfl, bel_setRow HB.out (by omega) _⟩
set_option maxRecDepth 100000 in
set_option maxHeartbeats 1000000 in
theorem keep_del (g : Nat) (l : Lk) (T : List (ByteArray × Dv)) (tag : ByteArray) (p : Dv) (w : World) (h : Lnk w g l T) (hz : tag.size ≤ maxLen) :
    Calls Try.prog 47 #[.pointer (some ⟨g, 0, none⟩), .string tag, .agg (dvA p), .bool true] w fun e w' => e = .returned (.tuple #[]) ∧ Lnk w' g l (T.filter fun p => !decide (p.1 = tag)) ∧ Kp (fun k => k = l.dm) w w' := by
  obtain ⟨s0, s1, s2, s3, s4, s5, s6, s7, s8, s9, s10, s11⟩ := h.lb.facts
  have hl := h.lb.lt
  have HT := hide (fun (o : Obj) => (h.tb.at (Below.heap_alloc w o _ h.tb.lt) : TbD (w.alloc o) l.dm T))
  have HL := hide h
  have HZ := hide hz
  clear h hz
  go_enter Try.func47, Try.ntmps47
  go_wp2_with (refine del_D rfl _ _ rfl l.dm rfl tag rfl T (HT.out _) HZ.out ?_; intro w1 hT1 hK1 hS1)
  first | go_end0 | refine bodyPost_ret (results_none rfl _ _ _) rfl ?_
  have k1 : Kp (fun k => k = l.dm) w w1 := ((Kp.refl _ w).alloc _).trans hK1
  exact ⟨rfl, HL.out.put hT1 k1, k1⟩
end Go.Proofs.Ytjipcdknkghoaaa
