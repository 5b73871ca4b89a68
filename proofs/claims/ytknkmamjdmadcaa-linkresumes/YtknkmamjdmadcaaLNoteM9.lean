import Derived.Test.YtknkmamjdmadcaaLSeeM9

/- Stage 14: note, Send, Got. -/
namespace Go.Proofs.Ytknkmamjdmadcaa
open Go.RowKit Go.Maps
set_option linter.unusedVariables false
set_option linter.unusedSimpArgs false

theorem Try.infoDv : (Try.prog.info? 89).map (·.size) = some 38 := by kernel_rfl
/-- counted by one delivery -/
def Lk.one (l : Lk) : Lk := { l.on 1 with av := greater 0 (l.av - 1) }
theorem sz0 {t : ByteArray} (h : 0 < t.size) : ((t.size : Int) == 0) = false := by
  rw [beq_eq_false_iff_ne]
  omega
theorem lnk_av {w : World} {g : Nat} {l : Lk} (h : LB w g (l.on 1)) (x : Int) (hx : x = greater 0 (l.av - 1)) : LB (w.setCell ⟨g, 4, none⟩ (.int .i64 x)) g l.one := (h.set_av x).cast (by rw [hx]; rfl)
theorem note_in {w w1 w2 : World} {g : Nat} {l : Lk} {T : List (ByteArray × Dv)} {o : Obj} (h : Lnk w g l T) (hk : Kp (fun k => k = g) (w.alloc o) w1) (hb : LB w2 g l.one) (h2 : Kp (fun k => k = g) w1 w2) : Lnk w2 g l.one T ∧ Kp (fun k => k = g) w w2 := by
  have k1 : Kp (fun k => k = g) w w2 := (((Kp.refl _ w).alloc o).trans hk).trans h2
  exact ⟨h.turn hb rfl k1, k1⟩
set_option maxRecDepth 100000 in
set_option maxHeartbeats 1000000 in
theorem note_credit (g : Nat) (tag : ByteArray) (settled : Bool) (w : World) (h1 : 0 < tag.size) (h2 : tag.size ≤ 32) :
    Calls Try.prog 39 #[.pointer (some ⟨g, 0, none⟩), .string tag, .bool settled, .bool true] w fun e w' => e = .returned (.int .i64 140) ∧ w = w' := by
  have n1 := sz0 h1
  have n4 : decide (32 < (tag.size : Int)) = false := by simp; omega
  clear h1 h2
  go_enter Try.func39, Try.ntmps39
  go_wp2
  go_ret
  exact ⟨rfl, rfl⟩
set_option maxRecDepth 100000 in
set_option maxHeartbeats 1000000 in
theorem note_settled (g : Nat) (l : Lk) (T : List (ByteArray × Dv)) (tag : ByteArray) (w : World) (h : Lnk w g l T) (h1 : 0 < tag.size) (h2 : tag.size ≤ 32) (hk : hasK T tag = false) (hm : l.sm ≠ 0)
    (hc : 0 ≤ l.cr ∧ l.cr ≤ 4294967295) (ha : 0 ≤ l.av) (ha2 : l.av ≤ 4294967295) :
    Calls Try.prog 39 #[.pointer (some ⟨g, 0, none⟩), .string tag, .bool true, .bool false] w fun e w' => e = .returned (.int .i64 0) ∧ Lnk w' g l.one T ∧ Kp (fun k => k = g) w w' := by
  have n1 := sz0 h1
  have n4 : decide (32 < (tag.size : Int)) = false := by simp; omega
  have hz : tag.size ≤ maxLen := Nat.le_trans h2 (by decide)
  have hm' : (l.sm == 0) = false := by simpa using hm
  have HL := hide h
  have HG := hide (goOn_any g l 1 (w.alloc (.cells (dvA dv0) 89)) (h.lb.at (Below.heap_alloc _ _ _ h.lb.lt)) hc ⟨by omega, by omega⟩)
  obtain ⟨s0, s1, s2, s3, s4, s5, s6, s7, s8, s9, s10, s11⟩ := h.lb.facts
  have hl := h.lb.lt
  have HK := hide hk
  have HZ := hide hz
  clear h h1 h2 hk hz hm hc
  by_cases hp : 0 < l.av - 1
  · go_enter Try.func39, Try.ntmps39
    go_wp2_with (first | (at_lookup; refine look_D rfl _ _ rfl l.dm rfl tag rfl T HL.out.tb HZ.out ?_; rw [HK.out, lu_none HK.out]; unfold dvV) | (refine wpList_store_row rfl 89 (.tmp 9) (.tmp 27) rfl w.heap.size (dvA dv0) rfl rfl 89 _ (heap_alloc_last w _) Try.infoDv rfl (by kernel_rfl) ?_; rw [World.setRow_alloc_new]) | (go_at_call 49; refine HG.out.mono ?_; rintro e1 w1 ⟨rfl, hb, hkp⟩; (have HB1 := hide hb); (have HK1 := hide hkp); (obtain ⟨t0, t1, t2, t3, t4', t5, t6, t7, t8, t9, t10, t11'⟩ := hb.facts); (have t4 : w1.cell? ⟨g, 4, none⟩ = some (.int .i64 l.av) := t4'); (have t11 : w1.cell? ⟨g, 11, none⟩ = some (.map (some l.dm)) := t11'); (have tf := hb.frozen 4); (have tl := hb.lt); clear hb hkp t4' t11'))
    all_goals first | (exfalso; omega) | skip
    go_ret
    exact ⟨rfl, note_in HL.out HK1.out (lnk_av HB1.out _ (by unfold greater; rw [if_pos hp])) (kp_self (Kp.refl _ _) _ _)⟩
  · go_enter Try.func39, Try.ntmps39
    go_wp2_with (first | (at_lookup; refine look_D rfl _ _ rfl l.dm rfl tag rfl T HL.out.tb HZ.out ?_; rw [HK.out, lu_none HK.out]; unfold dvV) | (refine wpList_store_row rfl 89 (.tmp 9) (.tmp 27) rfl w.heap.size (dvA dv0) rfl rfl 89 _ (heap_alloc_last w _) Try.infoDv rfl (by kernel_rfl) ?_; rw [World.setRow_alloc_new]) | (go_at_call 49; refine HG.out.mono ?_; rintro e1 w1 ⟨rfl, hb, hkp⟩; (have HB1 := hide hb); (have HK1 := hide hkp); (obtain ⟨t0, t1, t2, t3, t4', t5, t6, t7, t8, t9, t10, t11'⟩ := hb.facts); (have t4 : w1.cell? ⟨g, 4, none⟩ = some (.int .i64 l.av) := t4'); (have t11 : w1.cell? ⟨g, 11, none⟩ = some (.map (some l.dm)) := t11'); (have tf := hb.frozen 4); (have tl := hb.lt); clear hb hkp t4' t11'))
    all_goals first | (exfalso; omega) | skip
    go_ret
    exact ⟨rfl, note_in HL.out HK1.out (lnk_av HB1.out _ (by unfold greater; rw [if_neg (by omega)])) (kp_self (Kp.refl _ _) _ _)⟩
set_option maxRecDepth 100000 in
set_option maxHeartbeats 1000000 in
theorem note_open (g : Nat) (l : Lk) (T : List (ByteArray × Dv)) (tag : ByteArray) (w : World) (h : Lnk w g l T) (h1 : 0 < tag.size) (h2 : tag.size ≤ 32) (hk : hasK T tag = false) (hm : l.sm ≠ 1)
    (hc : 0 ≤ l.cr ∧ l.cr ≤ 4294967295) (ha : 0 ≤ l.av) (ha2 : l.av ≤ 4294967295) (hn : T.length < maxLen) :
    Calls Try.prog 39 #[.pointer (some ⟨g, 0, none⟩), .string tag, .bool false, .bool false] w fun e w' => e = .returned (.int .i64 0) ∧ Lnk w' g l.one ((tag, dv0) :: T) ∧ Kp (inL g l) w w' := by
  have n1 := sz0 h1
  have n4 : decide (32 < (tag.size : Int)) = false := by simp; omega
  have hz : tag.size ≤ maxLen := Nat.le_trans h2 (by decide)
  have hm' : (l.sm == 1) = false := by simpa using hm
  have HL := hide h
  have HG := hide (goOn_any g l 1 (w.alloc (.cells (dvA dv0) 89)) (h.lb.at (Below.heap_alloc _ _ _ h.lb.lt)) hc ⟨by omega, by omega⟩)
  obtain ⟨s0, s1, s2, s3, s4, s5, s6, s7, s8, s9, s10, s11⟩ := h.lb.facts
  have hl := h.lb.lt
  have HK := hide hk
  have HZ := hide hz
  clear h h1 h2 hk hz hm hc
  have HN := hide hn
  clear hn
  have HT : Hid (∀ (x : Int) {w1 : World}, LB w1 g (l.on 1) → Kp (fun k => k = g) (w.alloc (.cells (dvA dv0) 89)) w1 → TbD (w1.setCell ⟨g, 4, none⟩ (.int .i64 x)) l.dm T) := by
    intro x w1 _ hk
    have k1 : Kp (fun k => k = g) w (w1.setCell ⟨g, 4, none⟩ (.int .i64 x)) := kp_self (((Kp.refl _ w).alloc _).trans hk) _ _
    exact HL.out.tb.at (k1.block HL.out.tb.lt HL.out.ne)
  by_cases hp : 0 < l.av - 1
  · go_enter Try.func39, Try.ntmps39
    go_wp2_with (first | (at_lookup; refine look_D rfl _ _ rfl l.dm rfl tag rfl T HL.out.tb HZ.out ?_; rw [HK.out, lu_none HK.out]; unfold dvV) | (refine wpList_store_row rfl 89 (.tmp 9) (.tmp 27) rfl w.heap.size (dvA dv0) rfl rfl 89 _ (heap_alloc_last w _) Try.infoDv rfl (by kernel_rfl) ?_; rw [World.setRow_alloc_new]) | (go_at_call 49; refine HG.out.mono ?_; rintro e1 w1 ⟨rfl, hb, hkp⟩; (have HB1 := hide hb); (have HK1 := hide hkp); (obtain ⟨t0, t1, t2, t3, t4', t5, t6, t7, t8, t9, t10, t11'⟩ := hb.facts); (have t4 : w1.cell? ⟨g, 4, none⟩ = some (.int .i64 l.av) := t4'); (have t11 : w1.cell? ⟨g, 11, none⟩ = some (.map (some l.dm)) := t11'); (have tf := hb.frozen 4); (have tl := hb.lt); clear hb hkp t4' t11') | (refine put_D rfl _ _ _ rfl l.dm rfl tag dv0 rfl rfl T (HT.out _ HB1.out HK1.out) HZ.out HN.out ?_; intro w2 hT2 hK2 hS2))
    all_goals first | (exfalso; omega) | skip
    go_ret
    have h3 := note_in HL.out HK1.out (lnk_av HB1.out _ (by unfold greater; rw [if_pos hp])) (kp_self (Kp.refl _ _) _ _)
    rw [filter_none (any_not.1 HK.out)] at hT2
    exact ⟨rfl, h3.1.put hT2 hK2, (kpL h3.2).trans (hK2.mono (fun k hk => .inr hk))⟩
  · go_enter Try.func39, Try.ntmps39
    go_wp2_with (first | (at_lookup; refine look_D rfl _ _ rfl l.dm rfl tag rfl T HL.out.tb HZ.out ?_; rw [HK.out, lu_none HK.out]; unfold dvV) | (refine wpList_store_row rfl 89 (.tmp 9) (.tmp 27) rfl w.heap.size (dvA dv0) rfl rfl 89 _ (heap_alloc_last w _) Try.infoDv rfl (by kernel_rfl) ?_; rw [World.setRow_alloc_new]) | (go_at_call 49; refine HG.out.mono ?_; rintro e1 w1 ⟨rfl, hb, hkp⟩; (have HB1 := hide hb); (have HK1 := hide hkp); (obtain ⟨t0, t1, t2, t3, t4', t5, t6, t7, t8, t9, t10, t11'⟩ := hb.facts); (have t4 : w1.cell? ⟨g, 4, none⟩ = some (.int .i64 l.av) := t4'); (have t11 : w1.cell? ⟨g, 11, none⟩ = some (.map (some l.dm)) := t11'); (have tf := hb.frozen 4); (have tl := hb.lt); clear hb hkp t4' t11') | (refine put_D rfl _ _ _ rfl l.dm rfl tag dv0 rfl rfl T (HT.out _ HB1.out HK1.out) HZ.out HN.out ?_; intro w2 hT2 hK2 hS2))
    all_goals first | (exfalso; omega) | skip
    go_ret
    have h3 := note_in HL.out HK1.out (lnk_av HB1.out _ (by unfold greater; rw [if_neg (by omega)])) (kp_self (Kp.refl _ _) _ _)
    rw [filter_none (any_not.1 HK.out)] at hT2
    exact ⟨rfl, h3.1.put hT2 hK2, (kpL h3.2).trans (hK2.mono (fun k hk => .inr hk))⟩
end Go.Proofs.Ytknkmamjdmadcaa
