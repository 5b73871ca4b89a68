import Derived.Test.YtknkmamjdmadcaaGMapM9
import Derived.Maps.RangeWalk
import Derived.StringKeys
import Derived.OwnWalk

/- Stage 14: note, Send, Got, with any states. -/
namespace Go.Proofs.Ytknkmamjdmadcaa.G
open Go.RowKit Go.Maps
set_option linter.unusedVariables false
set_option linter.unusedSimpArgs false

theorem note_in {w w1 w2 : World} {g : Nat} {l : Lk} {T : List (ByteArray × Dv)} {o : Obj} (h : Lnk w g l T) (hk : Kp (fun k => k = g) (w.alloc o) w1) (hb : LB w2 g l.one) (h2 : Kp (fun k => k = g) w1 w2) : Lnk w2 g l.one T ∧ Kp (fun k => k = g) w w2 := by
  have k1 : Kp (fun k => k = g) w w2 := (((Kp.refl _ w).alloc o).trans hk).trans h2
  exact ⟨h.turn hb rfl k1, k1⟩
set_option maxRecDepth 100000 in
set_option maxHeartbeats 1000000 in
theorem note_open (g : Nat) (l : Lk) (T : List (ByteArray × Dv)) (tag : ByteArray) (w : World) (h : Lnk w g l T) (h1 : 0 < tag.size) (h2 : tag.size ≤ 32) (hk : hasK T tag = false) (hm : l.sm ≠ 1)
    (hc : 0 ≤ l.cr ∧ l.cr ≤ 4294967295) (ha : 0 ≤ l.av) (ha2 : l.av ≤ 4294967295) (hn : T.length < maxLen) :
    Calls Try.prog 39 #[.pointer (some ⟨g, 0, none⟩), .string tag, .bool false, .bool false] w fun e w' => e = .returned (.int .i64 0) ∧ Lnk w' g l.one ((tag, dv0) :: T) ∧ Kp (inL g l) w w' := by
  have n1 := sz0 h1
  have n4 : decide (32 < (tag.size : Int)) = false := by simp; omega
  have hz : tag.size ≤ maxLen := Nat.le_trans h2 (by decide)
  have hm' : (l.sm == 1) = false := by simpa using hm
  have HL := hide h
  have HG := hide (goOn_any g l 1 (w.alloc (.cells (dvA dv0) 89)) (h.lb.at (Below.heap_alloc _ _ _ h.lb.lt)) hc ⟨by omega, by omega⟩)
  obtain ⟨s0, s1, s2, s3, s4, s5, s6, s7, s8, s9, s10, s11⟩ := h.lb.facts
  have hl := h.lb.lt
  have HK := hide hk
  have HZ := hide hz
  clear h h1 h2 hk hz hm hc
  have HN := hide hn
  clear hn
  have HT : Hid (∀ (x : Int) {w1 : World}, LB w1 g (l.on 1) → Kp (fun k => k = g) (w.alloc (.cells (dvA dv0) 89)) w1 → TbD (w1.setCell ⟨g, 4, none⟩ (.int .i64 x)) l.dm T) := by
    intro x w1 _ hk
    have k1 : Kp (fun k => k = g) w (w1.setCell ⟨g, 4, none⟩ (.int .i64 x)) := kp_self (((Kp.refl _ w).alloc _).trans hk) _ _
    exact HL.out.tb.at (k1.block HL.out.tb.lt HL.out.ne)
  go_enter Try.func39, Try.ntmps39
  go_wp2_with (first | (at_lookup; refine look_D rfl _ _ rfl l.dm rfl tag rfl T HL.out.tb HZ.out ?_; rw [HK.out, lu_none HK.out]; unfold dvV) | (refine wpList_store_row rfl 89 (.tmp 9) (.tmp 27) rfl w.heap.size (dvA dv0) rfl rfl 89 _ (heap_alloc_last w _) Try.infoDv rfl (by kernel_rfl) ?_; rw [World.setRow_alloc_new]) | (go_at_call 49; refine HG.out.mono ?_; rintro e1 w1 ⟨rfl, hb, hkp⟩; (have HB1 := hide hb); (have HK1 := hide hkp); (obtain ⟨t0, t1, t2, t3, t4', t5, t6, t7, t8, t9, t10, t11'⟩ := hb.facts); (have t4 : w1.cell? ⟨g, 4, none⟩ = some (.int .i64 l.av) := t4'); (have t11 : w1.cell? ⟨g, 11, none⟩ = some (.map (some l.dm)) := t11'); (have tf := hb.frozen 4); (have tl := hb.lt); clear hb hkp t4' t11') | (refine put_D rfl _ _ _ rfl l.dm rfl tag dv0 rfl rfl T (HT.out _ HB1.out HK1.out) HZ.out HN.out ?_; intro w2 hT2 hK2 hS2))
  all_goals first | (exfalso; omega) | skip
  go_ret
  have h3 := note_in HL.out HK1.out (lnk_av HB1.out _ (show max 0 (l.av - 1) = greater 0 (l.av - 1) by unfold greater; omega)) (kp_self (Kp.refl _ _) _ _)
  rw [filter_none (any_not.1 HK.out)] at hT2
  exact ⟨rfl, h3.1.put hT2 hK2, (kpL h3.2).trans (hK2.mono (fun k hk => .inr hk))⟩
set_option maxRecDepth 100000 in
set_option maxHeartbeats 1000000 in
theorem note_twice (g : Nat) (l : Lk) (T : List (ByteArray × Dv)) (tag : ByteArray) (settled : Bool) (w : World) (h : Lnk w g l T) (h1 : 0 < tag.size) (h2 : tag.size ≤ 32) (hk : hasK T tag = true) :
    Calls Try.prog 39 #[.pointer (some ⟨g, 0, none⟩), .string tag, .bool settled, .bool false] w fun e w' => e = .returned (.int .i64 142) ∧ Below w.heap.size w w' := by
  have n1 := sz0 h1
  have n4 : decide (32 < (tag.size : Int)) = false := by simp; omega
  have hz : tag.size ≤ maxLen := Nat.le_trans h2 (by decide)
  have HL := hide h
  obtain ⟨s0, s1, s2, s3, s4, s5, s6, s7, s8, s9, s10, s11⟩ := h.lb.facts
  have hl := h.lb.lt
  have HK := hide hk
  have HZ := hide hz
  obtain ⟨p, hp⟩ : ∃ p, lu dv0 T tag = p := ⟨_, rfl⟩
  have HP := hide hp
  clear h h1 h2 hk hz hp
  go_enter Try.func39, Try.ntmps39
  go_wp2_with (first | (at_lookup; refine look_D rfl _ _ rfl l.dm rfl tag rfl T HL.out.tb HZ.out ?_; rw [HK.out, HP.out]; unfold dvV) | (refine wpList_store_row rfl 89 (.tmp 9) (.tmp 27) rfl w.heap.size (dvA p) rfl rfl 89 _ (heap_alloc_last w _) Try.infoDv rfl (Dv.one p) ?_; rw [World.setRow_alloc_new]))
  go_ret
  exact ⟨rfl, bel1 (Below.refl _ _) (Nat.le_refl _) _⟩
set_option maxRecDepth 100000 in
set_option maxHeartbeats 1000000 in
theorem note_tag (g : Nat) (tag : ByteArray) (settled used : Bool) (w : World) (h : tag.size = 0 ∨ 32 < tag.size) :
    Calls Try.prog 39 #[.pointer (some ⟨g, 0, none⟩), .string tag, .bool settled, .bool used] w fun e w' => e = .returned (.int .i64 122) ∧ w = w' := by
  rcases h with h | h
  · have n1 : ((tag.size : Int) == 0) = true := by rw [h]; rfl
    clear h
    go_enter Try.func39, Try.ntmps39
    go_wp2
    go_ret
    exact ⟨rfl, rfl⟩
  · have n1 : ((tag.size : Int) == 0) = false := by rw [beq_eq_false_iff_ne]; omega
    have n4 : decide (32 < (tag.size : Int)) = true := by simp; omega
    clear h
    go_enter Try.func39, Try.ntmps39
    go_wp2
    go_ret
    exact ⟨rfl, rfl⟩
end Go.Proofs.Ytknkmamjdmadcaa.G


/- Stage 14: Send, Got, with any states. -/
namespace Go.Proofs.Ytknkmamjdmadcaa.G
open Go.RowKit Go.Maps
set_option linter.unusedVariables false
set_option linter.unusedSimpArgs false

set_option maxRecDepth 100000 in
theorem send_open (g : Nat) (l : Lk) (T : List (ByteArray × Dv)) (tag : ByteArray) (w : World) (h : Lnk w g l T) (hr : l.rc = false) (hp : 0 < l.cr) (h1 : 0 < tag.size) (h2 : tag.size ≤ 32) (hk : hasK T tag = false) (hm : l.sm ≠ 1)
    (hc : 0 ≤ l.cr ∧ l.cr ≤ 4294967295) (ha : 0 ≤ l.av) (ha2 : l.av ≤ 4294967295) (hn : T.length < maxLen) :
    Calls Try.prog 19 #[.pointer (some ⟨g, 0, none⟩), .string tag, .bool false] w fun e w' => e = .returned (.int .i64 0) ∧ Lnk w' g l.one ((tag, dv0) :: T) ∧ Kp (inL g l) w w' := by
  have HN := hide (note_open g l T tag w h h1 h2 hk hm hc ha ha2 hn)
  obtain ⟨s0, s1, s2, s3, s4, s5, s6, s7, s8, s9, s10, s11⟩ := h.lb.facts
  have hl := h.lb.lt
  rw [hr] at s1
  have hne : (l.cr == 0) = false := by rw [beq_eq_false_iff_ne]; omega
  clear h hr h1 h2 hk hm hc ha ha2 hn
  go_enter Try.func19, Try.ntmps19
  go_wp2_with (go_at_call 39; refine HN.out.mono ?_; rintro e1 w1 ⟨rfl, hl1, hk1⟩)
  go_ret
  exact ⟨rfl, hl1, hk1⟩
set_option maxRecDepth 100000 in
set_option maxHeartbeats 4000000 in
theorem got_open (g : Nat) (l : Lk) (T : List (ByteArray × Dv)) (tag : ByteArray) (w : World) (h : Lnk w g l T) (hr : l.rc = true) (hp : l.ct ≠ l.bd) (h1 : 0 < tag.size) (h2 : tag.size ≤ 32) (hk : hasK T tag = false) (hm : l.sm ≠ 1)
    (hc : 0 ≤ l.cr ∧ l.cr ≤ 4294967295) (ha : 0 ≤ l.av) (ha2 : l.av ≤ 4294967295) (hn : T.length < maxLen) :
    Calls Try.prog 23 #[.pointer (some ⟨g, 0, none⟩), .string tag, .bool false] w fun e w' => e = .returned (.int .i64 0) ∧ Lnk w' g l.one ((tag, dv0) :: T) ∧ Kp (inL g l) w w' := by
  have HN := hide (note_open g l T tag w.drew (h.at fun _ _ => rfl) h1 h2 hk hm hc ha ha2 hn)
  obtain ⟨s0, s1, s2, s3, s4, s5, s6, s7, s8, s9, s10, s11⟩ := h.lb.facts
  have hl := h.lb.lt
  rw [hr] at s1
  have hne : (l.ct == l.bd) = false := by rw [beq_eq_false_iff_ne]; exact hp
  have HKP : Hid (∀ L W', W'.heap[g]? = w.heap[g]? → Kept (fun _ => True) (fun z W' => z = 12 → W'.cell? ⟨g, 2, none⟩ = some (.int .i64 l.ct) ∧ W'.cell? ⟨g, 10, none⟩ = some (.int .i64 l.bd)) L W') := fun L W' hk => ⟨trivial, fun z _ _ => ⟨(World.cell?_of_block (a := ⟨g, 2, none⟩) hk).trans s2, (World.cell?_of_block (a := ⟨g, 10, none⟩) hk).trans s10⟩⟩
  have HB0 : Hid (w.drew.heap[g]? = w.heap[g]?) := rfl
  clear h hr h1 h2 hk hm hc ha ha2 hn s0 s3 s4 s5 s6 s7 s8 s9 s11
  go_enter Try.func23, Try.ntmps23
  go_wp2
  refine wp_region_Z (S := fun _ => True) (C := fun z W' => z = 12 → W'.cell? ⟨g, 2, none⟩ = some (.int .i64 l.ct) ∧ W'.cell? ⟨g, 10, none⟩ = some (.int .i64 l.bd)) (by kernel_rfl) (HKP.out _ _ HB0.out) (fun hHeld => ?_)
  clear hHeld
  refine Z_take (i := 0) (d := 13) (v := ?_) (Zs := []) rfl rfl (by kernel_rfl) (by kernel_rfl) (by kernel_rfl) (fun _ _ _ h => h) (fun _ h => absurd h (by decide)) (by kernel_rfl) rfl ?_ (HKP.out _ _ HB0.out) ?_
  rotate_left
  · intro W hSw hC
    try dsimp only at hSw
    go_simp
    try with_reducible rfl
  try simp only [List.setIfInBounds_toArray, List.set_cons_zero, List.set_cons_succ]
  refine Z_take (i := 1) (d := 14) (v := ?_) (Zs := []) rfl rfl (by kernel_rfl) (by kernel_rfl) (by kernel_rfl) (fun _ _ _ h => h) (fun _ h => absurd h (by decide)) (by kernel_rfl) rfl ?_ (HKP.out _ _ HB0.out) ?_
  rotate_left
  · intro W hSw hC
    try dsimp only at hSw
    go_simp
    try with_reducible rfl
  try simp only [List.setIfInBounds_toArray, List.set_cons_zero, List.set_cons_succ]
  refine Z_take (i := 2) (d := 15) (v := ?_) (Zs := []) rfl rfl (by kernel_rfl) (by kernel_rfl) (by kernel_rfl) (fun _ _ _ h => h) (fun _ h => absurd h (by decide)) (by kernel_rfl) rfl ?_ (HKP.out _ _ HB0.out) ?_
  rotate_left
  · intro W hSw hC
    try dsimp only at hSw
    go_simp
    try with_reducible rfl
  try simp only [List.setIfInBounds_toArray, List.set_cons_zero, List.set_cons_succ]
  refine Z_take (i := 3) (d := 16) (v := ?_) (Zs := []) rfl rfl (by kernel_rfl) (by kernel_rfl) (by kernel_rfl) (fun _ _ _ h => h) (fun _ h => absurd h (by decide)) (by kernel_rfl) rfl ?_ (HKP.out _ _ HB0.out) ?_
  rotate_left
  · intro W hSw hC
    try dsimp only at hSw
    go_simp
    try with_reducible rfl
  try simp only [List.setIfInBounds_toArray, List.set_cons_zero, List.set_cons_succ]
  refine Z_take (i := 4) (d := 17) (v := ?_) (Zs := []) rfl rfl (by kernel_rfl) (by kernel_rfl) (by kernel_rfl) (fun _ _ _ h => h) (fun _ h => absurd h (by decide)) (by kernel_rfl) rfl ?_ (HKP.out _ _ HB0.out) ?_
  rotate_left
  · intro W hSw hC
    try dsimp only at hSw
    go_simp
    try with_reducible rfl
  try simp only [List.setIfInBounds_toArray, List.set_cons_zero, List.set_cons_succ]
  refine Z_take (i := 5) (d := 18) (v := ?_) (Zs := []) rfl rfl (by kernel_rfl) (by kernel_rfl) (by kernel_rfl) (fun _ _ _ h => h) (fun _ h => absurd h (by decide)) (by kernel_rfl) rfl ?_ (HKP.out _ _ HB0.out) ?_
  rotate_left
  · intro W hSw hC
    try dsimp only at hSw
    go_simp
    try with_reducible rfl
  try simp only [List.setIfInBounds_toArray, List.set_cons_zero, List.set_cons_succ]
  refine Z_take (i := 6) (d := 19) (v := ?_) (Zs := []) rfl rfl (by kernel_rfl) (by kernel_rfl) (by kernel_rfl) (fun _ _ _ h => h) (fun _ h => absurd h (by decide)) (by kernel_rfl) rfl ?_ (HKP.out _ _ HB0.out) ?_
  rotate_left
  · intro W hSw hC
    try dsimp only at hSw
    go_simp
    try with_reducible rfl
  try simp only [List.setIfInBounds_toArray, List.set_cons_zero, List.set_cons_succ]
  refine Z_take (i := 7) (d := 20) (v := ?_) (Zs := [12]) rfl rfl (by kernel_rfl) (by kernel_rfl) (by kernel_rfl) (fun _ _ _ h => h) (fun _ h => absurd h (by decide)) (by kernel_rfl) rfl ?_ (HKP.out _ _ HB0.out) ?_
  rotate_left
  · intro W hSw hC
    have hC12 := hC 12 (by simp) rfl; try dsimp only at hSw
    go_simp
    try with_reducible rfl
  try simp only [List.setIfInBounds_toArray, List.set_cons_zero, List.set_cons_succ]
  refine Z_take (i := 8) (d := 21) (v := ?_) (Zs := []) rfl rfl (by kernel_rfl) (by kernel_rfl) (by kernel_rfl) (fun _ _ _ h => h) (fun _ h => absurd h (by decide)) (by kernel_rfl) rfl ?_ (HKP.out _ _ HB0.out) ?_
  rotate_left
  · intro W hSw hC
    try dsimp only at hSw
    go_simp
    try with_reducible rfl
  try simp only [List.setIfInBounds_toArray, List.set_cons_zero, List.set_cons_succ]
  refine Z_take (i := 9) (d := 22) (v := ?_) (Zs := []) rfl rfl (by kernel_rfl) (by kernel_rfl) (by kernel_rfl) (fun _ _ _ h => h) (fun _ h => absurd h (by decide)) (by kernel_rfl) rfl ?_ (HKP.out _ _ HB0.out) ?_
  rotate_left
  · intro W hSw hC
    try dsimp only at hSw
    go_simp
    try with_reducible rfl
  try simp only [List.setIfInBounds_toArray, List.set_cons_zero, List.set_cons_succ]
  refine Z_take (i := 10) (d := 23) (v := ?_) (Zs := []) rfl rfl (by kernel_rfl) (by kernel_rfl) (by kernel_rfl) (fun _ _ _ h => h) (fun _ h => absurd h (by decide)) (by kernel_rfl) rfl ?_ (HKP.out _ _ HB0.out) ?_
  rotate_left
  · intro W hSw hC
    try dsimp only at hSw
    go_simp
    try with_reducible rfl
  try simp only [List.setIfInBounds_toArray, List.set_cons_zero, List.set_cons_succ]
  refine Z_take (i := 11) (d := 24) (v := ?_) (Zs := [12]) rfl rfl (by kernel_rfl) (by kernel_rfl) (by kernel_rfl) (fun _ _ _ h => h) (fun _ h => absurd h (by decide)) (by kernel_rfl) rfl ?_ (HKP.out _ _ HB0.out) ?_
  rotate_left
  · intro W hSw hC
    have hC12 := hC 12 (by simp) rfl; try dsimp only at hSw
    go_simp
    try with_reducible rfl
  try simp only [List.setIfInBounds_toArray, List.set_cons_zero, List.set_cons_succ]
  refine wpAnyZ_ready (rs := [12]) (by kernel_rfl) (by simp) ?_
  refine AllReadyZ.cons rfl (fun K hK => ?_) AllReadyZ.nil
  go_simp
  go_wp2
  refine hK.out _ _ (HKP.out _ _ HB0.out) (fun hHeld => ?_)
  clear hK K hHeld
  try simp only [Act.put, List.setIfInBounds_toArray, List.set_cons_zero, List.set_cons_succ]
  try rw [hne]
  refine wpAnyZ_ready (rs := [13]) (by kernel_rfl) (by simp) ?_
  refine AllReadyZ.cons rfl (fun K hK => ?_) AllReadyZ.nil
  go_simp
  go_wp2_with (go_at_call 39; refine HN.out.mono ?_; rintro e4 w4 ⟨rfl, hb4, hk4⟩)
  refine hK.out _ _ ⟨trivial, fun z hz h12 => ?_⟩ (fun hHeld => ?_)
  · subst h12
    exact absurd hz (by decide)
  clear hK K hHeld
  try simp only [Act.put, List.setIfInBounds_toArray, List.set_cons_zero, List.set_cons_succ]
  refine Z_take (i := 14) (d := 6) (v := ?_) (Zs := []) rfl rfl (by kernel_rfl) (by kernel_rfl) (by kernel_rfl) (fun _ _ _ h => h) (fun _ h => absurd h (by decide)) (by kernel_rfl) rfl ?_ ⟨trivial, fun z hz h12 => by subst h12; exact absurd hz (by decide)⟩ ?_
  rotate_left
  · intro W hSw hC
    try dsimp only at hSw
    go_simp
    try with_reducible rfl
  try simp only [List.setIfInBounds_toArray, List.set_cons_zero, List.set_cons_succ]
  refine wpAnyZ_done (by kernel_rfl) ?_ _
  go_wp2
  go_ret
  exact ⟨rfl, hb4, hk4⟩
end Go.Proofs.Ytknkmamjdmadcaa.G


/- Stage 14: Send, Got of a tag that note refuses. -/
namespace Go.Proofs.Ytknkmamjdmadcaa.G
open Go.RowKit Go.Maps
set_option linter.unusedVariables false
set_option linter.unusedSimpArgs false

set_option maxRecDepth 100000 in
theorem send_no (g : Nat) (l : Lk) (T : List (ByteArray × Dv)) (tag : ByteArray) (E : Int) (w : World) (h : Lnk w g l T) (hr : l.rc = false) (hp : 0 < l.cr)
    (hN : Calls Try.prog 39 #[.pointer (some ⟨g, 0, none⟩), .string tag, .bool false, .bool false] w fun e w' => e = .returned (.int .i64 E) ∧ Below w.heap.size w w') :
    Calls Try.prog 19 #[.pointer (some ⟨g, 0, none⟩), .string tag, .bool false] w fun e w' => e = .returned (.int .i64 E) ∧ Below w.heap.size w w' := by
  have HN := hide hN
  obtain ⟨s0, s1, s2, s3, s4, s5, s6, s7, s8, s9, s10, s11⟩ := h.lb.facts
  have hl := h.lb.lt
  rw [hr] at s1
  have hne : (l.cr == 0) = false := by rw [beq_eq_false_iff_ne]; omega
  clear h hr hN
  go_enter Try.func19, Try.ntmps19
  go_wp2_with (go_at_call 39; refine HN.out.mono ?_; rintro e1 w1 ⟨rfl, hb1⟩)
  go_ret
  exact ⟨rfl, hb1⟩
set_option maxRecDepth 100000 in
set_option maxHeartbeats 4000000 in
theorem got_no (g : Nat) (l : Lk) (T : List (ByteArray × Dv)) (tag : ByteArray) (E : Int) (w : World) (h : Lnk w g l T) (hr : l.rc = true) (hp : l.ct ≠ l.bd)
    (hN : Calls Try.prog 39 #[.pointer (some ⟨g, 0, none⟩), .string tag, .bool false, .bool false] w.drew fun e w' => e = .returned (.int .i64 E) ∧ Below w.drew.heap.size w.drew w') :
    Calls Try.prog 23 #[.pointer (some ⟨g, 0, none⟩), .string tag, .bool false] w fun e w' => e = .returned (.int .i64 E) ∧ Below w.heap.size w w' := by
  have HN := hide hN
  obtain ⟨s0, s1, s2, s3, s4, s5, s6, s7, s8, s9, s10, s11⟩ := h.lb.facts
  have hl := h.lb.lt
  rw [hr] at s1
  have hne : (l.ct == l.bd) = false := by rw [beq_eq_false_iff_ne]; exact hp
  have HKP : Hid (∀ L W', W'.heap[g]? = w.heap[g]? → Kept (fun _ => True) (fun z W' => z = 12 → W'.cell? ⟨g, 2, none⟩ = some (.int .i64 l.ct) ∧ W'.cell? ⟨g, 10, none⟩ = some (.int .i64 l.bd)) L W') := fun L W' hk => ⟨trivial, fun z _ _ => ⟨(World.cell?_of_block (a := ⟨g, 2, none⟩) hk).trans s2, (World.cell?_of_block (a := ⟨g, 10, none⟩) hk).trans s10⟩⟩
  have HB0 : Hid (w.drew.heap[g]? = w.heap[g]?) := rfl
  clear h hr hN s0 s3 s4 s5 s6 s7 s8 s9 s11
  go_enter Try.func23, Try.ntmps23
  go_wp2
  refine wp_region_Z (S := fun _ => True) (C := fun z W' => z = 12 → W'.cell? ⟨g, 2, none⟩ = some (.int .i64 l.ct) ∧ W'.cell? ⟨g, 10, none⟩ = some (.int .i64 l.bd)) (by kernel_rfl) (HKP.out _ _ HB0.out) (fun hHeld => ?_)
  clear hHeld
  refine Z_take (i := 0) (d := 13) (v := ?_) (Zs := []) rfl rfl (by kernel_rfl) (by kernel_rfl) (by kernel_rfl) (fun _ _ _ h => h) (fun _ h => absurd h (by decide)) (by kernel_rfl) rfl ?_ (HKP.out _ _ HB0.out) ?_
  rotate_left
  · intro W hSw hC
    try dsimp only at hSw
    go_simp
    try with_reducible rfl
  try simp only [List.setIfInBounds_toArray, List.set_cons_zero, List.set_cons_succ]
  refine Z_take (i := 1) (d := 14) (v := ?_) (Zs := []) rfl rfl (by kernel_rfl) (by kernel_rfl) (by kernel_rfl) (fun _ _ _ h => h) (fun _ h => absurd h (by decide)) (by kernel_rfl) rfl ?_ (HKP.out _ _ HB0.out) ?_
  rotate_left
  · intro W hSw hC
    try dsimp only at hSw
    go_simp
    try with_reducible rfl
  try simp only [List.setIfInBounds_toArray, List.set_cons_zero, List.set_cons_succ]
  refine Z_take (i := 2) (d := 15) (v := ?_) (Zs := []) rfl rfl (by kernel_rfl) (by kernel_rfl) (by kernel_rfl) (fun _ _ _ h => h) (fun _ h => absurd h (by decide)) (by kernel_rfl) rfl ?_ (HKP.out _ _ HB0.out) ?_
  rotate_left
  · intro W hSw hC
    try dsimp only at hSw
    go_simp
    try with_reducible rfl
  try simp only [List.setIfInBounds_toArray, List.set_cons_zero, List.set_cons_succ]
  refine Z_take (i := 3) (d := 16) (v := ?_) (Zs := []) rfl rfl (by kernel_rfl) (by kernel_rfl) (by kernel_rfl) (fun _ _ _ h => h) (fun _ h => absurd h (by decide)) (by kernel_rfl) rfl ?_ (HKP.out _ _ HB0.out) ?_
  rotate_left
  · intro W hSw hC
    try dsimp only at hSw
    go_simp
    try with_reducible rfl
  try simp only [List.setIfInBounds_toArray, List.set_cons_zero, List.set_cons_succ]
  refine Z_take (i := 4) (d := 17) (v := ?_) (Zs := []) rfl rfl (by kernel_rfl) (by kernel_rfl) (by kernel_rfl) (fun _ _ _ h => h) (fun _ h => absurd h (by decide)) (by kernel_rfl) rfl ?_ (HKP.out _ _ HB0.out) ?_
  rotate_left
  · intro W hSw hC
    try dsimp only at hSw
    go_simp
    try with_reducible rfl
  try simp only [List.setIfInBounds_toArray, List.set_cons_zero, List.set_cons_succ]
  refine Z_take (i := 5) (d := 18) (v := ?_) (Zs := []) rfl rfl (by kernel_rfl) (by kernel_rfl) (by kernel_rfl) (fun _ _ _ h => h) (fun _ h => absurd h (by decide)) (by kernel_rfl) rfl ?_ (HKP.out _ _ HB0.out) ?_
  rotate_left
  · intro W hSw hC
    try dsimp only at hSw
    go_simp
    try with_reducible rfl
  try simp only [List.setIfInBounds_toArray, List.set_cons_zero, List.set_cons_succ]
  refine Z_take (i := 6) (d := 19) (v := ?_) (Zs := []) rfl rfl (by kernel_rfl) (by kernel_rfl) (by kernel_rfl) (fun _ _ _ h => h) (fun _ h => absurd h (by decide)) (by kernel_rfl) rfl ?_ (HKP.out _ _ HB0.out) ?_
  rotate_left
  · intro W hSw hC
    try dsimp only at hSw
    go_simp
    try with_reducible rfl
  try simp only [List.setIfInBounds_toArray, List.set_cons_zero, List.set_cons_succ]
  refine Z_take (i := 7) (d := 20) (v := ?_) (Zs := [12]) rfl rfl (by kernel_rfl) (by kernel_rfl) (by kernel_rfl) (fun _ _ _ h => h) (fun _ h => absurd h (by decide)) (by kernel_rfl) rfl ?_ (HKP.out _ _ HB0.out) ?_
  rotate_left
  · intro W hSw hC
    have hC12 := hC 12 (by simp) rfl; try dsimp only at hSw
    go_simp
    try with_reducible rfl
  try simp only [List.setIfInBounds_toArray, List.set_cons_zero, List.set_cons_succ]
  refine Z_take (i := 8) (d := 21) (v := ?_) (Zs := []) rfl rfl (by kernel_rfl) (by kernel_rfl) (by kernel_rfl) (fun _ _ _ h => h) (fun _ h => absurd h (by decide)) (by kernel_rfl) rfl ?_ (HKP.out _ _ HB0.out) ?_
  rotate_left
  · intro W hSw hC
    try dsimp only at hSw
    go_simp
    try with_reducible rfl
  try simp only [List.setIfInBounds_toArray, List.set_cons_zero, List.set_cons_succ]
  refine Z_take (i := 9) (d := 22) (v := ?_) (Zs := []) rfl rfl (by kernel_rfl) (by kernel_rfl) (by kernel_rfl) (fun _ _ _ h => h) (fun _ h => absurd h (by decide)) (by kernel_rfl) rfl ?_ (HKP.out _ _ HB0.out) ?_
  rotate_left
  · intro W hSw hC
    try dsimp only at hSw
    go_simp
    try with_reducible rfl
  try simp only [List.setIfInBounds_toArray, List.set_cons_zero, List.set_cons_succ]
  refine Z_take (i := 10) (d := 23) (v := ?_) (Zs := []) rfl rfl (by kernel_rfl) (by kernel_rfl) (by kernel_rfl) (fun _ _ _ h => h) (fun _ h => absurd h (by decide)) (by kernel_rfl) rfl ?_ (HKP.out _ _ HB0.out) ?_
  rotate_left
  · intro W hSw hC
    try dsimp only at hSw
    go_simp
    try with_reducible rfl
  try simp only [List.setIfInBounds_toArray, List.set_cons_zero, List.set_cons_succ]
  refine Z_take (i := 11) (d := 24) (v := ?_) (Zs := [12]) rfl rfl (by kernel_rfl) (by kernel_rfl) (by kernel_rfl) (fun _ _ _ h => h) (fun _ h => absurd h (by decide)) (by kernel_rfl) rfl ?_ (HKP.out _ _ HB0.out) ?_
  rotate_left
  · intro W hSw hC
    have hC12 := hC 12 (by simp) rfl; try dsimp only at hSw
    go_simp
    try with_reducible rfl
  try simp only [List.setIfInBounds_toArray, List.set_cons_zero, List.set_cons_succ]
  refine wpAnyZ_ready (rs := [12]) (by kernel_rfl) (by simp) ?_
  refine AllReadyZ.cons rfl (fun K hK => ?_) AllReadyZ.nil
  go_simp
  go_wp2
  refine hK.out _ _ (HKP.out _ _ HB0.out) (fun hHeld => ?_)
  clear hK K hHeld
  try simp only [Act.put, List.setIfInBounds_toArray, List.set_cons_zero, List.set_cons_succ]
  try rw [hne]
  refine wpAnyZ_ready (rs := [13]) (by kernel_rfl) (by simp) ?_
  refine AllReadyZ.cons rfl (fun K hK => ?_) AllReadyZ.nil
  go_simp
  go_wp2_with (go_at_call 39; refine HN.out.mono ?_; rintro e4 w4 ⟨rfl, hb4⟩)
  refine hK.out _ _ ⟨trivial, fun z hz h12 => ?_⟩ (fun hHeld => ?_)
  · subst h12
    exact absurd hz (by decide)
  clear hK K hHeld
  try simp only [Act.put, List.setIfInBounds_toArray, List.set_cons_zero, List.set_cons_succ]
  refine Z_take (i := 14) (d := 6) (v := ?_) (Zs := []) rfl rfl (by kernel_rfl) (by kernel_rfl) (by kernel_rfl) (fun _ _ _ h => h) (fun _ h => absurd h (by decide)) (by kernel_rfl) rfl ?_ ⟨trivial, fun z hz h12 => by subst h12; exact absurd hz (by decide)⟩ ?_
  rotate_left
  · intro W hSw hC
    try dsimp only at hSw
    go_simp
    try with_reducible rfl
  try simp only [List.setIfInBounds_toArray, List.set_cons_zero, List.set_cons_succ]
  refine wpAnyZ_done (by kernel_rfl) ?_ _
  go_wp2
  go_ret
  exact ⟨rfl, (bel_drew w).trans hb4⟩
theorem send_twice (g : Nat) (l : Lk) (T : List (ByteArray × Dv)) (tag : ByteArray) (w : World) (h : Lnk w g l T) (hr : l.rc = false) (hp : 0 < l.cr) (h1 : 0 < tag.size) (h2 : tag.size ≤ 32) (hk : hasK T tag = true) :
    Calls Try.prog 19 #[.pointer (some ⟨g, 0, none⟩), .string tag, .bool false] w fun e w' => e = .returned (.int .i64 142) ∧ Below w.heap.size w w' := send_no g l T tag 142 w h hr hp (note_twice g l T tag false w h h1 h2 hk)
theorem send_tag (g : Nat) (l : Lk) (T : List (ByteArray × Dv)) (tag : ByteArray) (w : World) (h : Lnk w g l T) (hr : l.rc = false) (hp : 0 < l.cr) (h1 : tag.size = 0 ∨ 32 < tag.size) :
    Calls Try.prog 19 #[.pointer (some ⟨g, 0, none⟩), .string tag, .bool false] w fun e w' => e = .returned (.int .i64 122) ∧ Below w.heap.size w w' := send_no g l T tag 122 w h hr hp ((note_tag g tag false false w h1).mono fun e w' h => ⟨h.1, h.2 ▸ Below.refl _ _⟩)
theorem got_twice (g : Nat) (l : Lk) (T : List (ByteArray × Dv)) (tag : ByteArray) (w : World) (h : Lnk w g l T) (hr : l.rc = true) (hp : l.ct ≠ l.bd) (h1 : 0 < tag.size) (h2 : tag.size ≤ 32) (hk : hasK T tag = true) :
    Calls Try.prog 23 #[.pointer (some ⟨g, 0, none⟩), .string tag, .bool false] w fun e w' => e = .returned (.int .i64 142) ∧ Below w.heap.size w w' := got_no g l T tag 142 w h hr hp (note_twice g l T tag false w.drew (h.at fun _ _ => rfl) h1 h2 hk)
theorem got_tag (g : Nat) (l : Lk) (T : List (ByteArray × Dv)) (tag : ByteArray) (w : World) (h : Lnk w g l T) (hr : l.rc = true) (hp : l.ct ≠ l.bd) (h1 : tag.size = 0 ∨ 32 < tag.size) :
    Calls Try.prog 23 #[.pointer (some ⟨g, 0, none⟩), .string tag, .bool false] w fun e w' => e = .returned (.int .i64 122) ∧ Below w.heap.size w w' := got_no g l T tag 122 w h hr hp ((note_tag g tag false false w.drew h1).mono fun e w' h => ⟨h.1, h.2 ▸ Below.refl _ _⟩)
end Go.Proofs.Ytknkmamjdmadcaa.G
