import Derived.Test.YtknkmamjdmadcaaLNoteM9
import Derived.Test.YtknkmamjdmadcaaCZ

/- Stage 14: Send, Got. -/
namespace Go.Proofs.Ytknkmamjdmadcaa
open Go.RowKit Go.Maps
set_option linter.unusedVariables false
set_option linter.unusedSimpArgs false

set_option maxRecDepth 100000 in
theorem send_no (g : Nat) (l : Lk) (tag : ByteArray) (settled : Bool) (w : World) (h : LB w g l) (hr : l.rc = false) (hc : l.cr = 0) (h1 : 0 < tag.size) (h2 : tag.size ≤ 32) :
    Calls Try.prog 19 #[.pointer (some ⟨g, 0, none⟩), .string tag, .bool settled] w fun e w' => e = .returned (.int .i64 140) ∧ w = w' := by
  have HN := hide (note_credit g tag settled w h1 h2)
  obtain ⟨s0, s1, s2, s3, s4, s5, s6, s7, s8, s9, s10, s11⟩ := h.facts
  have hl := h.lt
  rw [hr] at s1
  rw [hc] at s3
  clear h hr hc h1 h2
  go_enter Try.func19, Try.ntmps19
  go_wp2_with (go_at_call 39; refine HN.out.mono ?_; rintro e1 w1 ⟨rfl, rfl⟩)
  go_ret
  exact ⟨rfl, rfl⟩
set_option maxRecDepth 100000 in
theorem send_settled (g : Nat) (l : Lk) (T : List (ByteArray × Dv)) (tag : ByteArray) (w : World) (h : Lnk w g l T) (hr : l.rc = false) (hp : 0 < l.cr) (h1 : 0 < tag.size) (h2 : tag.size ≤ 32) (hk : hasK T tag = false) (hm : l.sm ≠ 0)
    (hc : 0 ≤ l.cr ∧ l.cr ≤ 4294967295) (ha : 0 ≤ l.av) (ha2 : l.av ≤ 4294967295) :
    Calls Try.prog 19 #[.pointer (some ⟨g, 0, none⟩), .string tag, .bool true] w fun e w' => e = .returned (.int .i64 0) ∧ Lnk w' g l.one T ∧ Kp (fun k => k = g) w w' := by
  have HN := hide (note_settled g l T tag w h h1 h2 hk hm hc ha ha2)
  obtain ⟨s0, s1, s2, s3, s4, s5, s6, s7, s8, s9, s10, s11⟩ := h.lb.facts
  have hl := h.lb.lt
  rw [hr] at s1
  have hne : (l.cr == 0) = false := by rw [beq_eq_false_iff_ne]; omega
  clear h hr h1 h2 hk hm hc ha ha2
  go_enter Try.func19, Try.ntmps19
  go_wp2_with (go_at_call 39; refine HN.out.mono ?_; rintro e1 w1 ⟨rfl, hl1, hk1⟩)
  go_ret
  exact ⟨rfl, hl1, hk1⟩
set_option maxRecDepth 100000 in
theorem send_open (g : Nat) (l : Lk) (T : List (ByteArray × Dv)) (tag : ByteArray) (w : World) (h : Lnk w g l T) (hr : l.rc = false) (hp : 0 < l.cr) (h1 : 0 < tag.size) (h2 : tag.size ≤ 32) (hk : hasK T tag = false) (hm : l.sm ≠ 1)
    (hc : 0 ≤ l.cr ∧ l.cr ≤ 4294967295) (ha : 0 ≤ l.av) (ha2 : l.av ≤ 4294967295) (hn : T.length < maxLen) :
    Calls Try.prog 19 #[.pointer (some ⟨g, 0, none⟩), .string tag, .bool false] w fun e w' => e = .returned (.int .i64 0) ∧ Lnk w' g l.one ((tag, dv0) :: T) ∧ Kp (inL g l) w w' := by
  have HN := hide (note_open g l T tag w h h1 h2 hk hm hc ha ha2 hn)
  obtain ⟨s0, s1, s2, s3, s4, s5, s6, s7, s8, s9, s10, s11⟩ := h.lb.facts
  have hl := h.lb.lt
  rw [hr] at s1
  have hne : (l.cr == 0) = false := by rw [beq_eq_false_iff_ne]; omega
  clear h hr h1 h2 hk hm hc ha ha2 hn
  go_enter Try.func19, Try.ntmps19
  go_wp2_with (go_at_call 39; refine HN.out.mono ?_; rintro e1 w1 ⟨rfl, hl1, hk1⟩)
  go_ret
  exact ⟨rfl, hl1, hk1⟩
set_option maxRecDepth 100000 in
set_option maxHeartbeats 4000000 in
theorem got_settled (g : Nat) (l : Lk) (T : List (ByteArray × Dv)) (tag : ByteArray) (w : World) (h : Lnk w g l T) (hr : l.rc = true) (hp : l.ct ≠ l.bd) (h1 : 0 < tag.size) (h2 : tag.size ≤ 32) (hk : hasK T tag = false) (hm : l.sm ≠ 0)
    (hc : 0 ≤ l.cr ∧ l.cr ≤ 4294967295) (ha : 0 ≤ l.av) (ha2 : l.av ≤ 4294967295) :
    Calls Try.prog 23 #[.pointer (some ⟨g, 0, none⟩), .string tag, .bool true] w fun e w' => e = .returned (.int .i64 0) ∧ Lnk w' g l.one T ∧ Kp (fun k => k = g) w w' := by
  have HN := hide (note_settled g l T tag w.drew (h.at fun _ _ => rfl) h1 h2 hk hm hc ha ha2)
  obtain ⟨s0, s1, s2, s3, s4, s5, s6, s7, s8, s9, s10, s11⟩ := h.lb.facts
  have hl := h.lb.lt
  rw [hr] at s1
  have hne : (l.ct == l.bd) = false := by rw [beq_eq_false_iff_ne]; exact hp
  have HKP : Hid (∀ L W', W'.heap[g]? = w.heap[g]? → Kept (fun _ => True) (fun z W' => z = 12 → W'.cell? ⟨g, 2, none⟩ = some (.int .i64 l.ct) ∧ W'.cell? ⟨g, 10, none⟩ = some (.int .i64 l.bd)) L W') := fun L W' hk => ⟨trivial, fun z _ _ => ⟨(World.cell?_of_block (a := ⟨g, 2, none⟩) hk).trans s2, (World.cell?_of_block (a := ⟨g, 10, none⟩) hk).trans s10⟩⟩
  have HB0 : Hid (w.drew.heap[g]? = w.heap[g]?) := rfl
  clear h hr h1 h2 hk hm hc ha ha2 s0 s3 s4 s5 s6 s7 s8 s9 s11
  go_enter Try.func23, Try.ntmps23
  go_wp2
  refine wp_region_Z (S := fun _ => True) (C := fun z W' => z = 12 → W'.cell? ⟨g, 2, none⟩ = some (.int .i64 l.ct) ∧ W'.cell? ⟨g, 10, none⟩ = some (.int .i64 l.bd)) (by kernel_rfl) (HKP.out _ _ HB0.out) (fun hHeld => ?_)
  clear hHeld
  refine Z_take (i := 0) (d := 13) (v := ?_) (Zs := []) rfl rfl (by kernel_rfl) (by kernel_rfl) (by kernel_rfl) (fun _ _ _ h => h) (fun _ h => absurd h (by decide)) (by kernel_rfl) rfl ?_ (HKP.out _ _ HB0.out) ?_
  rotate_left
  · intro W hSw hC
    try dsimp only at hSw
    go_simp
    try with_reducible rfl
  try simp only [List.setIfInBounds_toArray, List.set_cons_zero, List.set_cons_succ]
  refine Z_take (i := 1) (d := 14) (v := ?_) (Zs := []) rfl rfl (by kernel_rfl) (by kernel_rfl) (by kernel_rfl) (fun _ _ _ h => h) (fun _ h => absurd h (by decide)) (by kernel_rfl) rfl ?_ (HKP.out _ _ HB0.out) ?_
  rotate_left
  · intro W hSw hC
    try dsimp only at hSw
    go_simp
    try with_reducible rfl
  try simp only [List.setIfInBounds_toArray, List.set_cons_zero, List.set_cons_succ]
  refine Z_take (i := 2) (d := 15) (v := ?_) (Zs := []) rfl rfl (by kernel_rfl) (by kernel_rfl) (by kernel_rfl) (fun _ _ _ h => h) (fun _ h => absurd h (by decide)) (by kernel_rfl) rfl ?_ (HKP.out _ _ HB0.out) ?_
  rotate_left
  · intro W hSw hC
    try dsimp only at hSw
    go_simp
    try with_reducible rfl
  try simp only [List.setIfInBounds_toArray, List.set_cons_zero, List.set_cons_succ]
  refine Z_take (i := 3) (d := 16) (v := ?_) (Zs := []) rfl rfl (by kernel_rfl) (by kernel_rfl) (by kernel_rfl) (fun _ _ _ h => h) (fun _ h => absurd h (by decide)) (by kernel_rfl) rfl ?_ (HKP.out _ _ HB0.out) ?_
  rotate_left
  · intro W hSw hC
    try dsimp only at hSw
    go_simp
    try with_reducible rfl
  try simp only [List.setIfInBounds_toArray, List.set_cons_zero, List.set_cons_succ]
  refine Z_take (i := 4) (d := 17) (v := ?_) (Zs := []) rfl rfl (by kernel_rfl) (by kernel_rfl) (by kernel_rfl) (fun _ _ _ h => h) (fun _ h => absurd h (by decide)) (by kernel_rfl) rfl ?_ (HKP.out _ _ HB0.out) ?_
  rotate_left
  · intro W hSw hC
    try dsimp only at hSw
    go_simp
    try with_reducible rfl
  try simp only [List.setIfInBounds_toArray, List.set_cons_zero, List.set_cons_succ]
  refine Z_take (i := 5) (d := 18) (v := ?_) (Zs := []) rfl rfl (by kernel_rfl) (by kernel_rfl) (by kernel_rfl) (fun _ _ _ h => h) (fun _ h => absurd h (by decide)) (by kernel_rfl) rfl ?_ (HKP.out _ _ HB0.out) ?_
  rotate_left
  · intro W hSw hC
    try dsimp only at hSw
    go_simp
    try with_reducible rfl
  try simp only [List.setIfInBounds_toArray, List.set_cons_zero, List.set_cons_succ]
  refine Z_take (i := 6) (d := 19) (v := ?_) (Zs := []) rfl rfl (by kernel_rfl) (by kernel_rfl) (by kernel_rfl) (fun _ _ _ h => h) (fun _ h => absurd h (by decide)) (by kernel_rfl) rfl ?_ (HKP.out _ _ HB0.out) ?_
  rotate_left
  · intro W hSw hC
    try dsimp only at hSw
    go_simp
    try with_reducible rfl
  try simp only [List.setIfInBounds_toArray, List.set_cons_zero, List.set_cons_succ]
  refine Z_take (i := 7) (d := 20) (v := ?_) (Zs := [12]) rfl rfl (by kernel_rfl) (by kernel_rfl) (by kernel_rfl) (fun _ _ _ h => h) (fun _ h => absurd h (by decide)) (by kernel_rfl) rfl ?_ (HKP.out _ _ HB0.out) ?_
  rotate_left
  · intro W hSw hC
    have hC12 := hC 12 (by simp) rfl; try dsimp only at hSw
    go_simp
    try with_reducible rfl
  try simp only [List.setIfInBounds_toArray, List.set_cons_zero, List.set_cons_succ]
  refine Z_take (i := 8) (d := 21) (v := ?_) (Zs := []) rfl rfl (by kernel_rfl) (by kernel_rfl) (by kernel_rfl) (fun _ _ _ h => h) (fun _ h => absurd h (by decide)) (by kernel_rfl) rfl ?_ (HKP.out _ _ HB0.out) ?_
  rotate_left
  · intro W hSw hC
    try dsimp only at hSw
    go_simp
    try with_reducible rfl
  try simp only [List.setIfInBounds_toArray, List.set_cons_zero, List.set_cons_succ]
  refine Z_take (i := 9) (d := 22) (v := ?_) (Zs := []) rfl rfl (by kernel_rfl) (by kernel_rfl) (by kernel_rfl) (fun _ _ _ h => h) (fun _ h => absurd h (by decide)) (by kernel_rfl) rfl ?_ (HKP.out _ _ HB0.out) ?_
  rotate_left
  · intro W hSw hC
    try dsimp only at hSw
    go_simp
    try with_reducible rfl
  try simp only [List.setIfInBounds_toArray, List.set_cons_zero, List.set_cons_succ]
  refine Z_take (i := 10) (d := 23) (v := ?_) (Zs := []) rfl rfl (by kernel_rfl) (by kernel_rfl) (by kernel_rfl) (fun _ _ _ h => h) (fun _ h => absurd h (by decide)) (by kernel_rfl) rfl ?_ (HKP.out _ _ HB0.out) ?_
  rotate_left
  · intro W hSw hC
    try dsimp only at hSw
    go_simp
    try with_reducible rfl
  try simp only [List.setIfInBounds_toArray, List.set_cons_zero, List.set_cons_succ]
  refine Z_take (i := 11) (d := 24) (v := ?_) (Zs := [12]) rfl rfl (by kernel_rfl) (by kernel_rfl) (by kernel_rfl) (fun _ _ _ h => h) (fun _ h => absurd h (by decide)) (by kernel_rfl) rfl ?_ (HKP.out _ _ HB0.out) ?_
  rotate_left
  · intro W hSw hC
    have hC12 := hC 12 (by simp) rfl; try dsimp only at hSw
    go_simp
    try with_reducible rfl
  try simp only [List.setIfInBounds_toArray, List.set_cons_zero, List.set_cons_succ]
  refine wpAnyZ_ready (rs := [12]) (by kernel_rfl) (by simp) ?_
  refine AllReadyZ.cons rfl (fun K hK => ?_) AllReadyZ.nil
  go_simp
  go_wp2
  refine hK.out _ _ (HKP.out _ _ HB0.out) (fun hHeld => ?_)
  clear hK K hHeld
  try simp only [Act.put, List.setIfInBounds_toArray, List.set_cons_zero, List.set_cons_succ]
  try rw [hne]
  refine wpAnyZ_ready (rs := [13]) (by kernel_rfl) (by simp) ?_
  refine AllReadyZ.cons rfl (fun K hK => ?_) AllReadyZ.nil
  go_simp
  go_wp2_with (go_at_call 39; refine HN.out.mono ?_; rintro e4 w4 ⟨rfl, hb4, hk4⟩)
  refine hK.out _ _ ⟨trivial, fun z hz h12 => ?_⟩ (fun hHeld => ?_)
  · subst h12
    exact absurd hz (by decide)
  clear hK K hHeld
  try simp only [Act.put, List.setIfInBounds_toArray, List.set_cons_zero, List.set_cons_succ]
  refine Z_take (i := 14) (d := 6) (v := ?_) (Zs := []) rfl rfl (by kernel_rfl) (by kernel_rfl) (by kernel_rfl) (fun _ _ _ h => h) (fun _ h => absurd h (by decide)) (by kernel_rfl) rfl ?_ ⟨trivial, fun z hz h12 => by subst h12; exact absurd hz (by decide)⟩ ?_
  rotate_left
  · intro W hSw hC
    try dsimp only at hSw
    go_simp
    try with_reducible rfl
  try simp only [List.setIfInBounds_toArray, List.set_cons_zero, List.set_cons_succ]
  refine wpAnyZ_done (by kernel_rfl) ?_ _
  go_wp2
  go_ret
  exact ⟨rfl, hb4, hk4⟩
set_option maxRecDepth 100000 in
set_option maxHeartbeats 4000000 in
theorem got_open (g : Nat) (l : Lk) (T : List (ByteArray × Dv)) (tag : ByteArray) (w : World) (h : Lnk w g l T) (hr : l.rc = true) (hp : l.ct ≠ l.bd) (h1 : 0 < tag.size) (h2 : tag.size ≤ 32) (hk : hasK T tag = false) (hm : l.sm ≠ 1)
    (hc : 0 ≤ l.cr ∧ l.cr ≤ 4294967295) (ha : 0 ≤ l.av) (ha2 : l.av ≤ 4294967295) (hn : T.length < maxLen) :
    Calls Try.prog 23 #[.pointer (some ⟨g, 0, none⟩), .string tag, .bool false] w fun e w' => e = .returned (.int .i64 0) ∧ Lnk w' g l.one ((tag, dv0) :: T) ∧ Kp (inL g l) w w' := by
  have HN := hide (note_open g l T tag w.drew (h.at fun _ _ => rfl) h1 h2 hk hm hc ha ha2 hn)
  obtain ⟨s0, s1, s2, s3, s4, s5, s6, s7, s8, s9, s10, s11⟩ := h.lb.facts
  have hl := h.lb.lt
  rw [hr] at s1
  have hne : (l.ct == l.bd) = false := by rw [beq_eq_false_iff_ne]; exact hp
  have HKP : Hid (∀ L W', W'.heap[g]? = w.heap[g]? → Kept (fun _ => True) (fun z W' => z = 12 → W'.cell? ⟨g, 2, none⟩ = some (.int .i64 l.ct) ∧ W'.cell? ⟨g, 10, none⟩ = some (.int .i64 l.bd)) L W') := fun L W' hk => ⟨trivial, fun z _ _ => ⟨(World.cell?_of_block (a := ⟨g, 2, none⟩) hk).trans s2, (World.cell?_of_block (a := ⟨g, 10, none⟩) hk).trans s10⟩⟩
  have HB0 : Hid (w.drew.heap[g]? = w.heap[g]?) := rfl
  clear h hr h1 h2 hk hm hc ha ha2 hn s0 s3 s4 s5 s6 s7 s8 s9 s11
  go_enter Try.func23, Try.ntmps23
  go_wp2
  refine wp_region_Z (S := fun _ => True) (C := fun z W' => z = 12 → W'.cell? ⟨g, 2, none⟩ = some (.int .i64 l.ct) ∧ W'.cell? ⟨g, 10, none⟩ = some (.int .i64 l.bd)) (by kernel_rfl) (HKP.out _ _ HB0.out) (fun hHeld => ?_)
  clear hHeld
  refine Z_take (i := 0) (d := 13) (v := ?_) (Zs := []) rfl rfl (by kernel_rfl) (by kernel_rfl) (by kernel_rfl) (fun _ _ _ h => h) (fun _ h => absurd h (by decide)) (by kernel_rfl) rfl ?_ (HKP.out _ _ HB0.out) ?_
  rotate_left
  · intro W hSw hC
    try dsimp only at hSw
    go_simp
    try with_reducible rfl
  try simp only [List.setIfInBounds_toArray, List.set_cons_zero, List.set_cons_succ]
  refine Z_take (i := 1) (d := 14) (v := ?_) (Zs := []) rfl rfl (by kernel_rfl) (by kernel_rfl) (by kernel_rfl) (fun _ _ _ h => h) (fun _ h => absurd h (by decide)) (by kernel_rfl) rfl ?_ (HKP.out _ _ HB0.out) ?_
  rotate_left
  · intro W hSw hC
    try dsimp only at hSw
    go_simp
    try with_reducible rfl
  try simp only [List.setIfInBounds_toArray, List.set_cons_zero, List.set_cons_succ]
  refine Z_take (i := 2) (d := 15) (v := ?_) (Zs := []) rfl rfl (by kernel_rfl) (by kernel_rfl) (by kernel_rfl) (fun _ _ _ h => h) (fun _ h => absurd h (by decide)) (by kernel_rfl) rfl ?_ (HKP.out _ _ HB0.out) ?_
  rotate_left
  · intro W hSw hC
    try dsimp only at hSw
    go_simp
    try with_reducible rfl
  try simp only [List.setIfInBounds_toArray, List.set_cons_zero, List.set_cons_succ]
  refine Z_take (i := 3) (d := 16) (v := ?_) (Zs := []) rfl rfl (by kernel_rfl) (by kernel_rfl) (by kernel_rfl) (fun _ _ _ h => h) (fun _ h => absurd h (by decide)) (by kernel_rfl) rfl ?_ (HKP.out _ _ HB0.out) ?_
  rotate_left
  · intro W hSw hC
    try dsimp only at hSw
    go_simp
    try with_reducible rfl
  try simp only [List.setIfInBounds_toArray, List.set_cons_zero, List.set_cons_succ]
  refine Z_take (i := 4) (d := 17) (v := ?_) (Zs := []) rfl rfl (by kernel_rfl) (by kernel_rfl) (by kernel_rfl) (fun _ _ _ h => h) (fun _ h => absurd h (by decide)) (by kernel_rfl) rfl ?_ (HKP.out _ _ HB0.out) ?_
  rotate_left
  · intro W hSw hC
    try dsimp only at hSw
    go_simp
    try with_reducible rfl
  try simp only [List.setIfInBounds_toArray, List.set_cons_zero, List.set_cons_succ]
  refine Z_take (i := 5) (d := 18) (v := ?_) (Zs := []) rfl rfl (by kernel_rfl) (by kernel_rfl) (by kernel_rfl) (fun _ _ _ h => h) (fun _ h => absurd h (by decide)) (by kernel_rfl) rfl ?_ (HKP.out _ _ HB0.out) ?_
  rotate_left
  · intro W hSw hC
    try dsimp only at hSw
    go_simp
    try with_reducible rfl
  try simp only [List.setIfInBounds_toArray, List.set_cons_zero, List.set_cons_succ]
  refine Z_take (i := 6) (d := 19) (v := ?_) (Zs := []) rfl rfl (by kernel_rfl) (by kernel_rfl) (by kernel_rfl) (fun _ _ _ h => h) (fun _ h => absurd h (by decide)) (by kernel_rfl) rfl ?_ (HKP.out _ _ HB0.out) ?_
  rotate_left
  · intro W hSw hC
    try dsimp only at hSw
    go_simp
    try with_reducible rfl
  try simp only [List.setIfInBounds_toArray, List.set_cons_zero, List.set_cons_succ]
  refine Z_take (i := 7) (d := 20) (v := ?_) (Zs := [12]) rfl rfl (by kernel_rfl) (by kernel_rfl) (by kernel_rfl) (fun _ _ _ h => h) (fun _ h => absurd h (by decide)) (by kernel_rfl) rfl ?_ (HKP.out _ _ HB0.out) ?_
  rotate_left
  · intro W hSw hC
    have hC12 := hC 12 (by simp) rfl; try dsimp only at hSw
    go_simp
    try with_reducible rfl
  try simp only [List.setIfInBounds_toArray, List.set_cons_zero, List.set_cons_succ]
  refine Z_take (i := 8) (d := 21) (v := ?_) (Zs := []) rfl rfl (by kernel_rfl) (by kernel_rfl) (by kernel_rfl) (fun _ _ _ h => h) (fun _ h => absurd h (by decide)) (by kernel_rfl) rfl ?_ (HKP.out _ _ HB0.out) ?_
  rotate_left
  · intro W hSw hC
    try dsimp only at hSw
    go_simp
    try with_reducible rfl
  try simp only [List.setIfInBounds_toArray, List.set_cons_zero, List.set_cons_succ]
  refine Z_take (i := 9) (d := 22) (v := ?_) (Zs := []) rfl rfl (by kernel_rfl) (by kernel_rfl) (by kernel_rfl) (fun _ _ _ h => h) (fun _ h => absurd h (by decide)) (by kernel_rfl) rfl ?_ (HKP.out _ _ HB0.out) ?_
  rotate_left
  · intro W hSw hC
    try dsimp only at hSw
    go_simp
    try with_reducible rfl
  try simp only [List.setIfInBounds_toArray, List.set_cons_zero, List.set_cons_succ]
  refine Z_take (i := 10) (d := 23) (v := ?_) (Zs := []) rfl rfl (by kernel_rfl) (by kernel_rfl) (by kernel_rfl) (fun _ _ _ h => h) (fun _ h => absurd h (by decide)) (by kernel_rfl) rfl ?_ (HKP.out _ _ HB0.out) ?_
  rotate_left
  · intro W hSw hC
    try dsimp only at hSw
    go_simp
    try with_reducible rfl
  try simp only [List.setIfInBounds_toArray, List.set_cons_zero, List.set_cons_succ]
  refine Z_take (i := 11) (d := 24) (v := ?_) (Zs := [12]) rfl rfl (by kernel_rfl) (by kernel_rfl) (by kernel_rfl) (fun _ _ _ h => h) (fun _ h => absurd h (by decide)) (by kernel_rfl) rfl ?_ (HKP.out _ _ HB0.out) ?_
  rotate_left
  · intro W hSw hC
    have hC12 := hC 12 (by simp) rfl; try dsimp only at hSw
    go_simp
    try with_reducible rfl
  try simp only [List.setIfInBounds_toArray, List.set_cons_zero, List.set_cons_succ]
  refine wpAnyZ_ready (rs := [12]) (by kernel_rfl) (by simp) ?_
  refine AllReadyZ.cons rfl (fun K hK => ?_) AllReadyZ.nil
  go_simp
  go_wp2
  refine hK.out _ _ (HKP.out _ _ HB0.out) (fun hHeld => ?_)
  clear hK K hHeld
  try simp only [Act.put, List.setIfInBounds_toArray, List.set_cons_zero, List.set_cons_succ]
  try rw [hne]
  refine wpAnyZ_ready (rs := [13]) (by kernel_rfl) (by simp) ?_
  refine AllReadyZ.cons rfl (fun K hK => ?_) AllReadyZ.nil
  go_simp
  go_wp2_with (go_at_call 39; refine HN.out.mono ?_; rintro e4 w4 ⟨rfl, hb4, hk4⟩)
  refine hK.out _ _ ⟨trivial, fun z hz h12 => ?_⟩ (fun hHeld => ?_)
  · subst h12
    exact absurd hz (by decide)
  clear hK K hHeld
  try simp only [Act.put, List.setIfInBounds_toArray, List.set_cons_zero, List.set_cons_succ]
  refine Z_take (i := 14) (d := 6) (v := ?_) (Zs := []) rfl rfl (by kernel_rfl) (by kernel_rfl) (by kernel_rfl) (fun _ _ _ h => h) (fun _ h => absurd h (by decide)) (by kernel_rfl) rfl ?_ ⟨trivial, fun z hz h12 => by subst h12; exact absurd hz (by decide)⟩ ?_
  rotate_left
  · intro W hSw hC
    try dsimp only at hSw
    go_simp
    try with_reducible rfl
  try simp only [List.setIfInBounds_toArray, List.set_cons_zero, List.set_cons_succ]
  refine wpAnyZ_done (by kernel_rfl) ?_ _
  go_wp2
  go_ret
  exact ⟨rfl, hb4, hk4⟩
end Go.Proofs.Ytknkmamjdmadcaa
