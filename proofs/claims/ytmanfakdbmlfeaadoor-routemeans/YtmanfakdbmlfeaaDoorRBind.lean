
/- Stage 18: Bind. -/
import Derived.Test.YtmanfakdbmlfeaaDoorRRtr
namespace Go.Proofs.YtmanfakdbmlfeaaDoor
open Go.RowKit Go.Maps
set_option linter.unusedVariables false
set_option linter.unusedSimpArgs false
def bindE (L : List Bd) (b : Bd) : Int := if patB (pcs b.1) then (if nam b.2 then (if hasB L b then 181 else if L.length = 256 then 183 else 0) else 82) else 180
def bindL (L : List Bd) (b : Bd) : List Bd := if bindE L b = 0 then b :: L else L
theorem bel2 {B : Nat} {w wr : World} (h : Below B w wr) (hB : B ≤ w.heap.size) (o : Obj) : Below B w (wr.alloc o) := h.alloc (Nat.le_trans hB h.size) o
theorem wp_put_B {o : Oper} {a : Act} {w : World} {C : Act → World → Prop} {Q : Exit → Act → World → Prop} (m x v : Operand) (hop : o.op = Op.mapUpdate 54 m x v) (b : Nat) (hm : a.eval m = .map (some b)) (k : Bd) (hx : a.eval x = bdV k) (hv : a.eval v = .agg #[]) (L : List Bd) (hT : TbB w b L) (hk : okB k) (hnew : k ∉ L) (hl : L.length ≤ 1000000)
    (h : ∀ w', TbB w' b (k :: L) → w.mapTurned w' b → C (a.put o.dst undef) w') : o.wp Tryd.prog a w C Q := by
  obtain ⟨w', hr, h1, h2⟩ := store_run hT hk hnew hl
  unfold Oper.wp
  simp [execOp, hop, hm, hx, hv, hr, Result.andThen]
  exact h w' h1 h2
theorem frozen_of {w : World} {n : Nat} {cs : Array Value} {t : TypeId} (h : w.heap[n]? = some (.cells cs t)) (o : Nat) : w.frozen? ⟨n, o, none⟩ = false := by simp [World.frozen?, h]
theorem set2_block {w : World} {n : Nat} {p q x y : Value} {t : TypeId} (h : w.heap[n]? = some (.cells #[x, y] t)) : ((w.setCell ⟨n, 0, none⟩ p).setCell ⟨n, 1, none⟩ q).heap[n]? = some (.cells #[p, q] t (0, 0)) := by
  simp [World.setCell, Array.getElem?_modify, h]
theorem set2_below {B n : Nat} {w wr : World} {p q : Value} (h : Below B w wr) (hn : B ≤ n) : Below B w ((wr.setCell ⟨n, 0, none⟩ p).setCell ⟨n, 1, none⟩ q) :=
  ⟨h.os, h.tape, h.output, by simpa using h.size, fun k hk => by
    rw [blk_set_other _ _ _ _ (by show k ≠ n; omega), blk_set_other _ _ _ _ (by show k ≠ n; omega)]
    exact h.block k hk⟩
set_option maxHeartbeats 4000000 in
set_option maxRecDepth 100000 in
theorem bind_put (w : World) (r m : Nat) (L : List Bd) (p q : ByteArray) (hR : RtM w r m L) (hp : p.size ≤ 281474976710656) (hq : q.size ≤ 281474976710656) (h1 : patB (pcs p) = true) (h2 : nam q = true) (h3 : hasB L (p, q) = false) (h4 : L.length < 256) :
    Calls Tryd.prog 16 #[.pointer (some ⟨r, 0, none⟩), bdV (p, q)] w fun e w' => e = .returned (.int .i64 0) ∧ RtM w' r m ((p, q) :: L) ∧ Kp (fun k => k = m) w w' := by
  have n1 := nil_yes
  have n2 := nil_no
  have hok : okB (p, q) := ⟨by show p.size ≤ maxLen; unfold maxLen; omega, by show q.size ≤ maxLen; unfold maxLen; omega⟩
  obtain ⟨W1, hW1⟩ : ∃ W1, W1 = w.alloc (.cells #[.string p, .string q] 36) := ⟨_, rfl⟩
  have hz1 : W1.heap.size = w.heap.size + 1 := by rw [hW1]; simp
  have HW1b : Hid (Below w.heap.size w W1) := by rw [hW1]; exact bel1 (Below.refl _ _) (Nat.le_refl _) _
  have hB1 : W1.heap[w.heap.size]? = some (.cells #[.string p, .string q] 36 (0, 0)) := by rw [hW1]; exact heap_new _ _
  have HSB : Hid (∀ W, Below (w.heap.size + 1) W1 W → W.cell? ⟨w.heap.size, 0, none⟩ = some (.string p) ∧ W.cell? ⟨w.heap.size, 1, none⟩ = some (.string q)) := fun W hb =>
    ⟨cellOf ((hb.block _ (by omega)).trans hB1) 0 _ rfl, cellOf ((hb.block _ (by omega)).trans hB1) 1 _ rfl⟩
  have HRW : Hid (∀ W, Below (w.heap.size + 1) W1 W → RtM W r m L) := fun W hb => (hR.keep HW1b.out).keep (by rw [hz1]; exact hb)
  have HCL : Hid (∀ s W, s.size ≤ 281474976710656 → Below (w.heap.size + 1) W1 W → Calls Tryd.prog 34 #[.string s] W fun e w' => e = .returned (.string s) ∧ Hid (Below (w.heap.size + 1) W1 w') ∧ Hid (Below W.heap.size W w')) := fun s W hs hb =>
    (clone_any s hs W).mono fun e w' ⟨q1, q2⟩ => ⟨q1, belOn hb (by have := hb.size; omega) q2, q2⟩
  have HHAS : Hid (∀ W, RtM W r m L → Calls Tryd.prog 36 #[.pointer (some ⟨r, 0, none⟩), .agg #[.string p, .string q]] W fun e w' => e = .returned (.bool false) ∧ Below W.heap.size W w') := fun W h => by
    have := has_any W r m L (p, q) h hok
    rw [h3] at this
    exact this
  have hle : w.heap.size + 1 ≤ W1.heap.size := by omega
  have hmx : Tryd.prog.follows .mixedOrders = true := by kernel_rfl
  unfold bdV
  go_enter Tryd.func16, Tryd.ntmps16
  go_wp2_with fail
  rw [← hW1]
  refine (patternOf_any p hp W1).mono ?_
  rintro e w1 ⟨hb1, ⟨hk, rfl⟩ | ⟨hk, g, c, rfl, hg, hc, h9, hx⟩⟩
  · rw [h1] at hk
    cases hk
  have HB1 : Hid (Below (w.heap.size + 1) W1 w1) := by rw [← hz1]; exact hb1
  clear hb1 hk hx
  obtain ⟨c1, c2⟩ := HSB.out w1 HB1.out
  go_wp2_with fail
  refine (isName_any q hq w1).mono ?_
  rintro e w2 ⟨rfl, rfl⟩
  rw [h2]
  go_wp2_with fail
  refine (HHAS.out _ (HRW.out _ HB1.out)).mono ?_
  rintro e w3 ⟨rfl, hb3⟩
  have HB3 : Hid (Below (w.heap.size + 1) W1 w3) := belOn HB1.out (by have := HB1.out.size; omega) hb3
  clear hb3 c1 c2
  have hcr := (HRW.out _ HB3.out).cell
  have hln := len_run (HRW.out _ HB3.out).2
  have h4' : ((L.length : Int) == 256) = false := by rw [beq_eq_false_iff_ne]; omega
  go_wp2_with fail
  clear hcr hln
  have HR0 : Hid (Below (w.heap.size + 1) W1 w3.drew) := HB3.out.drew
  have hz3 : w.heap.size + 1 ≤ w3.drew.heap.size := by have := HR0.out.size; omega
  refine wp_region_held_drew (S := fun W => W.cell? ⟨w.heap.size, 0, none⟩ = some (.string p) ∧ W.cell? ⟨w.heap.size, 1, none⟩ = some (.string q)) (by kernel_rfl) (HSB.out _ HR0.out) (fun hHeld => ?_)
  refine take_do (i := 0) (d := 27) (v := ?_) rfl rfl (by kernel_rfl) (by kernel_rfl) (by kernel_rfl) (fun _ _ _ h => h) rfl ?_ (by assumption) ?_
  rotate_left
  · intro W hSw
    try dsimp only at hSw
    go_simp
    try with_reducible rfl
  try simp only [List.setIfInBounds_toArray, List.set_cons_zero, List.set_cons_succ]
  refine take_do (i := 1) (d := 28) (v := ?_) rfl rfl (by kernel_rfl) (by kernel_rfl) (by kernel_rfl) (fun _ _ _ h => h) rfl ?_ (by assumption) ?_
  rotate_left
  · intro W hSw
    try dsimp only at hSw
    go_simp
    try with_reducible rfl
  try simp only [List.setIfInBounds_toArray, List.set_cons_zero, List.set_cons_succ]
  refine take_do (i := 3) (d := 30) (v := ?_) rfl rfl (by kernel_rfl) (by kernel_rfl) (by kernel_rfl) (fun _ _ _ h => h) rfl ?_ (by assumption) ?_
  rotate_left
  · intro W hSw
    try dsimp only at hSw
    go_simp
    try with_reducible rfl
  try simp only [List.setIfInBounds_toArray, List.set_cons_zero, List.set_cons_succ]
  refine take_do (i := 4) (d := 31) (v := ?_) rfl rfl (by kernel_rfl) (by kernel_rfl) (by kernel_rfl) (fun _ _ _ h => h) rfl ?_ (by assumption) ?_
  rotate_left
  · intro W hSw
    try dsimp only at hSw
    go_simp
    try with_reducible rfl
  try simp only [List.setIfInBounds_toArray, List.set_cons_zero, List.set_cons_succ]
  refine wpAnyH_ready (rs := [2, 7]) (by kernel_rfl) (by simp) ?_
  refine AllReadyH.cons rfl (fun K hK => ?_) (AllReadyH.cons rfl (fun K hK => ?_) AllReadyH.nil)
  · rw [if_pos (by kernel_rfl)]
    go_wp2_with fail
    refine (HCL.out p w3.drew hp HR0.out).mono ?_
    rintro e w4 ⟨rfl, hb_w4, hc_w4⟩
    refine hK.out _ _ (HSB.out _ hb_w4.out) (fun hHeld => ?_)
    clear hK K
    try simp only [Act.put, List.setIfInBounds_toArray, List.set_cons_zero, List.set_cons_succ]
    refine wpAnyH_ready (rs := [5, 7]) (by kernel_rfl) (by simp) ?_
    refine AllReadyH.cons rfl (fun K hK => ?_) (AllReadyH.cons rfl (fun K hK => ?_) AllReadyH.nil)
    · rw [if_pos (by kernel_rfl)]
      go_wp2_with fail
      refine (HCL.out q w4 hq hb_w4.out).mono ?_
      rintro e w5 ⟨rfl, hb_w5, hc_w5⟩
      refine hK.out _ _ (HSB.out _ hb_w5.out) (fun hHeld => ?_)
      clear hK K
      try simp only [Act.put, List.setIfInBounds_toArray, List.set_cons_zero, List.set_cons_succ]
      refine take_do (i := 6) (d := 33) (v := ?_) rfl rfl (by kernel_rfl) (by kernel_rfl) (by kernel_rfl) (fun _ _ _ h => h) rfl ?_ (by assumption) ?_
      rotate_left
      · intro W hSw
        try dsimp only at hSw
        go_simp
        try with_reducible rfl
      try simp only [List.setIfInBounds_toArray, List.set_cons_zero, List.set_cons_succ]
      refine wpAnyH_ready (rs := [7]) (by kernel_rfl) (by simp) ?_
      refine AllReadyH.cons rfl (fun K hK => ?_) AllReadyH.nil
      rw [if_pos (by kernel_rfl)]
      go_wp2
      refine hK.out _ _ (HSB.out _ (bel2 hb_w5.out hle _)) (fun hHeld => ?_)
      clear hK K
      try simp only [Act.put, List.setIfInBounds_toArray, List.set_cons_zero, List.set_cons_succ]
      obtain ⟨wA, hwA⟩ : ∃ wA, wA = w5.alloc (.cells #[.string ⟨#[]⟩, .string ⟨#[]⟩] 36) := ⟨_, rfl⟩
      have hwB : w5.alloc (.cells #[.string ⟨#[]⟩, .string ⟨#[]⟩] 36) = wA := hwA.symm
      have hbA : Below (w.heap.size + 1) W1 wA := by rw [hwA]; exact bel2 hb_w5.out hle _
      have hblkA : wA.heap[w5.heap.size]? = some (.cells #[.string ⟨#[]⟩, .string ⟨#[]⟩] 36) := by rw [hwA]; exact heap_new _ _
      clear hwA
      first | rw [hwB] | (simp only [ByteArray.empty, hwB]) | exact Nat.zero
      clear hwB
      refine wpAnyH_ready (rs := [8]) (by kernel_rfl) (by simp) ?_
      refine AllReadyH.cons rfl (fun K hK => ?_) AllReadyH.nil
      rw [if_pos (by kernel_rfl)]
      have hblk : (wA).heap[w5.heap.size]? = some (.cells #[.string ⟨#[]⟩, .string ⟨#[]⟩] 36) := hblkA
      have hx0 : (wA).cell? ⟨w5.heap.size, 0, none⟩ = some (.string ⟨#[]⟩) := cellOf hblk 0 _ rfl
      have hx1 : (wA).cell? ⟨w5.heap.size, 1, none⟩ = some (.string ⟨#[]⟩) := cellOf hblk 1 _ rfl
      have hn5 : w.heap.size + 1 ≤ w5.heap.size := (by have := hb_w5.out.size; omega)
      have hf0 : (wA).frozen? ⟨w5.heap.size, 0, none⟩ = false := frozen_of hblk _
      have hf1 : (wA).frozen? ⟨w5.heap.size, 1, none⟩ = false := frozen_of hblk _
      go_wp2
      obtain ⟨w6, hw6⟩ : ∃ w6, w6 = ((wA).setCell ⟨w5.heap.size, 0, none⟩ (.string p)).setCell ⟨w5.heap.size, 1, none⟩ (.string q) := ⟨_, rfl⟩
      rw [← hw6]
      have HB6 : Hid (Below (w.heap.size + 1) W1 w6) := by rw [hw6]; exact set2_below hbA hn5
      have hblk6 : w6.heap[w5.heap.size]? = some (.cells #[.string p, .string q] 36 (0, 0)) := by rw [hw6]; exact set2_block hblk
      refine hK.out _ _ (HSB.out _ HB6.out) (fun hHeld => ?_)
      clear hK K
      try simp only [Act.put, List.setIfInBounds_toArray, List.set_cons_zero, List.set_cons_succ]
      refine wpAnyH_done (by kernel_rfl) ?_ _
      clear hx0 hx1 hf0 hf1 hblk hHeld
      have HS6 : Hid (∀ W, Below w6.heap.size w6 W → RtM W r m L ∧ W.cell? ⟨w5.heap.size, 0, none⟩ = some (.string p) ∧ W.cell? ⟨w5.heap.size, 1, none⟩ = some (.string q)) := fun W hb => by
        have hlt6 := (Array.getElem?_eq_some_iff.1 hblk6).1
        have hb6 := (hb.block _ hlt6).trans hblk6
        exact ⟨(HRW.out _ HB6.out).keep hb, cellOf hb6 0 _ rfl, cellOf hb6 1 _ rfl⟩
      go_wp2_with fail
      refine wp_region_held_drew (S := fun W => W.cell? ⟨r, 0, none⟩ = some (.map (some m)) ∧ W.cell? ⟨w5.heap.size, 0, none⟩ = some (.string p) ∧ W.cell? ⟨w5.heap.size, 1, none⟩ = some (.string q)) (by kernel_rfl) (let h := HS6.out _ (Below.drew (Below.refl w6.heap.size w6)); ⟨h.1.cell, h.2⟩) (fun hHeld => ?_)
      refine take_do (i := 0) (d := 34) (v := ?_) rfl rfl (by kernel_rfl) (by kernel_rfl) (by kernel_rfl) (fun _ _ _ h => h) rfl ?_ (by assumption) ?_
      rotate_left
      · intro W hSw
        try dsimp only at hSw
        go_simp
        try with_reducible rfl
      try simp only [List.setIfInBounds_toArray, List.set_cons_zero, List.set_cons_succ]
      refine take_do (i := 1) (d := 35) (v := ?_) rfl rfl (by kernel_rfl) (by kernel_rfl) (by kernel_rfl) (fun _ _ _ h => h) rfl ?_ (by assumption) ?_
      rotate_left
      · intro W hSw
        try dsimp only at hSw
        go_simp
        try with_reducible rfl
      try simp only [List.setIfInBounds_toArray, List.set_cons_zero, List.set_cons_succ]
      refine take_do (i := 2) (d := 36) (v := ?_) rfl rfl (by kernel_rfl) (by kernel_rfl) (by kernel_rfl) (fun _ _ _ h => h) rfl ?_ (by assumption) ?_
      rotate_left
      · intro W hSw
        try dsimp only at hSw
        go_simp
        try with_reducible rfl
      try simp only [List.setIfInBounds_toArray, List.set_cons_zero, List.set_cons_succ]
      refine take_do (i := 3) (d := 37) (v := ?_) rfl rfl (by kernel_rfl) (by kernel_rfl) (by kernel_rfl) (fun _ _ _ h => h) rfl ?_ (by assumption) ?_
      rotate_left
      · intro W hSw
        try dsimp only at hSw
        have hc := hSw.1
        go_simp
        try with_reducible rfl
      try simp only [List.setIfInBounds_toArray, List.set_cons_zero, List.set_cons_succ]
      refine take_do (i := 4) (d := 38) (v := ?_) rfl rfl (by kernel_rfl) (by kernel_rfl) (by kernel_rfl) (fun _ _ _ h => h) rfl ?_ (by assumption) ?_
      rotate_left
      · intro W hSw
        try dsimp only at hSw
        obtain ⟨_, hc1, hc2⟩ := hSw
        go_simp
        try with_reducible rfl
      try simp only [List.setIfInBounds_toArray, List.set_cons_zero, List.set_cons_succ]
      refine take_do (i := 5) (d := 39) (v := ?_) rfl rfl (by kernel_rfl) (by kernel_rfl) (by kernel_rfl) (fun _ _ _ h => h) rfl ?_ (by assumption) ?_
      rotate_left
      · intro W hSw
        try dsimp only at hSw
        go_simp
        try with_reducible rfl
      try simp only [List.setIfInBounds_toArray, List.set_cons_zero, List.set_cons_succ]
      refine wpAnyH_ready (rs := [6]) (by kernel_rfl) (by simp) ?_
      refine AllReadyH.cons rfl (fun K hK => ?_) AllReadyH.nil
      rw [if_pos (by kernel_rfl)]
      refine wp_put_B (.tmp 37) (.tmp 38) (.tmp 39) rfl m rfl (p, q) rfl rfl L (HS6.out _ (Below.drew (Below.refl w6.heap.size w6))).1.2 hok (hasB_not.1 h3) (by omega) (fun w7 ht7 hm7 => ?_)
      have HQ : Hid (RtM w7 r m ((p, q) :: L) ∧ Kp (fun k => k = m) w w7) := by
        have hr6 := (HS6.out _ (Below.drew (Below.refl w6.heap.size w6))).1
        have k7 := grown_kp hm7
        have k6 : Kp (fun k => k = m) w w6 := (Kp.ofBelow HW1b.out).below (by rw [hz1]; exact HB6.out)
        exact ⟨⟨(Kp.block k7 hr6.lt (fun e => hr6.ne e.symm)).trans hr6.1, ht7⟩, (k6.below (Below.drew (Below.refl w6.heap.size w6))).trans k7⟩
      have HC7 : Hid (w7.cell? ⟨r, 0, none⟩ = some (.map (some m)) ∧ w7.cell? ⟨w5.heap.size, 0, none⟩ = some (.string p) ∧ w7.cell? ⟨w5.heap.size, 1, none⟩ = some (.string q)) := by
        have k7 := grown_kp hm7
        have hr6 := (HS6.out _ (Below.drew (Below.refl w6.heap.size w6)))
        have hlt6 := (Array.getElem?_eq_some_iff.1 hblk6).1
        have hne : w5.heap.size ≠ m := fun e => by
          obtain ⟨_, _, _, D, ⟨es, cc, h2', _⟩, _⟩ := hr6.1
          rw [← e, show w6.drew.heap = w6.heap from rfl, hblk6] at h2'
          cases h2'
        exact ⟨HQ.out.1.cell, (Kp.cell k7 (show w5.heap.size < w6.drew.heap.size from hlt6) hne).trans hr6.2.1, (Kp.cell k7 (show w5.heap.size < w6.drew.heap.size from hlt6) hne).trans hr6.2.2⟩
      refine hK.out _ _ HC7.out (fun hHeld => ?_)
      clear hK K
      try simp only [Act.put, List.setIfInBounds_toArray, List.set_cons_zero, List.set_cons_succ]
      refine wpAnyH_done (by kernel_rfl) ?_ _
      go_wp2
      go_ret
      exact ⟨rfl, HQ.out.1, HQ.out.2⟩
    · rw [if_pos (by kernel_rfl)]
      go_wp2
      refine hK.out _ _ (HSB.out _ (bel2 hb_w4.out hle _)) (fun hHeld => ?_)
      clear hK K
      try simp only [Act.put, List.setIfInBounds_toArray, List.set_cons_zero, List.set_cons_succ]
      refine wpAnyH_ready (rs := [5]) (by kernel_rfl) (by simp) ?_
      refine AllReadyH.cons rfl (fun K hK => ?_) AllReadyH.nil
      rw [if_pos (by kernel_rfl)]
      go_wp2_with fail
      refine (HCL.out q _ hq (bel2 hb_w4.out hle _)).mono ?_
      rintro e w5 ⟨rfl, hb_w5, hc_w5⟩
      refine hK.out _ _ (HSB.out _ hb_w5.out) (fun hHeld => ?_)
      clear hK K
      try simp only [Act.put, List.setIfInBounds_toArray, List.set_cons_zero, List.set_cons_succ]
      refine take_do (i := 6) (d := 33) (v := ?_) rfl rfl (by kernel_rfl) (by kernel_rfl) (by kernel_rfl) (fun _ _ _ h => h) rfl ?_ (by assumption) ?_
      rotate_left
      · intro W hSw
        try dsimp only at hSw
        go_simp
        try with_reducible rfl
      try simp only [List.setIfInBounds_toArray, List.set_cons_zero, List.set_cons_succ]
      refine wpAnyH_ready (rs := [8]) (by kernel_rfl) (by simp) ?_
      refine AllReadyH.cons rfl (fun K hK => ?_) AllReadyH.nil
      rw [if_pos (by kernel_rfl)]
      have hblk : (w5).heap[w4.heap.size]? = some (.cells #[.string ⟨#[]⟩, .string ⟨#[]⟩] 36) := ((hc_w5.out.block _ (by simp)).trans (heap_new _ _))
      have hx0 : (w5).cell? ⟨w4.heap.size, 0, none⟩ = some (.string ⟨#[]⟩) := cellOf hblk 0 _ rfl
      have hx1 : (w5).cell? ⟨w4.heap.size, 1, none⟩ = some (.string ⟨#[]⟩) := cellOf hblk 1 _ rfl
      have hn5 : w.heap.size + 1 ≤ w4.heap.size := (by have := hb_w4.out.size; omega)
      have hf0 : (w5).frozen? ⟨w4.heap.size, 0, none⟩ = false := frozen_of hblk _
      have hf1 : (w5).frozen? ⟨w4.heap.size, 1, none⟩ = false := frozen_of hblk _
      go_wp2
      obtain ⟨w6, hw6⟩ : ∃ w6, w6 = ((w5).setCell ⟨w4.heap.size, 0, none⟩ (.string p)).setCell ⟨w4.heap.size, 1, none⟩ (.string q) := ⟨_, rfl⟩
      rw [← hw6]
      have HB6 : Hid (Below (w.heap.size + 1) W1 w6) := by rw [hw6]; exact set2_below hb_w5.out hn5
      have hblk6 : w6.heap[w4.heap.size]? = some (.cells #[.string p, .string q] 36 (0, 0)) := by rw [hw6]; exact set2_block hblk
      refine hK.out _ _ (HSB.out _ HB6.out) (fun hHeld => ?_)
      clear hK K
      try simp only [Act.put, List.setIfInBounds_toArray, List.set_cons_zero, List.set_cons_succ]
      refine wpAnyH_done (by kernel_rfl) ?_ _
      clear hx0 hx1 hf0 hf1 hblk hHeld
      have HS6 : Hid (∀ W, Below w6.heap.size w6 W → RtM W r m L ∧ W.cell? ⟨w4.heap.size, 0, none⟩ = some (.string p) ∧ W.cell? ⟨w4.heap.size, 1, none⟩ = some (.string q)) := fun W hb => by
        have hlt6 := (Array.getElem?_eq_some_iff.1 hblk6).1
        have hb6 := (hb.block _ hlt6).trans hblk6
        exact ⟨(HRW.out _ HB6.out).keep hb, cellOf hb6 0 _ rfl, cellOf hb6 1 _ rfl⟩
      go_wp2_with fail
      refine wp_region_held_drew (S := fun W => W.cell? ⟨r, 0, none⟩ = some (.map (some m)) ∧ W.cell? ⟨w4.heap.size, 0, none⟩ = some (.string p) ∧ W.cell? ⟨w4.heap.size, 1, none⟩ = some (.string q)) (by kernel_rfl) (let h := HS6.out _ (Below.drew (Below.refl w6.heap.size w6)); ⟨h.1.cell, h.2⟩) (fun hHeld => ?_)
      refine take_do (i := 0) (d := 34) (v := ?_) rfl rfl (by kernel_rfl) (by kernel_rfl) (by kernel_rfl) (fun _ _ _ h => h) rfl ?_ (by assumption) ?_
      rotate_left
      · intro W hSw
        try dsimp only at hSw
        go_simp
        try with_reducible rfl
      try simp only [List.setIfInBounds_toArray, List.set_cons_zero, List.set_cons_succ]
      refine take_do (i := 1) (d := 35) (v := ?_) rfl rfl (by kernel_rfl) (by kernel_rfl) (by kernel_rfl) (fun _ _ _ h => h) rfl ?_ (by assumption) ?_
      rotate_left
      · intro W hSw
        try dsimp only at hSw
        go_simp
        try with_reducible rfl
      try simp only [List.setIfInBounds_toArray, List.set_cons_zero, List.set_cons_succ]
      refine take_do (i := 2) (d := 36) (v := ?_) rfl rfl (by kernel_rfl) (by kernel_rfl) (by kernel_rfl) (fun _ _ _ h => h) rfl ?_ (by assumption) ?_
      rotate_left
      · intro W hSw
        try dsimp only at hSw
        go_simp
        try with_reducible rfl
      try simp only [List.setIfInBounds_toArray, List.set_cons_zero, List.set_cons_succ]
      refine take_do (i := 3) (d := 37) (v := ?_) rfl rfl (by kernel_rfl) (by kernel_rfl) (by kernel_rfl) (fun _ _ _ h => h) rfl ?_ (by assumption) ?_
      rotate_left
      · intro W hSw
        try dsimp only at hSw
        have hc := hSw.1
        go_simp
        try with_reducible rfl
      try simp only [List.setIfInBounds_toArray, List.set_cons_zero, List.set_cons_succ]
      refine take_do (i := 4) (d := 38) (v := ?_) rfl rfl (by kernel_rfl) (by kernel_rfl) (by kernel_rfl) (fun _ _ _ h => h) rfl ?_ (by assumption) ?_
      rotate_left
      · intro W hSw
        try dsimp only at hSw
        obtain ⟨_, hc1, hc2⟩ := hSw
        go_simp
        try with_reducible rfl
      try simp only [List.setIfInBounds_toArray, List.set_cons_zero, List.set_cons_succ]
      refine take_do (i := 5) (d := 39) (v := ?_) rfl rfl (by kernel_rfl) (by kernel_rfl) (by kernel_rfl) (fun _ _ _ h => h) rfl ?_ (by assumption) ?_
      rotate_left
      · intro W hSw
        try dsimp only at hSw
        go_simp
        try with_reducible rfl
      try simp only [List.setIfInBounds_toArray, List.set_cons_zero, List.set_cons_succ]
      refine wpAnyH_ready (rs := [6]) (by kernel_rfl) (by simp) ?_
      refine AllReadyH.cons rfl (fun K hK => ?_) AllReadyH.nil
      rw [if_pos (by kernel_rfl)]
      refine wp_put_B (.tmp 37) (.tmp 38) (.tmp 39) rfl m rfl (p, q) rfl rfl L (HS6.out _ (Below.drew (Below.refl w6.heap.size w6))).1.2 hok (hasB_not.1 h3) (by omega) (fun w7 ht7 hm7 => ?_)
      have HQ : Hid (RtM w7 r m ((p, q) :: L) ∧ Kp (fun k => k = m) w w7) := by
        have hr6 := (HS6.out _ (Below.drew (Below.refl w6.heap.size w6))).1
        have k7 := grown_kp hm7
        have k6 : Kp (fun k => k = m) w w6 := (Kp.ofBelow HW1b.out).below (by rw [hz1]; exact HB6.out)
        exact ⟨⟨(Kp.block k7 hr6.lt (fun e => hr6.ne e.symm)).trans hr6.1, ht7⟩, (k6.below (Below.drew (Below.refl w6.heap.size w6))).trans k7⟩
      have HC7 : Hid (w7.cell? ⟨r, 0, none⟩ = some (.map (some m)) ∧ w7.cell? ⟨w4.heap.size, 0, none⟩ = some (.string p) ∧ w7.cell? ⟨w4.heap.size, 1, none⟩ = some (.string q)) := by
        have k7 := grown_kp hm7
        have hr6 := (HS6.out _ (Below.drew (Below.refl w6.heap.size w6)))
        have hlt6 := (Array.getElem?_eq_some_iff.1 hblk6).1
        have hne : w4.heap.size ≠ m := fun e => by
          obtain ⟨_, _, _, D, ⟨es, cc, h2', _⟩, _⟩ := hr6.1
          rw [← e, show w6.drew.heap = w6.heap from rfl, hblk6] at h2'
          cases h2'
        exact ⟨HQ.out.1.cell, (Kp.cell k7 (show w4.heap.size < w6.drew.heap.size from hlt6) hne).trans hr6.2.1, (Kp.cell k7 (show w4.heap.size < w6.drew.heap.size from hlt6) hne).trans hr6.2.2⟩
      refine hK.out _ _ HC7.out (fun hHeld => ?_)
      clear hK K
      try simp only [Act.put, List.setIfInBounds_toArray, List.set_cons_zero, List.set_cons_succ]
      refine wpAnyH_done (by kernel_rfl) ?_ _
      go_wp2
      go_ret
      exact ⟨rfl, HQ.out.1, HQ.out.2⟩
  · rw [if_pos (by kernel_rfl)]
    go_wp2
    refine hK.out _ _ (HSB.out _ (bel2 HR0.out hle _)) (fun hHeld => ?_)
    clear hK K
    try simp only [Act.put, List.setIfInBounds_toArray, List.set_cons_zero, List.set_cons_succ]
    refine wpAnyH_ready (rs := [2]) (by kernel_rfl) (by simp) ?_
    refine AllReadyH.cons rfl (fun K hK => ?_) AllReadyH.nil
    rw [if_pos (by kernel_rfl)]
    go_wp2_with fail
    refine (HCL.out p _ hp (bel2 HR0.out hle _)).mono ?_
    rintro e w4 ⟨rfl, hb_w4, hc_w4⟩
    refine hK.out _ _ (HSB.out _ hb_w4.out) (fun hHeld => ?_)
    clear hK K
    try simp only [Act.put, List.setIfInBounds_toArray, List.set_cons_zero, List.set_cons_succ]
    refine wpAnyH_ready (rs := [5]) (by kernel_rfl) (by simp) ?_
    refine AllReadyH.cons rfl (fun K hK => ?_) AllReadyH.nil
    rw [if_pos (by kernel_rfl)]
    go_wp2_with fail
    refine (HCL.out q w4 hq hb_w4.out).mono ?_
    rintro e w5 ⟨rfl, hb_w5, hc_w5⟩
    refine hK.out _ _ (HSB.out _ hb_w5.out) (fun hHeld => ?_)
    clear hK K
    try simp only [Act.put, List.setIfInBounds_toArray, List.set_cons_zero, List.set_cons_succ]
    refine take_do (i := 6) (d := 33) (v := ?_) rfl rfl (by kernel_rfl) (by kernel_rfl) (by kernel_rfl) (fun _ _ _ h => h) rfl ?_ (by assumption) ?_
    rotate_left
    · intro W hSw
      try dsimp only at hSw
      go_simp
      try with_reducible rfl
    try simp only [List.setIfInBounds_toArray, List.set_cons_zero, List.set_cons_succ]
    refine wpAnyH_ready (rs := [8]) (by kernel_rfl) (by simp) ?_
    refine AllReadyH.cons rfl (fun K hK => ?_) AllReadyH.nil
    rw [if_pos (by kernel_rfl)]
    have hblk : (w5).heap[w3.heap.size]? = some (.cells #[.string ⟨#[]⟩, .string ⟨#[]⟩] 36) := ((hc_w5.out.block _ (Nat.lt_of_lt_of_le (show w3.heap.size < (w3.heap.push _).size by simp) hc_w4.out.size)).trans ((hc_w4.out.block w3.heap.size (show w3.heap.size < (w3.heap.push _).size by simp)).trans (heap_new w3.drew _)))
    have hx0 : (w5).cell? ⟨w3.heap.size, 0, none⟩ = some (.string ⟨#[]⟩) := cellOf hblk 0 _ rfl
    have hx1 : (w5).cell? ⟨w3.heap.size, 1, none⟩ = some (.string ⟨#[]⟩) := cellOf hblk 1 _ rfl
    have hn5 : w.heap.size + 1 ≤ w3.heap.size := hz3
    have hf0 : (w5).frozen? ⟨w3.heap.size, 0, none⟩ = false := frozen_of hblk _
    have hf1 : (w5).frozen? ⟨w3.heap.size, 1, none⟩ = false := frozen_of hblk _
    go_wp2
    obtain ⟨w6, hw6⟩ : ∃ w6, w6 = ((w5).setCell ⟨w3.heap.size, 0, none⟩ (.string p)).setCell ⟨w3.heap.size, 1, none⟩ (.string q) := ⟨_, rfl⟩
    rw [← hw6]
    have HB6 : Hid (Below (w.heap.size + 1) W1 w6) := by rw [hw6]; exact set2_below hb_w5.out hn5
    have hblk6 : w6.heap[w3.heap.size]? = some (.cells #[.string p, .string q] 36 (0, 0)) := by rw [hw6]; exact set2_block hblk
    refine hK.out _ _ (HSB.out _ HB6.out) (fun hHeld => ?_)
    clear hK K
    try simp only [Act.put, List.setIfInBounds_toArray, List.set_cons_zero, List.set_cons_succ]
    refine wpAnyH_done (by kernel_rfl) ?_ _
    clear hx0 hx1 hf0 hf1 hblk hHeld
    have HS6 : Hid (∀ W, Below w6.heap.size w6 W → RtM W r m L ∧ W.cell? ⟨w3.heap.size, 0, none⟩ = some (.string p) ∧ W.cell? ⟨w3.heap.size, 1, none⟩ = some (.string q)) := fun W hb => by
      have hlt6 := (Array.getElem?_eq_some_iff.1 hblk6).1
      have hb6 := (hb.block _ hlt6).trans hblk6
      exact ⟨(HRW.out _ HB6.out).keep hb, cellOf hb6 0 _ rfl, cellOf hb6 1 _ rfl⟩
    go_wp2_with fail
    refine wp_region_held_drew (S := fun W => W.cell? ⟨r, 0, none⟩ = some (.map (some m)) ∧ W.cell? ⟨w3.heap.size, 0, none⟩ = some (.string p) ∧ W.cell? ⟨w3.heap.size, 1, none⟩ = some (.string q)) (by kernel_rfl) (let h := HS6.out _ (Below.drew (Below.refl w6.heap.size w6)); ⟨h.1.cell, h.2⟩) (fun hHeld => ?_)
    refine take_do (i := 0) (d := 34) (v := ?_) rfl rfl (by kernel_rfl) (by kernel_rfl) (by kernel_rfl) (fun _ _ _ h => h) rfl ?_ (by assumption) ?_
    rotate_left
    · intro W hSw
      try dsimp only at hSw
      go_simp
      try with_reducible rfl
    try simp only [List.setIfInBounds_toArray, List.set_cons_zero, List.set_cons_succ]
    refine take_do (i := 1) (d := 35) (v := ?_) rfl rfl (by kernel_rfl) (by kernel_rfl) (by kernel_rfl) (fun _ _ _ h => h) rfl ?_ (by assumption) ?_
    rotate_left
    · intro W hSw
      try dsimp only at hSw
      go_simp
      try with_reducible rfl
    try simp only [List.setIfInBounds_toArray, List.set_cons_zero, List.set_cons_succ]
    refine take_do (i := 2) (d := 36) (v := ?_) rfl rfl (by kernel_rfl) (by kernel_rfl) (by kernel_rfl) (fun _ _ _ h => h) rfl ?_ (by assumption) ?_
    rotate_left
    · intro W hSw
      try dsimp only at hSw
      go_simp
      try with_reducible rfl
    try simp only [List.setIfInBounds_toArray, List.set_cons_zero, List.set_cons_succ]
    refine take_do (i := 3) (d := 37) (v := ?_) rfl rfl (by kernel_rfl) (by kernel_rfl) (by kernel_rfl) (fun _ _ _ h => h) rfl ?_ (by assumption) ?_
    rotate_left
    · intro W hSw
      try dsimp only at hSw
      have hc := hSw.1
      go_simp
      try with_reducible rfl
    try simp only [List.setIfInBounds_toArray, List.set_cons_zero, List.set_cons_succ]
    refine take_do (i := 4) (d := 38) (v := ?_) rfl rfl (by kernel_rfl) (by kernel_rfl) (by kernel_rfl) (fun _ _ _ h => h) rfl ?_ (by assumption) ?_
    rotate_left
    · intro W hSw
      try dsimp only at hSw
      obtain ⟨_, hc1, hc2⟩ := hSw
      go_simp
      try with_reducible rfl
    try simp only [List.setIfInBounds_toArray, List.set_cons_zero, List.set_cons_succ]
    refine take_do (i := 5) (d := 39) (v := ?_) rfl rfl (by kernel_rfl) (by kernel_rfl) (by kernel_rfl) (fun _ _ _ h => h) rfl ?_ (by assumption) ?_
    rotate_left
    · intro W hSw
      try dsimp only at hSw
      go_simp
      try with_reducible rfl
    try simp only [List.setIfInBounds_toArray, List.set_cons_zero, List.set_cons_succ]
    refine wpAnyH_ready (rs := [6]) (by kernel_rfl) (by simp) ?_
    refine AllReadyH.cons rfl (fun K hK => ?_) AllReadyH.nil
    rw [if_pos (by kernel_rfl)]
    refine wp_put_B (.tmp 37) (.tmp 38) (.tmp 39) rfl m rfl (p, q) rfl rfl L (HS6.out _ (Below.drew (Below.refl w6.heap.size w6))).1.2 hok (hasB_not.1 h3) (by omega) (fun w7 ht7 hm7 => ?_)
    have HQ : Hid (RtM w7 r m ((p, q) :: L) ∧ Kp (fun k => k = m) w w7) := by
      have hr6 := (HS6.out _ (Below.drew (Below.refl w6.heap.size w6))).1
      have k7 := grown_kp hm7
      have k6 : Kp (fun k => k = m) w w6 := (Kp.ofBelow HW1b.out).below (by rw [hz1]; exact HB6.out)
      exact ⟨⟨(Kp.block k7 hr6.lt (fun e => hr6.ne e.symm)).trans hr6.1, ht7⟩, (k6.below (Below.drew (Below.refl w6.heap.size w6))).trans k7⟩
    have HC7 : Hid (w7.cell? ⟨r, 0, none⟩ = some (.map (some m)) ∧ w7.cell? ⟨w3.heap.size, 0, none⟩ = some (.string p) ∧ w7.cell? ⟨w3.heap.size, 1, none⟩ = some (.string q)) := by
      have k7 := grown_kp hm7
      have hr6 := (HS6.out _ (Below.drew (Below.refl w6.heap.size w6)))
      have hlt6 := (Array.getElem?_eq_some_iff.1 hblk6).1
      have hne : w3.heap.size ≠ m := fun e => by
        obtain ⟨_, _, _, D, ⟨es, cc, h2', _⟩, _⟩ := hr6.1
        rw [← e, show w6.drew.heap = w6.heap from rfl, hblk6] at h2'
        cases h2'
      exact ⟨HQ.out.1.cell, (Kp.cell k7 (show w3.heap.size < w6.drew.heap.size from hlt6) hne).trans hr6.2.1, (Kp.cell k7 (show w3.heap.size < w6.drew.heap.size from hlt6) hne).trans hr6.2.2⟩
    refine hK.out _ _ HC7.out (fun hHeld => ?_)
    clear hK K
    try simp only [Act.put, List.setIfInBounds_toArray, List.set_cons_zero, List.set_cons_succ]
    refine wpAnyH_done (by kernel_rfl) ?_ _
    go_wp2
    go_ret
    exact ⟨rfl, HQ.out.1, HQ.out.2⟩
end Go.Proofs.YtmanfakdbmlfeaaDoor
