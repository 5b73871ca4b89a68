
/- Remove of a free entry; Remove refused. -/
import Derived.Test.YtnbhifakfehefaaKQy
import Derived.Test.YtnbhifakfehefaaCZ
namespace Go.Proofs.Ytnbhifakfehefaa
open Go.RowKit
set_option linter.unusedVariables false
set_option linter.unusedSimpArgs false
set_option maxRecDepth 100000 in
set_option maxHeartbeats 4000000 in
theorem remove_free (B qb : Nat) (c : Cf) (hi : Int) (A F : Value) (L H : List Nat) (E : Nat → It) (D : Nat → List Nat) (k : Nat) (w : World) (hs : Qs w B qb c hi A F L H E D) (hk : k < L.length) (h1 : (E (hv L k)).hol = 0) :
    Calls Try.prog 15 #[.pointer (some ⟨qb, 0, none⟩), .int .i64 (E (hv L k)).seq, .int .i64 (E (hv L k)).hol] w fun e w' => ∃ v, e = .returned (.tuple #[((E (hv L k)).put v).ent, .int .i64 0]) ∧ ∃ A' F' H', Hid (Qs w' B qb c hi A' F' (L.eraseIdx k) H' E D ∧ Ob w.heap.size w' v (D (hv L k)) ∧ H'.length + 1 = H.length ∧ Kp (inQ qb A F L) w w') := by
  obtain ⟨W0, hW0⟩ : ∃ W0, w.alloc (Obj.cells #[.int .i64 0, .int .i64 0, .int .i64 0, .bool false, .int .i64 0, .int .i64 0, .slice none 0 0] 37) = W0 := ⟨_, rfl⟩
  have HB0 : Hid (Below w.heap.size w W0) := by rw [← hW0]; exact bel1 (Below.refl _ _) (Nat.le_refl _) _
  have hh0 : W0.heap[w.heap.size]? = some (.cells #[.int .i64 0, .int .i64 0, .int .i64 0, .bool false, .int .i64 0, .int .i64 0, .slice none 0 0] 37 (0, 0)) := by rw [← hW0]; exact heap_new _ _
  have hs0 : W0.heap.size = w.heap.size + 1 := by rw [← hW0]; simp
  have hq0 := hs.below HB0.out
  obtain ⟨b, hb⟩ : ∃ b, hv L k = b := ⟨_, rfl⟩
  have hbL : b ∈ L := by rw [← hb, hv_eq L k hk]; exact List.getElem_mem _
  have HFD : Hid (Calls Try.prog 29 #[.pointer (some ⟨qb, 0, none⟩), .int .i64 (E (hv L k)).seq, .int .i64 (E (hv L k)).hol] W0 fun e w' => e = .returned (.int .i64 (k : Int)) ∧ w' = W0) := by
    refine Calls.mono (find_any B qb c hi A F L H E D _ _ W0 hq0) ?_
    rintro e w' ⟨i, rfl, hsp, rfl⟩
    obtain ⟨_, e2⟩ := split_find hsp hs.srt hk rfl rfl
    exact ⟨by rw [e2], rfl⟩
  obtain ⟨g, cap, hA, ck, hcap⟩ := row_cell hq0.ra k hk
  have c6 := hq0.q.cell.2.2.2.2.2.2.1
  rw [hA] at c6
  have hbH : hv L k ∈ H := (hs.mem _).2 ⟨by rw [hb]; exact hbL, h1⟩
  obtain ⟨j, hj, hje⟩ := List.mem_iff_getElem.1 hbH
  have hjv : hv H j = b := by rw [hv_eq H j hj, hje, hb]
  have hibj : IB W0 b ((E b).at (j : Int)) := hq0.lx.it j b (by rw [List.getElem?_eq_getElem hj, hje, hb])
  have HRM : Hid (∀ W, Below W0.heap.size W0 W → Calls Try.prog 30 #[ifc qb, .int .i64 (j : Int)] W fun e w' => e = .returned (.iface 67 (ptr b)) ∧ ∃ F' H', Hid (Qy w' B qb c hi A F' L H' E D (fun k => False ∨ k = b) ∧ H'.length + 1 = H.length ∧ Kp (inQ qb A F L) W0 w')) := fun W hW => by
    have hqW := hq0.below hW
    refine Calls.mono (heap_remove B qb c hi A F H E j W hqW.q hqW.lx hqW.ok hj) ?_
    rintro e w' ⟨rfl, F', H', HP⟩
    rw [hjv] at HP
    obtain ⟨r1, r2⟩ := Qy.rem hqW.qy (by rw [← hb]; exact hbH) HP.out
    refine ⟨by rw [hjv], F', H', r1, ?_, (Kp.ofBelow hW).trans r2⟩
    have := HP.out.2.2.1.length_eq
    simpa using this
  have HDR : Hid (∀ (W : World) (F' : Value) (H' : List Nat), Qy W B qb c hi A F' L H' E D (fun k => False ∨ k = b) → Kp (inQ qb A F L) W0 W → Calls Try.prog 31 #[.pointer (some ⟨qb, 0, none⟩), .int .i64 (k : Int)] W fun e w' => e = .returned (.tuple #[]) ∧ ∃ A', Hid (Qs w' B qb c hi A' F' (L.eraseIdx k) H' E D ∧ (∃ p, IB w' b ((E b).at p)) ∧ Ob B w' (E b).dat (D b) ∧ Kp (inQ qb A F L) w w' ∧ w'.heap[w.heap.size]? = W0.heap[w.heap.size]?)) := fun W F' H' hy hk0 => by
    refine Calls.mono (drop_raw B qb c hi A F' L k W hy.q hy.ra hy.len hk) ?_
    rintro e w' ⟨rfl, A', HA⟩
    obtain ⟨r1, r2, r3, r4⟩ := HA.out
    have hmem := erase_mem hs.nd hk
    have hqs := Qy.fewer (L' := L.eraseIdx k) hy (List.eraseIdx_sublist ..) (fun x hx => (hmem x).2 ⟨((hy.mem x).1 hx).1, fun e => ((hy.mem x).1 hx).2.2 (.inr (by rw [e, hb]))⟩) (fun x hx _ h => h.elim id (fun e => ((hmem x).1 hx).2 (by rw [e, hb]))) r1 r2 r3 r4
    have hd := hy.dat b hbL
    obtain ⟨p, hp⟩ := hy.it b hbL
    refine ⟨rfl, A', hqs, ⟨p, (r4.block hp.lt (fun e => ?_)).trans hp⟩, hd.keep (fun j e => r4.block (hd.lt j e).2 (fun h => ?_)), (Kp.ofBelow HB0.out).trans (hk0.trans (r4.mono (fun j h => h.elim .inl (fun e => .inr (.inr (.inl e)))))), (r4.block (by have := hk0.size; omega) (fun e => ?_)).trans (hk0.block (by omega) (fun e => ?_))⟩
    · rcases e with e | e
      · exact (hy.q.ne_item hp) e.symm
      · exact (hp.ne_row hy.ra e) rfl
    · rcases h with e2 | e2
      · exact (hd.ne (b := qb) hy.q (by decide)) (by rw [← e2]; exact e)
      · obtain ⟨cur, hg⟩ := row_blk hy.ra e2
        exact (hd.ne hg (by decide)) e
    · rcases e with e | e
      · have := hs.q.lt
        omega
      · obtain ⟨cur, hg⟩ := row_blk hs.ra e
        have := (Array.getElem?_eq_some_iff.1 hg).1
        omega
    · rcases e with e | e | e | e
      · have := hs.q.lt
        omega
      · obtain ⟨p', hp'⟩ := hs.it _ e
        have := hp'.lt
        omega
      · obtain ⟨cur, hg⟩ := row_blk hs.ra e
        have := (Array.getElem?_eq_some_iff.1 hg).1
        omega
      · obtain ⟨cur, hg⟩ := row_blk hs.lx.row e
        have := (Array.getElem?_eq_some_iff.1 hg).1
        omega
  have HJ := hide hj
  rw [hb] at HFD h1 ck ⊢
  have hib := hibj
  obtain ⟨y0, y1, y2, y3, y4, y5, y6, y7⟩ := hib.cells
  have HIB := hide hib
  have HW0 := hide hW0
  have HH0 := hide hh0
  have HS0 := hide hs0
  have HS := hide hs
  have hql := hs.q.lt
  have hdl := hs.dl b hbL
  unfold ptr at ck
  unfold It.at at y0 y1 y2 y3 y4 y5 y6 y7
  simp only at y0 y1 y2 y3 y4 y5 y6 y7
  have HY7 := hide y7
  have hjb : (j : Int) < 4096 := by have := hs.lx.len; omega
  have hL4 := hs.len
  obtain ⟨nL, hnL⟩ : ∃ nL, L.length = nL := ⟨_, rfl⟩
  rw [hnL] at c6 hk hcap hL4
  rw [h1] at y5
  have H1 := hide h1
  clear h1
  have HKEP : Hid (Kept (fun _ => True) (fun z W' => z = 8 → W'.cell? ⟨b, 7, none⟩ = some (.int .i64 (j : Int))) #[] W0.drew) := ⟨trivial, fun z _ _ => HY7.out⟩
  clear hW0 hh0 hs0 hb hs hq0 hib hA hnL hbH hibj hjv hje hj
  go_enter Try.func15, Try.ntmps15
  go_wp2_with fail
  rw [HW0.out]
  refine Calls.mono HFD.out ?_
  rintro e w1 ⟨rfl, rfl⟩
  go_wp2_with fail
  refine wp_region_Z (S := fun _ => True) (C := fun z W' => z = 8 → W'.cell? ⟨b, 7, none⟩ = some (.int .i64 (j : Int))) (by kernel_rfl) ⟨trivial, fun z _ _ => HY7.out⟩ (fun hHeld => ?_)
  clear hHeld
  refine Z_take (i := 0) (d := 30) (v := ?_) (Zs := []) rfl rfl (by kernel_rfl) (by kernel_rfl) (by kernel_rfl) (fun _ _ _ h => h) (fun _ h => absurd h (by decide)) (by kernel_rfl) rfl ?_ ⟨trivial, fun z _ _ => HY7.out⟩ ?_
  rotate_left
  · intro W hSw hC
    try dsimp only at hSw
    go_simp
    try with_reducible rfl
  try simp only [List.setIfInBounds_toArray, List.set_cons_zero, List.set_cons_succ]
  refine Z_take (i := 1) (d := 31) (v := ?_) (Zs := []) rfl rfl (by kernel_rfl) (by kernel_rfl) (by kernel_rfl) (fun _ _ _ h => h) (fun _ h => absurd h (by decide)) (by kernel_rfl) rfl ?_ ⟨trivial, fun z _ _ => HY7.out⟩ ?_
  rotate_left
  · intro W hSw hC
    try dsimp only at hSw
    go_simp
    try with_reducible rfl
  try simp only [List.setIfInBounds_toArray, List.set_cons_zero, List.set_cons_succ]
  refine Z_take (i := 2) (d := 32) (v := ?_) (Zs := []) rfl rfl (by kernel_rfl) (by kernel_rfl) (by kernel_rfl) (fun _ _ _ h => h) (fun _ h => absurd h (by decide)) (by kernel_rfl) rfl ?_ ⟨trivial, fun z _ _ => HY7.out⟩ ?_
  rotate_left
  · intro W hSw hC
    try dsimp only at hSw
    go_simp
    try with_reducible rfl
  try simp only [List.setIfInBounds_toArray, List.set_cons_zero, List.set_cons_succ]
  refine Z_take (i := 3) (d := 33) (v := ?_) (Zs := []) rfl rfl (by kernel_rfl) (by kernel_rfl) (by kernel_rfl) (fun _ _ _ h => h) (fun _ h => absurd h (by decide)) (by kernel_rfl) rfl ?_ ⟨trivial, fun z _ _ => HY7.out⟩ ?_
  rotate_left
  · intro W hSw hC
    try dsimp only at hSw
    go_simp
    try with_reducible rfl
  try simp only [List.setIfInBounds_toArray, List.set_cons_zero, List.set_cons_succ]
  refine Z_take (i := 4) (d := 34) (v := ?_) (Zs := []) rfl rfl (by kernel_rfl) (by kernel_rfl) (by kernel_rfl) (fun _ _ _ h => h) (fun _ h => absurd h (by decide)) (by kernel_rfl) rfl ?_ ⟨trivial, fun z _ _ => HY7.out⟩ ?_
  rotate_left
  · intro W hSw hC
    try dsimp only at hSw
    go_simp
    try with_reducible rfl
  try simp only [List.setIfInBounds_toArray, List.set_cons_zero, List.set_cons_succ]
  refine Z_take (i := 5) (d := 35) (v := ?_) (Zs := []) rfl rfl (by kernel_rfl) (by kernel_rfl) (by kernel_rfl) (fun _ _ _ h => h) (fun _ h => absurd h (by decide)) (by kernel_rfl) rfl ?_ ⟨trivial, fun z _ _ => HY7.out⟩ ?_
  rotate_left
  · intro W hSw hC
    try dsimp only at hSw
    go_simp
    try with_reducible rfl
  try simp only [List.setIfInBounds_toArray, List.set_cons_zero, List.set_cons_succ]
  refine Z_take (i := 6) (d := 36) (v := ?_) (Zs := []) rfl rfl (by kernel_rfl) (by kernel_rfl) (by kernel_rfl) (fun _ _ _ h => h) (fun _ h => absurd h (by decide)) (by kernel_rfl) rfl ?_ ⟨trivial, fun z _ _ => HY7.out⟩ ?_
  rotate_left
  · intro W hSw hC
    try dsimp only at hSw
    go_simp
    try with_reducible rfl
  try simp only [List.setIfInBounds_toArray, List.set_cons_zero, List.set_cons_succ]
  refine Z_take (i := 7) (d := 37) (v := ?_) (Zs := [8]) rfl rfl (by kernel_rfl) (by kernel_rfl) (by kernel_rfl) (fun _ _ _ h => h) (fun _ h => absurd h (by decide)) (by kernel_rfl) rfl ?_ ⟨trivial, fun z _ _ => HY7.out⟩ ?_
  rotate_left
  · intro W hSw hC
    have hC8 := hC 8 (by simp) rfl; try dsimp only at hSw
    go_simp
    try with_reducible rfl
  try simp only [List.setIfInBounds_toArray, List.set_cons_zero, List.set_cons_succ]
  refine wpAnyZ_ready (rs := [8]) (by kernel_rfl) (by simp) ?_
  refine AllReadyZ.cons rfl (fun K hK => ?_) AllReadyZ.nil
  go_simp
  unfold ifc at HRM
  go_wp2_with (go_at_call 30; refine Calls.mono (HRM.out _ (Below.refl _ _).drew) ?_; rintro e1 w2 ⟨rfl, F', H', HQY⟩)
  refine hK.out _ _ ⟨trivial, fun z hz => by
    rintro rfl
    simp at hz⟩ (fun hHeld => ?_)
  clear hK K hHeld
  try simp only [Act.put, List.setIfInBounds_toArray, List.set_cons_zero, List.set_cons_succ]
  refine wpAnyZ_done (by kernel_rfl) ?_ _
  have hmx : Try.prog.follows .mixedOrders = true := by kernel_rfl
  have HDR2 := hide (HDR.out w2 F' H' HQY.out.1 HQY.out.2.2)
  go_wp2_with fail
  refine Calls.mono HDR2.out ?_
  rintro e w3 ⟨rfl, A', HH⟩
  obtain ⟨hq3, ⟨p, hib3⟩, hob, hk3, hn3⟩ := HH.out
  clear y0 y1 y2 y3 y4 y5 y6 y7
  obtain ⟨y0, y1, y2, y3, y4, y5, y6, _⟩ := hib3.cells
  unfold It.at at y0 y1 y2 y3 y4 y5 y6
  simp only at y0 y1 y2 y3 y4 y5 y6
  have HOW := hide (own_any (E b) (D b) w3 hob.rb (by omega))
  have HNZ3 : Hid (w3.heap[w.heap.size]? = some (.cells #[.int .i64 0, .int .i64 0, .int .i64 0, .bool false, .int .i64 0, .int .i64 0, .slice none 0 0] 37 (0, 0))) := hn3.trans HH0.out
  have HQ3 := hide hq3
  have HK3 := hide hk3
  rw [H1.out] at y5
  unfold It.put It.ent at HOW
  rw [H1.out] at HOW
  clear hq3 hk3 hib3 hob hn3
  go_wp2_with fail
  refine Calls.mono HOW.out ?_
  rintro e w4 ⟨v, rfl, HOB, hb4⟩
  obtain ⟨av, cv, hv'⟩ := row_form HOB.out.1
  subst hv'
  have hnz4 : w4.heap[w.heap.size]? = some (.cells #[.int .i64 0, .int .i64 0, .int .i64 0, .bool false, .int .i64 0, .int .i64 0, .slice none 0 0] 37 (0, 0)) := (hb4.block _ (Array.getElem?_eq_some_iff.1 HNZ3.out).1).trans HNZ3.out
  obtain ⟨z0, z1, z2, z3, z4, z5, z6⟩ := ent_cells hnz4
  have f0' : w4.frozen? ⟨w.heap.size, 0, none⟩ = false := by simp [World.frozen?, hnz4]
  have f1' : w4.frozen? ⟨w.heap.size, 1, none⟩ = false := by simp [World.frozen?, hnz4]
  have f2' : w4.frozen? ⟨w.heap.size, 2, none⟩ = false := by simp [World.frozen?, hnz4]
  have f3' : w4.frozen? ⟨w.heap.size, 3, none⟩ = false := by simp [World.frozen?, hnz4]
  have f4' : w4.frozen? ⟨w.heap.size, 4, none⟩ = false := by simp [World.frozen?, hnz4]
  have f5' : w4.frozen? ⟨w.heap.size, 5, none⟩ = false := by simp [World.frozen?, hnz4]
  have f6' : w4.frozen? ⟨w.heap.size, 6, none⟩ = false := by simp [World.frozen?, hnz4]
  have HQ4 := hide ((HQ3.out.below hb4).other hnz4 (fun k hk => set7_other w4 w.heap.size k hk (.int .i64 (E b).seq) (.int .i64 (E b).pri) (.int .i64 (E b).exp) (.bool (E b).dur) (.int .i64 (E b).cnt) (.int .i64 0) (.slice av (D b).length cv)))
  have HAT := hide (set7_at hnz4 (.int .i64 (E b).seq) (.int .i64 (E b).pri) (.int .i64 (E b).exp) (.bool (E b).dur) (.int .i64 (E b).cnt) (.int .i64 0) (.slice av (D b).length cv))
  have hw3z : w.heap.size ≤ w3.heap.size := by have := (Array.getElem?_eq_some_iff.1 HNZ3.out).1; omega
  have HOB5 : Hid (Ob w.heap.size (set7 w4 w.heap.size (.int .i64 (E b).seq) (.int .i64 (E b).pri) (.int .i64 (E b).exp) (.bool (E b).dur) (.int .i64 (E b).cnt) (.int .i64 0) (.slice av (D b).length cv)) (.slice av (D b).length cv) (D b)) :=
    (HOB.out.mono hw3z).keep (fun k e => set7_other _ _ k (fun e2 => (HOB.out.ne hnz4 (by decide)) (by rw [← e2]; exact e)) _ _ _ _ _ _ _)
  have HK5 : Hid (Kp (inQ qb A F L) w (set7 w4 w.heap.size (.int .i64 (E b).seq) (.int .i64 (E b).pri) (.int .i64 (E b).exp) (.bool (E b).dur) (.int .i64 (E b).cnt) (.int .i64 0) (.slice av (D b).length cv))) := by
    have hb7 := set7_kp w4 w.heap.size w.heap.size (Nat.le_refl _) (.int .i64 (E b).seq) (.int .i64 (E b).pri) (.int .i64 (E b).exp) (.bool (E b).dur) (.int .i64 (E b).cnt) (.int .i64 0) (.slice av (D b).length cv)
    exact (HK3.out.below hb4).transN (T := fun k => w.heap.size ≤ k) ⟨hb7.os, hb7.tape, hb7.output, hb7.size, fun k hk hn => hb7.block k (by omega)⟩ (fun k hk => .inr hk)
  clear hnz4 hb4 HOB
  go_wp2
  unfold set7 at HQ4 HAT HOB5 HK5
  obtain ⟨W5, hW5⟩ : ∃ W5, (((((((w4.setCell ⟨w.heap.size, 0, none⟩ (.int .i64 (E b).seq)).setCell ⟨w.heap.size, 1, none⟩ (.int .i64 (E b).pri)).setCell ⟨w.heap.size, 2, none⟩ (.int .i64 (E b).exp)).setCell ⟨w.heap.size, 3, none⟩ (.bool (E b).dur)).setCell ⟨w.heap.size, 4, none⟩ (.int .i64 (E b).cnt)).setCell ⟨w.heap.size, 5, none⟩ (.int .i64 0)).setCell ⟨w.heap.size, 6, none⟩ (.slice av (D b).length cv)) = W5 := ⟨_, rfl⟩
  rw [hW5] at HQ4 HAT HOB5 HK5 ⊢
  obtain ⟨q0, q1, q2, q3, q4, q5, q6⟩ := ent_cells HAT.out
  clear hW5 z0 z1 z2 z3 z4 z5 z6 f0' f1' f2' f3' f4' f5' f6'
  refine bodyPost_ret (v := .tuple #[.agg #[.int .i64 (E b).seq, .int .i64 (E b).pri, .int .i64 (E b).exp, .bool (E b).dur, .int .i64 (E b).cnt, .int .i64 0, .slice av (D b).length cv], .int .i64 0]) (by simp [results, Try.results15, go_sem, q0, q1, q2, q3, q4, q5, q6]) rfl ?_
  exact ⟨.slice av (D b).length cv, by unfold It.put It.ent; rw [H1.out], A', F', H', HQ4.out, HOB5.out, HQY.out.2.1, HK5.out⟩
end Go.Proofs.Ytnbhifakfehefaa
