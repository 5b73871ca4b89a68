import Derived.Test.YtknkmamjdmadcaaLAwkM9

/- Stage 14: awake. -/
namespace Go.Proofs.Ytknkmamjdmadcaa
open Go.RowKit Go.Maps
set_option linter.unusedVariables false
set_option linter.unusedSimpArgs false

theorem hasK_one (t : ByteArray) (p : Dv) : hasK [(t, p)] t = true := by simp [hasK]
theorem lu_one (t : ByteArray) (p : Dv) : lu dv0 [(t, p)] t = p := by
  unfold lu
  rw [List.find?_cons_of_pos (by simp)]
theorem cf_facts {w : World} {N : Nat} {nm : ByteArray} {rc : Bool} {sm rm ic mm : Int} {t : TypeId} (h : w.heap[N]? = some (.cells (cfA nm rc sm rm ic mm) t (0, 0))) :
    w.cell? ⟨N, 0, none⟩ = some (.string nm) ∧ w.cell? ⟨N, 1, none⟩ = some (.bool rc) ∧ w.cell? ⟨N, 2, none⟩ = some (.int .i64 sm) ∧ w.cell? ⟨N, 3, none⟩ = some (.int .i64 rm) ∧ w.cell? ⟨N, 4, none⟩ = some (.int .i64 ic) ∧ w.cell? ⟨N, 5, none⟩ = some (.int .i64 mm) ∧ N < w.heap.size ∧ ∀ o, w.frozen? ⟨N, o, none⟩ = false :=
  ⟨cellOf h 0 _ rfl, cellOf h 1 _ rfl, cellOf h 2 _ rfl, cellOf h 3 _ rfl, cellOf h 4 _ rfl, cellOf h 5 _ rfl, (Array.getElem?_eq_some_iff.1 h).1, fun o => by simp [World.frozen?, h]⟩
theorem cf_rc {w : World} {N : Nat} {nm : ByteArray} {rc : Bool} {sm rm ic mm : Int} {t : TypeId} (h : w.heap[N]? = some (.cells (cfA nm rc sm rm ic mm) t (0, 0))) (b : Bool) : (w.setCell ⟨N, 1, none⟩ (.bool b)).heap[N]? = some (.cells (cfA nm b sm rm ic mm) t (0, 0)) := by
  simp [World.setCell, Array.getElem?_modify, h, cfA]
theorem cf_sm {w : World} {N : Nat} {nm : ByteArray} {rc : Bool} {sm rm ic mm : Int} {t : TypeId} (h : w.heap[N]? = some (.cells (cfA nm rc sm rm ic mm) t (0, 0))) (b : Int) : (w.setCell ⟨N, 2, none⟩ (.int .i64 b)).heap[N]? = some (.cells (cfA nm rc b rm ic mm) t (0, 0)) := by
  simp [World.setCell, Array.getElem?_modify, h, cfA]
set_option maxRecDepth 100000 in
set_option maxHeartbeats 1000000 in
theorem awake_any (w : World) :
    Calls Try.prog 5 #[] w fun e w' => e = .returned (.bool true) ∧ Below w.heap.size w w' := by
  obtain ⟨V, hV⟩ : ∃ V, w.alloc (.cells (cfA ⟨#[108]⟩ false 2 0 4294967295 0) 25) = V := ⟨_, rfl⟩
  have h0 : V.heap[w.heap.size]? = some (.cells (cfA ⟨#[108]⟩ false 2 0 4294967295 0) 25 (0, 0)) := hV ▸ heap_alloc_last w _
  have HB0 : Hid (Below w.heap.size w V) := hV ▸ bel1 (Below.refl _ _) (Nat.le_refl _) _
  have hVs : V.heap.size = w.heap.size + 1 := by rw [← hV]; simp
  obtain ⟨c0, c1, c2, c3, c4, c5, cl, cf⟩ := cf_facts h0
  have H0 := hide h0
  have HV : Hid (w.alloc (.cells #[.string ⟨#[108]⟩, .bool false, .int .i64 2, .int .i64 0, .int .i64 4294967295, .int .i64 0] 25) = V) := hV
  clear hV h0
  go_enter Try.func5, Try.ntmps5
  go_wp2_with (first | rw [HV.out] | (go_at_call 6; refine (new_yes ⟨#[108]⟩ false 2 0 4294967295 0 V (by decide) (by decide) (by decide) (by decide) (by decide)).mono ?_; rintro e1 w1 ⟨n, rfl, hn, hL, hb⟩; refine Shut.out ?_))
  unfold Shut
  have h1 := (hb.block _ cl).trans H0.out
  have hbw := HB0.out.trans (hb.mono HB0.out.size)
  clear c0 c1 c2 c3 c4 c5 cl cf H0 HV HB0
  obtain ⟨W1, hW1⟩ : ∃ W1, w1.setCell ⟨w.heap.size, 1, none⟩ (.bool true) = W1 := ⟨_, rfl⟩
  have kW : Kp (fun k => k = w.heap.size) w1 W1 := hW1 ▸ kp_self (Kp.refl _ _) _ _
  have h2 : W1.heap[w.heap.size]? = some (.cells (cfA ⟨#[108]⟩ true 2 0 4294967295 0) 25 (0, 0)) := hW1 ▸ cf_rc h1 true
  have hL1 : Lnk W1 (n + 1) (newLk ⟨#[108]⟩ false 2 0 4294967295 n) [] := hL.kp kW (fun k hk e => by unfold inL newLk at hk; dsimp only at hk; omega)
  have hb1 : Below w.heap.size w W1 := bel_kp hbw kW (fun k e => by omega)
  obtain ⟨c0, c1, c2, c3, c4, c5, cl, cf⟩ := cf_facts h1
  obtain ⟨d0, d1, d2, d3, d4, d5, dl, df⟩ := cf_facts h2
  have HW1 := hide hW1
  have H2 := hide h2
  have HL1 := hide hL1
  have HB1 := hide hb1
  have HN := hide (show w.heap.size < n by omega)
  clear hW1 h1 h2 hL1 hb1 hb hbw kW hL hn
  go_wp2_with (first | rw [HW1.out] | (go_at_call 6; refine (new_yes ⟨#[108]⟩ true 2 0 4294967295 0 W1 (by decide) (by decide) (by decide) (by decide) (by decide)).mono ?_; rintro e1 w2 ⟨m, rfl, hm, hM, hb⟩; refine Shut.out ?_))
  unfold Shut
  have h1 := (hb.block _ dl).trans H2.out
  have hP := Pr.made (w := w) HL1.out (fun k hk => by have := HN.out; unfold inL newLk at hk; dsimp only at hk; omega) HB1.out hm hM rfl hb
  have hmw : w.heap.size < m := by omega
  clear c0 c1 c2 c3 c4 c5 cl cf d0 d1 d2 d3 d4 d5 dl df H2 HL1 HB1 HW1 hM hb hm
  obtain ⟨W2, hW2⟩ : ∃ W2, w2.setCell ⟨w.heap.size, 2, none⟩ (.int .i64 3) = W2 := ⟨_, rfl⟩
  have kW : Kp (fun k => k = w.heap.size) w2 W2 := hW2 ▸ kp_self (Kp.refl _ _) _ _
  have h2 : W2.heap[w.heap.size]? = some (.cells (cfA ⟨#[108]⟩ true 3 0 4294967295 0) 25 (0, 0)) := hW2 ▸ cf_sm h1 3
  have hP2 : Pr w W2 (n + 1) (newLk ⟨#[108]⟩ false 2 0 4294967295 n) [] (m + 1) (newLk ⟨#[108]⟩ true 2 0 4294967295 m) [] :=
    ⟨hP.a.kp kW (fun k hk e => by have := HN.out; unfold inL newLk at hk; dsimp only at hk; omega), hP.b.kp kW (fun k hk e => by unfold inL newLk at hk; dsimp only at hk; omega), hP.ap, hP.na, hP.nb, bel_kp hP.bel kW (fun k e => by omega)⟩
  obtain ⟨c0, c1, c2, c3, c4, c5, cl, cf⟩ := cf_facts h1
  obtain ⟨d0, d1, d2, d3, d4, d5, dl, df⟩ := cf_facts h2
  have HW2 := hide hW2
  have HP2 := hide hP2
  clear hW2 h1 h2 kW hP hP2 hmw
  go_wp2_with (first | rw [HW2.out] | (go_at_call 6; refine (new_no ⟨#[108]⟩ true 3 0 4294967295 0 W2 (by decide) (by decide)).mono ?_; rintro e1 w3 ⟨rfl, hb⟩; refine Shut.out ?_))
  unfold Shut
  have HP := hide (HP2.out.go hb)
  unfold newLk at HP
  clear c0 c1 c2 c3 c4 c5 cl cf d0 d1 d2 d3 d4 d5 dl df HW2 HP2 hb HN
  have H1 := hide (send_no (n + 1) _ ⟨#[116]⟩ false w3 HP.out.a.lb rfl rfl (by decide) (by decide))
  have H2 := hide (grant_any (m + 1) _ 2 false w3 HP.out.b.lb rfl (by decide))
  go_wp2_with (first | (go_at_call 19; refine H1.out.mono ?_; rintro e1 w4 ⟨rfl, rfl⟩) | (go_at_call 20; refine H2.out.mono ?_; rintro e2 w4 ⟨rfl, hl4, hk4⟩; refine Shut.out ?_))
  unfold Shut
  have hP4 := HP.out.right (HP.out.b.turn hl4 rfl hk4) rfl (kpL hk4)
  rw [show (Lk.grant ⟨⟨#[108]⟩, true, 4294967295, 0, 0, false, 2, 0, 4294967295, 4294967295, m⟩ 2 false) = ⟨⟨#[108]⟩, true, 4294967295, 2, 0, false, 2, 0, 4294967295, 1, m⟩ from rfl] at hP4
  have HP4 := hide hP4
  clear H1 H2 HP hl4 hk4 hP4
  have H3 := hide (fields_any (m + 1) _ 7 w4 HP4.out.b.lb)
  go_wp2_with (first | (go_at_call 22; refine H3.out.mono ?_; rintro e3 w5 ⟨rfl, hb⟩; refine Shut.out ?_))
  unfold Shut
  have HP5 := hide (HP4.out.go hb)
  clear H3 HP4 hb
  have H5 := hide (flow_send (n + 1) _ _ _ _ _ _ w5 HP5.out.a.lb (Lk.flow_pf ⟨⟨#[108]⟩, true, 4294967295, 2, 0, false, 2, 0, 4294967295, 1, m⟩ 7) (Lk.flow_sz _ _) rfl (show (2 : Int) ≠ -1 by decide) (show (4294967295 : Int) ≠ -1 by decide))
  go_wp2_with (first | (go_at_call 21; refine H5.out.mono ?_; rintro e4 w6 ⟨rfl, hl6, hk6⟩; refine Shut.out ?_))
  unfold Shut
  have hP6 := HP5.out.left (HP5.out.a.turn hl6 rfl hk6) rfl (kpL hk6)
  rw [show (Lk.hearR ⟨⟨#[108]⟩, false, 4294967295, 0, 0, false, 2, 0, 4294967295, 4294967295, n⟩ 4294967295 2 false) = ⟨⟨#[108]⟩, false, 4294967295, 2, 0, false, 2, 0, 4294967295, 4294967295, n⟩ from rfl] at hP6
  have HP6 := hide hP6
  clear H5 HP5 hl6 hk6 hP6
  have H6 := hide (send_open (n + 1) _ [] ⟨#[116]⟩ w6 HP6.out.a rfl (show (0 : Int) < 2 by decide) (by decide) (by decide) rfl (show (2 : Int) ≠ 1 by decide) (show (0 : Int) ≤ 2 ∧ (2 : Int) ≤ 4294967295 by decide) (show (0 : Int) ≤ 0 by decide) (show (0 : Int) ≤ 4294967295 by decide) (by unfold maxLen; simp))
  go_wp2_with (first | (go_at_call 19; refine H6.out.mono ?_; rintro e5 w7 ⟨rfl, hl7, hk7⟩; refine Shut.out ?_))
  unfold Shut
  have hP7 := HP6.out.left hl7 rfl hk7
  rw [show (Lk.one ⟨⟨#[108]⟩, false, 4294967295, 2, 0, false, 2, 0, 4294967295, 4294967295, n⟩) = ⟨⟨#[108]⟩, false, 0, 1, 0, false, 2, 0, 4294967295, 4294967295, n⟩ from rfl] at hP7
  have HP7 := hide hP7
  clear H6 HP6 hl7 hk7 hP7
  have H7 := hide (got_open (m + 1) _ [] ⟨#[116]⟩ w7 HP7.out.b rfl (show (4294967295 : Int) ≠ 1 by decide) (by decide) (by decide) rfl (show (2 : Int) ≠ 1 by decide) (show (0 : Int) ≤ 2 ∧ (2 : Int) ≤ 4294967295 by decide) (show (0 : Int) ≤ 0 by decide) (show (0 : Int) ≤ 4294967295 by decide) (by unfold maxLen; simp))
  go_wp2_with (first | (go_at_call 23; refine H7.out.mono ?_; rintro e6 w8 ⟨rfl, hl8, hk8⟩; refine Shut.out ?_))
  unfold Shut
  have hP8 := HP7.out.right hl8 rfl hk8
  rw [show (Lk.one ⟨⟨#[108]⟩, true, 4294967295, 2, 0, false, 2, 0, 4294967295, 1, m⟩) = ⟨⟨#[108]⟩, true, 0, 1, 0, false, 2, 0, 4294967295, 1, m⟩ from rfl] at hP8
  have HP8 := hide hP8
  clear H7 HP7 hl8 hk8 hP8
  have H8 := hide (own_open (m + 1) _ [(⟨#[116]⟩, dv0)] ⟨#[116]⟩ 0 0 36 w8 HP8.out.b (by unfold maxLen; decide) (hasK_one _ _) (lu_one _ _) (by decide) (by unfold maxLen; simp))
  go_wp2_with (first | (go_at_call 24; refine H8.out.mono ?_; rintro e7 w9 ⟨rfl, hl9, hk9⟩; refine Shut.out ?_))
  unfold Shut
  have HP9 := hide (HP8.out.right hl9 rfl (hk9.mono (fun k e => .inr e)))
  clear H8 HP8 hl9 hk9
  have H9 := hide (peer_open (n + 1) _ [(⟨#[116]⟩, dv0)] ⟨#[116]⟩ 0 0 36 w9 HP9.out.a (by unfold maxLen; decide) (hasK_one _ _) (lu_one _ _) (by decide) (by decide) (by unfold maxLen; simp))
  go_wp2_with (first | (go_at_call 25; refine H9.out.mono ?_; rintro e8 w10 ⟨rfl, hl10, hk10⟩; refine Shut.out ?_))
  unfold Shut
  rw [show (List.filter (fun p => !decide (p.1 = (⟨#[116]⟩ : ByteArray))) [((⟨#[116]⟩ : ByteArray), dv0)]) = [] by simp] at hl10
  have HP10 := hide (HP9.out.left hl10 rfl (hk10.mono (fun k e => .inr e)))
  clear H9 HP9 hl10 hk10
  have H10 : Hid (Calls Try.prog 9 #[.pointer (some ⟨n + 1, 0, none⟩)] w10 fun e w' => e = .returned (.agg #[.string ⟨#[108]⟩, .bool false, .int .i64 0, .int .i64 1, .int .i64 0, .bool false, .int .i64 1]) ∧ Below w10.heap.size w10 w') := see_any (n + 1) _ _ w10 HP10.out.a
  go_wp2_with (first | (go_at_call 9; refine H10.out.mono ?_; rintro e9 w11 ⟨rfl, hb11⟩; refine Shut.out ?_))
  unfold Shut
  have HB := hide ((HP10.out.go hb11).bel)
  clear H10 HP10 hb11
  go_wp2
  go_ret
  exact ⟨rfl, bel1 HB.out HB.out.size _⟩
end Go.Proofs.Ytknkmamjdmadcaa
