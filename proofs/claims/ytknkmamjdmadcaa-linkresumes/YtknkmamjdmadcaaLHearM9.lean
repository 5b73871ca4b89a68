import Derived.Test.YtknkmamjdmadcaaLNum2M9
import Derived.Test.YtknkmamjdmadcaaCZ

/- Stage 14: a Flow is heard. -/
namespace Go.Proofs.Ytknkmamjdmadcaa
open Go.RowKit
set_option linter.unusedVariables false
set_option linter.unusedSimpArgs false

set_option maxRecDepth 100000 in
set_option maxHeartbeats 4000000 in
theorem hearSender_on (g : Nat) (l : Lk) (A : Array Value) (ki co cr av : Int) (dr : Bool) (w : World) (h : LB w g l) (hA : PfL A ki co cr av dr) (h1 : av ≠ -1) (h2 : co ≠ -1) (hp : 0 < gapZ l.ct co) (hm : gapZ l.ct co ≤ gapZ l.ct l.bd) (hc : 0 ≤ l.cr ∧ l.cr ≤ 4294967295) :
    Calls Try.prog 43 #[.pointer (some ⟨g, 0, none⟩), .agg A] w fun e w' => e = .returned (.tuple #[]) ∧ LB w' g (({ l with av := av % 4294967296 } : Lk).on (gapZ l.ct co)) ∧ Kp (fun k => k = g) w w' := by
  obtain ⟨V, hV⟩ : ∃ V, w.alloc (.cells A 57) = V := ⟨_, rfl⟩
  have n1 : V.heap[w.heap.size]? = some (.cells A 57 (0, 0)) := hV ▸ heap_alloc_last w _
  have hbV : Below w.heap.size w V := hV ▸ bel1 (Below.refl _ _) (Nat.le_refl _) _
  have hb : LB V g l := h.at (hbV.block _ h.lt)
  have c84 := cellOf n1 84 _ hA.co
  have c86 := cellOf n1 86 _ hA.av
  have lv := (Array.getElem?_eq_some_iff.1 n1).1
  have HV := hide hV
  obtain ⟨s0, s1, s2, s3, s4, s5, s6, s7, s8, s9, s10, s11⟩ := hb.facts
  have f4 := hb.frozen 4
  have hl := hb.lt
  have HL := hide hb
  have HK : Hid (Kp (fun k => k = g) w V) := Kp.ofBelow hbV
  have e1 : (av == -1) = false := by simp [h1]
  have e2 : (co == -1) = false := by simp [h2]
  have hgw : g ≠ w.heap.size := fun e => by have := h.lt; omega
  have hgw' : w.heap.size ≠ g := fun e => hgw e.symm
  obtain ⟨nm, rc, ct, cr0, av0, dr0, sm, rm, fi, bd, dm⟩ := l
  dsimp only at *
  have hqb : gapZ ct co ≤ 2147483647 := by unfold gapZ; omega
  clear h hA hV hbV hb n1 h1 h2
  go_enter Try.func43, Try.ntmps43
  go_wp2_with (first | rw [HV.out] | (go_at_call 41; refine (add_any _ _ _).mono ?_; rintro e3 w3 ⟨rfl, rfl⟩))
  go_quiet (first | (go_at_call 59; exact Calls.quiet_of_same ((gap_any _ _ _).mono fun e w' h => ⟨h.1, h.2.symm⟩)))
  obtain ⟨q, hq⟩ : ∃ q, q = gapZ ct co := ⟨_, rfl⟩
  obtain ⟨q2, hq2⟩ : ∃ q2, q2 = gapZ ct bd := ⟨_, rfl⟩
  rw [← hq] at hp hm hqb ⊢
  rw [← hq2] at hm
  have HQ2 := hide hq2
  have HQ := hide hq
  clear hq hq2
  have HL1 : Hid (LB ((V.setCell ⟨g, 4, none⟩ (.int .i64 (av % 4294967296))).drewN nq) g ⟨nm, rc, ct, cr0, av % 4294967296, dr0, sm, rm, fi, bd, dm⟩) := (HL.out.set_av _).drewN nq
  have HK1 : Hid (Kp (fun k => k = g) w ((V.setCell ⟨g, 4, none⟩ (.int .i64 (av % 4294967296))).drewN nq)) := (kp_self HK.out _ _).drewN nq
  obtain ⟨V2, hV2⟩ : ∃ V2, (V.setCell ⟨g, 4, none⟩ (.int .i64 (av % 4294967296))).drewN nq = V2 := ⟨_, rfl⟩
  rw [hV2] at HL1 HK1
  obtain ⟨r0, r1, r2, r3, r4, r5, r6, r7, r8, r9, r10, r11⟩ := HL1.out.facts
  have hl2 := HL1.out.lt
  have HV2 := hide hV2
  have HGo : Hid (Calls Try.prog 49 #[.pointer (some ⟨g, 0, none⟩), .int .i64 q] V2.drew fun e w' => e = .returned (.tuple #[]) ∧ LB w' g ((⟨nm, rc, ct, cr0, av % 4294967296, dr0, sm, rm, fi, bd, dm⟩ : Lk).on q) ∧ Kp (fun k => k = g) V2.drew w') := goOn_any g ⟨nm, rc, ct, cr0, av % 4294967296, dr0, sm, rm, fi, bd, dm⟩ q V2.drew HL1.out hc ⟨by omega, by omega⟩
  have HKP : Hid (∀ L W', W'.heap[g]? = V2.heap[g]? → Kept (fun _ => True) (fun z W' => z = 11 → W'.cell? ⟨g, 2, none⟩ = some (.int .i64 ct) ∧ W'.cell? ⟨g, 10, none⟩ = some (.int .i64 bd)) L W') := fun L W' hk => ⟨trivial, fun z _ _ => ⟨(World.cell?_of_block (a := ⟨g, 2, none⟩) hk).trans r2, (World.cell?_of_block (a := ⟨g, 10, none⟩) hk).trans r10⟩⟩
  have HB0 : Hid (V2.drew.heap[g]? = V2.heap[g]?) := rfl
  clear hV2 HL HK f4 s0 s1 s2 s3 s4 s5 s6 s7 s8 s9 s10 s11 r0 r1 r3 r4 r5 r6 r7 r8 r9 r11
  go_wp2_with (rw [HV2.out])
  refine wp_region_Z (S := fun _ => True) (C := fun z W' => z = 11 → W'.cell? ⟨g, 2, none⟩ = some (.int .i64 ct) ∧ W'.cell? ⟨g, 10, none⟩ = some (.int .i64 bd)) (by kernel_rfl) (HKP.out _ _ HB0.out) (fun hHeld => ?_)
  clear hHeld
  refine Z_take (i := 0) (d := 28) (v := ?_) (Zs := []) rfl rfl (by kernel_rfl) (by kernel_rfl) (by kernel_rfl) (fun _ _ _ h => h) (fun _ h => absurd h (by decide)) (by kernel_rfl) rfl ?_ (HKP.out _ _ HB0.out) ?_
  rotate_left
  · intro W hSw hC
    try dsimp only at hSw
    go_simp
    try with_reducible rfl
  try simp only [List.setIfInBounds_toArray, List.set_cons_zero, List.set_cons_succ]
  refine Z_take (i := 1) (d := 29) (v := ?_) (Zs := []) rfl rfl (by kernel_rfl) (by kernel_rfl) (by kernel_rfl) (fun _ _ _ h => h) (fun _ h => absurd h (by decide)) (by kernel_rfl) rfl ?_ (HKP.out _ _ HB0.out) ?_
  rotate_left
  · intro W hSw hC
    try dsimp only at hSw
    go_simp
    try with_reducible rfl
  try simp only [List.setIfInBounds_toArray, List.set_cons_zero, List.set_cons_succ]
  refine Z_take (i := 2) (d := 30) (v := ?_) (Zs := []) rfl rfl (by kernel_rfl) (by kernel_rfl) (by kernel_rfl) (fun _ _ _ h => h) (fun _ h => absurd h (by decide)) (by kernel_rfl) rfl ?_ (HKP.out _ _ HB0.out) ?_
  rotate_left
  · intro W hSw hC
    try dsimp only at hSw
    go_simp
    try with_reducible rfl
  try simp only [List.setIfInBounds_toArray, List.set_cons_zero, List.set_cons_succ]
  refine Z_take (i := 3) (d := 31) (v := ?_) (Zs := []) rfl rfl (by kernel_rfl) (by kernel_rfl) (by kernel_rfl) (fun _ _ _ h => h) (fun _ h => absurd h (by decide)) (by kernel_rfl) rfl ?_ (HKP.out _ _ HB0.out) ?_
  rotate_left
  · intro W hSw hC
    try dsimp only at hSw
    go_simp
    try with_reducible rfl
  try simp only [List.setIfInBounds_toArray, List.set_cons_zero, List.set_cons_succ]
  refine Z_take (i := 4) (d := 32) (v := ?_) (Zs := []) rfl rfl (by kernel_rfl) (by kernel_rfl) (by kernel_rfl) (fun _ _ _ h => h) (fun _ h => absurd h (by decide)) (by kernel_rfl) rfl ?_ (HKP.out _ _ HB0.out) ?_
  rotate_left
  · intro W hSw hC
    try dsimp only at hSw
    go_simp
    try with_reducible rfl
  try simp only [List.setIfInBounds_toArray, List.set_cons_zero, List.set_cons_succ]
  refine Z_take (i := 5) (d := 33) (v := ?_) (Zs := []) rfl rfl (by kernel_rfl) (by kernel_rfl) (by kernel_rfl) (fun _ _ _ h => h) (fun _ h => absurd h (by decide)) (by kernel_rfl) rfl ?_ (HKP.out _ _ HB0.out) ?_
  rotate_left
  · intro W hSw hC
    try dsimp only at hSw
    go_simp
    try with_reducible rfl
  try simp only [List.setIfInBounds_toArray, List.set_cons_zero, List.set_cons_succ]
  refine Z_take (i := 6) (d := 34) (v := ?_) (Zs := [11]) rfl rfl (by kernel_rfl) (by kernel_rfl) (by kernel_rfl) (fun _ _ _ h => h) (fun _ h => absurd h (by decide)) (by kernel_rfl) rfl ?_ (HKP.out _ _ HB0.out) ?_
  rotate_left
  · intro W hSw hC
    have hC11 := hC 11 (by simp) rfl; try dsimp only at hSw
    go_simp
    try with_reducible rfl
  try simp only [List.setIfInBounds_toArray, List.set_cons_zero, List.set_cons_succ]
  refine Z_take (i := 7) (d := 35) (v := ?_) (Zs := []) rfl rfl (by kernel_rfl) (by kernel_rfl) (by kernel_rfl) (fun _ _ _ h => h) (fun _ h => absurd h (by decide)) (by kernel_rfl) rfl ?_ (HKP.out _ _ HB0.out) ?_
  rotate_left
  · intro W hSw hC
    try dsimp only at hSw
    go_simp
    try with_reducible rfl
  try simp only [List.setIfInBounds_toArray, List.set_cons_zero, List.set_cons_succ]
  refine Z_take (i := 8) (d := 36) (v := ?_) (Zs := []) rfl rfl (by kernel_rfl) (by kernel_rfl) (by kernel_rfl) (fun _ _ _ h => h) (fun _ h => absurd h (by decide)) (by kernel_rfl) rfl ?_ (HKP.out _ _ HB0.out) ?_
  rotate_left
  · intro W hSw hC
    try dsimp only at hSw
    go_simp
    try with_reducible rfl
  try simp only [List.setIfInBounds_toArray, List.set_cons_zero, List.set_cons_succ]
  refine Z_take (i := 9) (d := 37) (v := ?_) (Zs := []) rfl rfl (by kernel_rfl) (by kernel_rfl) (by kernel_rfl) (fun _ _ _ h => h) (fun _ h => absurd h (by decide)) (by kernel_rfl) rfl ?_ (HKP.out _ _ HB0.out) ?_
  rotate_left
  · intro W hSw hC
    try dsimp only at hSw
    go_simp
    try with_reducible rfl
  try simp only [List.setIfInBounds_toArray, List.set_cons_zero, List.set_cons_succ]
  refine Z_take (i := 10) (d := 38) (v := ?_) (Zs := [11]) rfl rfl (by kernel_rfl) (by kernel_rfl) (by kernel_rfl) (fun _ _ _ h => h) (fun _ h => absurd h (by decide)) (by kernel_rfl) rfl ?_ (HKP.out _ _ HB0.out) ?_
  rotate_left
  · intro W hSw hC
    have hC11 := hC 11 (by simp) rfl; try dsimp only at hSw
    go_simp
    try with_reducible rfl
  try simp only [List.setIfInBounds_toArray, List.set_cons_zero, List.set_cons_succ]
  refine wpAnyZ_ready (rs := [11]) (by kernel_rfl) (by simp) ?_
  refine AllReadyZ.cons rfl (fun K hK => ?_) AllReadyZ.nil
  go_simp
  go_wp2_with (go_at_call 59; refine (gap_any _ _ _).mono ?_; rintro e3 w3 ⟨rfl, rfl⟩; rw [← HQ2.out])
  refine hK.out _ _ (HKP.out _ _ HB0.out) (fun hHeld => ?_)
  clear hK K hHeld
  try simp only [Act.put, List.setIfInBounds_toArray, List.set_cons_zero, List.set_cons_succ]
  refine Z_take (i := 12) (d := 40) (v := ?_) (Zs := []) rfl rfl (by kernel_rfl) (by kernel_rfl) (by kernel_rfl) (fun _ _ _ h => h) (fun _ h => absurd h (by decide)) (by kernel_rfl) rfl ?_ (HKP.out _ _ HB0.out) ?_
  rotate_left
  · intro W hSw hC
    try dsimp only at hSw
    go_simp
    try with_reducible rfl
  try simp only [List.setIfInBounds_toArray, List.set_cons_zero, List.set_cons_succ]
  rw [if_neg (show ¬ q2 < q by omega)]
  refine wpAnyZ_ready (rs := [13]) (by kernel_rfl) (by simp) ?_
  refine AllReadyZ.cons rfl (fun K hK => ?_) AllReadyZ.nil
  go_simp
  go_wp2_with (go_at_call 49; refine HGo.out.mono ?_; rintro e4 w4 ⟨rfl, hb4, hk4⟩)
  refine hK.out _ _ ⟨trivial, fun z hz h11 => ?_⟩ (fun hHeld => ?_)
  · subst h11
    exact absurd hz (by decide)
  clear hK K hHeld
  try simp only [Act.put, List.setIfInBounds_toArray, List.set_cons_zero, List.set_cons_succ]
  refine wpAnyZ_done (by kernel_rfl) ?_ _
  go_wp2
  first | go_end0 | refine bodyPost_ret (results_none rfl _ _ _) rfl ?_
  exact ⟨rfl, HQ.out ▸ hb4, HK1.out.trans hk4⟩
set_option maxRecDepth 100000 in
theorem flow_send (g : Nat) (l : Lk) (A : Array Value) (co cr av : Int) (dr : Bool) (w : World) (h : LB w g l) (hA : PfL A 19 co cr av dr) (hsz : (Try.prog.info? 57).map (·.size) = some A.size) (hr : l.rc = false) (h1 : cr ≠ -1) (h2 : co ≠ -1) :
    Calls Try.prog 21 #[.pointer (some ⟨g, 0, none⟩), .agg A] w fun e w' => e = .returned (.int .i64 0) ∧ LB w' g (l.hearR co cr dr) ∧ Kp (fun k => k = g) w w' := by
  obtain ⟨V, hV⟩ : ∃ V, w.alloc (.cells A 57) = V := ⟨_, rfl⟩
  have HN : Hid (V.heap[w.heap.size]? = some (.cells A 57 (0, 0))) := hV ▸ heap_alloc_last w _
  have hbV : Below w.heap.size w V := hV ▸ bel1 (Below.refl _ _) (Nat.le_refl _) _
  have hb : LB V g l := h.at (hbV.block _ h.lt)
  have c0 := cellOf HN.out 0 _ hA.k
  have lv := (Array.getElem?_eq_some_iff.1 HN.out).1
  have HV := hide hV
  obtain ⟨s0, s1, s2, s3, s4, s5, s6, s7, s8, s9, s10, s11⟩ := hb.facts
  rw [hr] at s1
  have hl := hb.lt
  have HG := hide (hearReceiver_any g l A 19 co cr av dr V hb hA h1 h2)
  have HK : Hid (Kp (fun k => k = g) w V) := Kp.ofBelow hbV
  have Hsz := hide hsz
  clear h hA hV hbV hb h1 h2 hsz s0 s2 s3 s4 s5 s6 s7 s8 s9 s10 s11
  go_enter Try.func21, Try.ntmps21
  go_wp2_with (first | rw [HV.out] | (refine wpList_load_row rfl 57 (.tmp 3) rfl w.heap.size rfl 57 A (0, 0) _ HN.out Try.underlying57 rfl Hsz.out ?_) | (go_at_call 44; refine HG.out.mono ?_; rintro e1 w1 ⟨rfl, hb1, hk1⟩))
  go_ret
  exact ⟨rfl, hb1, HK.out.trans hk1⟩
set_option maxRecDepth 100000 in
theorem flow_got (g : Nat) (l : Lk) (A : Array Value) (co cr av : Int) (dr : Bool) (w : World) (h : LB w g l) (hA : PfL A 19 co cr av dr) (hsz : (Try.prog.info? 57).map (·.size) = some A.size) (hr : l.rc = true) (h1 : av ≠ -1) (h2 : co ≠ -1) (hp : 0 < gapZ l.ct co) (hm : gapZ l.ct co ≤ gapZ l.ct l.bd) (hc : 0 ≤ l.cr ∧ l.cr ≤ 4294967295) :
    Calls Try.prog 21 #[.pointer (some ⟨g, 0, none⟩), .agg A] w fun e w' => e = .returned (.int .i64 0) ∧ LB w' g (({ l with av := av % 4294967296 } : Lk).on (gapZ l.ct co)) ∧ Kp (fun k => k = g) w w' := by
  obtain ⟨V, hV⟩ : ∃ V, w.alloc (.cells A 57) = V := ⟨_, rfl⟩
  have HN : Hid (V.heap[w.heap.size]? = some (.cells A 57 (0, 0))) := hV ▸ heap_alloc_last w _
  have hbV : Below w.heap.size w V := hV ▸ bel1 (Below.refl _ _) (Nat.le_refl _) _
  have hb : LB V g l := h.at (hbV.block _ h.lt)
  have c0 := cellOf HN.out 0 _ hA.k
  have lv := (Array.getElem?_eq_some_iff.1 HN.out).1
  have HV := hide hV
  obtain ⟨s0, s1, s2, s3, s4, s5, s6, s7, s8, s9, s10, s11⟩ := hb.facts
  rw [hr] at s1
  have hl := hb.lt
  have HG := hide (hearSender_on g l A 19 co cr av dr V hb hA h1 h2 hp hm hc)
  have HK : Hid (Kp (fun k => k = g) w V) := Kp.ofBelow hbV
  have Hsz := hide hsz
  clear h hA hV hbV hb h1 h2 hsz hp hm hc s0 s2 s3 s4 s5 s6 s7 s8 s9 s10 s11
  go_enter Try.func21, Try.ntmps21
  go_wp2_with (first | rw [HV.out] | (refine wpList_load_row rfl 57 (.tmp 3) rfl w.heap.size rfl 57 A (0, 0) _ HN.out Try.underlying57 rfl Hsz.out ?_) | (go_at_call 43; refine HG.out.mono ?_; rintro e1 w1 ⟨rfl, hb1, hk1⟩))
  go_ret
  exact ⟨rfl, hb1, HK.out.trans hk1⟩
end Go.Proofs.Ytknkmamjdmadcaa
