/- HPkW -/
import Derived.Test.YtgldcchleoklcaaGreatDoorP49
namespace Go.Proofs.YtgldcchleoklcaaGreatDoor
open Go.RowKit
set_option linter.unusedVariables false
set_option linter.unusedSimpArgs false
set_option maxRecDepth 100000 in
set_option maxHeartbeats 20000000 in
theorem packs_walk (kk : Int) (x : V) (w : World) (wk : -9223372036854775808 ≤ kk ∧ kk ≤ 9223372036854775807) (hx : Lies w.heap.size w x) (hT : Lib.Utf8Tabs 0 1 w) :
    Calls Tryz.prog 5 #[.agg #[.int .i64 kk, .slice x.a x.l.length x.c]] w fun e w' => e = .returned (.bool true) ∧ Below w.heap.size w w' := by
  have hxb := lies_bare hx
  obtain ⟨n, hn⟩ : ∃ n, x.l.length = n := ⟨_, rfl⟩
  obtain ⟨W0, hW0⟩ : ∃ W0, w.alloc (Obj.cells #[.int .i64 kk, .slice x.a n x.c] 33) = W0 := ⟨_, rfl⟩
  have hs0 : W0.heap.size = w.heap.size + 1 := by rw [← hW0]; simp
  have hb0 : Below w.heap.size w W0 := by rw [← hW0]; exact bel1 (Below.refl _ _) (Nat.le_refl _) _
  have xr : BoxR W0 w.heap.size kk x.a n x.c := by rw [← hW0]; exact World.alloc_heap_new _ _
  have HTB : Hid (∀ W', Below w.heap.size w W' → Lib.Utf8Tabs 0 1 W') := fun W' h => tabs_below hT h
  have HXK : Hid (∀ W', Below w.heap.size w W' → Lies w.heap.size W' (V.of 0 0 ⟨#[]⟩ x.a x.c 0 x.l)) := fun W' h => hxb.keep h (Nat.le_refl _)
  have HGR : Hid (∀ W', Below w.heap.size w W' → Calls Tryz.prog 14 #[.slice x.a n x.c] W' fun e w' => (e = .returned (.bool true) ∧ Below W'.heap.size W' w') ∨ (e = .returned (.bool false) ∧ T.wts (V.ts x.l) ≤ 100000 ∧ Below W'.heap.size W' w')) := fun W' h => by
    have hk := hxb.keep h (Nat.le_refl _)
    rw [← hn]
    exact greatallA_any x.a x.c w.heap.size x.l W' h.size hk.row hk.sub hk.ok.l hk.ok.c
  have HLE : Hid (T.wts (V.ts x.l) ≤ 100000 → ∀ W', Below w.heap.size w W' → Calls Tryz.prog 15 #[.slice x.a n x.c] W' fun e w' => e = .returned (.slice (some ⟨W'.heap.size, 0, none⟩) n (n + 3)) ∧ Hid (LentL x.l W'.heap.size w'.heap.size w') ∧ Below W'.heap.size W' w') := fun hw W' h => by
    have hk := hxb.keep h (Nat.le_refl _)
    have q := lentAll_any x.l (fun y _ => lent_any y) hw x.a x.c w.heap.size W' h.size hk.ok.l hk.ok.c hk.row hk.sub
    rw [hn] at q
    exact q.mono (fun e w' ⟨h1, h2, h3⟩ => ⟨h1, h2.out.lent hk.ok.c, h3⟩)
  have HN := hide hn
  obtain ⟨r0, r1⟩ := xr.cells
  have hw00 : w.heap.size < W0.heap.size := by omega
  have HW0 := hide hW0
  have HXR := hide xr
  have HB0 := hide hb0
  have HS0 := hide hs0
  rw [hn]
  clear hW0 hx hT hn xr hb0
  go_enter Tryz.func5, Tryz.ntmps5
  go_wp2_with fail
  rw [HW0.out]
  refine (HGR.out W0 HB0.out).mono ?_
  rintro e1 w1 (⟨rfl, hb1⟩ | ⟨rfl, hwt, hb1⟩)
  · have hbw := belOn HB0.out HB0.out.size hb1
    go_wp2
    go_ret
    exact ⟨rfl, hbw⟩
  have hbw1 := belOn HB0.out HB0.out.size hb1
  have HLI := hide (live_any w1 (HTB.out w1 hbw1))
  have HWT := hide hwt
  clear hwt
  go_wp2_with fail
  refine HLI.out.mono ?_
  rintro e2 w2 ⟨rfl, hb2⟩
  have hb02 : Below W0.heap.size W0 w2 := belOn hb1 hb1.size hb2
  have HBW2 : Hid (Below w.heap.size w w2) := belOn HB0.out HB0.out.size hb02
  have hs2 := hb02.size
  have xr2 := HXR.out.below hb02 (by omega)
  have hw02 : w.heap.size < w2.heap.size := by omega
  have HXR2 := hide xr2
  clear r0 r1 hb1 hb2 hb02 hbw1 hw00 HLI
  go_wp2_with fail
  have HS : Hid (∀ W', Below w2.heap.size w2 W' → (fun W' => W'.cell? ⟨w.heap.size, 0, none⟩ = some (.int .i64 kk) ∧ W'.cell? ⟨w.heap.size, 1, none⟩ = some (.slice x.a n x.c)) W') := by
    intro W' hW'
    have h := xr2.below hW' (by omega)
    exact h.cells
  clear xr2
  go_cut [5] (fun v wx => ∃ bx lo hi : Nat, v = .pointer (some ⟨bx, 0, none⟩) ∧ Hid (LentP kk x.l n w2 bx lo hi wx))
  case first =>
    have HBR1 : Hid (Below w2.heap.size w2 w2.drew) := (Below.refl _ _).drew
    have HBWD : Hid (Below w.heap.size w w2.drew) := HBW2.out.drew
    refine wp_region_held_drew (S := (fun W' => W'.cell? ⟨w.heap.size, 0, none⟩ = some (.int .i64 kk) ∧ W'.cell? ⟨w.heap.size, 1, none⟩ = some (.slice x.a n x.c))) (by kernel_rfl) (HS.out _ HBR1.out) (fun hHeld => ?_)
    refine take_do (i := 0) (d := 23) (v := ?_) rfl rfl (by kernel_rfl) (by kernel_rfl) (by kernel_rfl) (fun _ _ _ h => h) rfl ?_ (by assumption) ?_
    rotate_left
    · intro w hSw
      try dsimp only at hSw
      go_simp
      try with_reducible rfl
    try simp only [List.setIfInBounds_toArray, List.set_cons_zero, List.set_cons_succ]
    refine take_do (i := 1) (d := 24) (v := ?_) rfl rfl (by kernel_rfl) (by kernel_rfl) (by kernel_rfl) (fun _ _ _ h => h) rfl ?_ (by assumption) ?_
    rotate_left
    · intro w hSw
      try dsimp only at hSw
      go_simp
      try with_reducible rfl
    try simp only [List.setIfInBounds_toArray, List.set_cons_zero, List.set_cons_succ]
    refine take_do (i := 2) (d := 25) (v := ?_) rfl rfl (by kernel_rfl) (by kernel_rfl) (by kernel_rfl) (fun _ _ _ h => h) rfl ?_ (by assumption) ?_
    rotate_left
    · intro w hSw
      try dsimp only at hSw
      go_simp
      try with_reducible rfl
    try simp only [List.setIfInBounds_toArray, List.set_cons_zero, List.set_cons_succ]
    refine take_do (i := 3) (d := 26) (v := ?_) rfl rfl (by kernel_rfl) (by kernel_rfl) (by kernel_rfl) (fun _ _ _ h => h) rfl ?_ (by assumption) ?_
    rotate_left
    · intro w hSw
      try dsimp only at hSw
      go_simp
      try with_reducible rfl
    try simp only [List.setIfInBounds_toArray, List.set_cons_zero, List.set_cons_succ]
    refine wpAnyH_ready (rs := [4, 6]) (by kernel_rfl) (by simp) ?_
    refine AllReadyH.cons rfl (fun K hK => ?_) (AllReadyH.cons rfl (fun K hK => ?_) AllReadyH.nil)
    · go_simp
      go_wp2_with (go_at_call 15; refine Calls.mono (HLE.out HWT.out _ HBWD.out) ?_; rintro e6 w6 ⟨rfl, HLL, hb6⟩; have HB6 : Hid (Below w2.heap.size w2 w6) := HBR1.out.trans (hb6.mono (Nat.le_refl _)); clear hb6)
      refine hK.out _ _ (HS.out _ HB6.out) (fun hHeld => ?_)
      clear hK K
      refine take_do (i := 5) (d := 28) (v := ?_) rfl rfl (by kernel_rfl) (by kernel_rfl) (by kernel_rfl) (fun _ _ _ h => h) rfl ?_ (by assumption) ?_
      rotate_left
      · intro w hSw
        try dsimp only at hSw
        go_simp
        try with_reducible rfl
      try simp only [List.setIfInBounds_toArray, List.set_cons_zero, List.set_cons_succ]
      refine wpAnyH_ready (rs := [6]) (by kernel_rfl) (by simp) ?_
      refine AllReadyH.cons rfl (fun K hK => ?_) AllReadyH.nil
      go_simp
      have hs6 := HB6.out.size
      obtain ⟨WA, hWA⟩ : ∃ WA, w6.alloc (Obj.cells #[.int .i64 0, .slice none 0 0] 33) = WA := ⟨_, rfl⟩
      have hxA : WA.heap[w6.heap.size]? = some (.cells #[.int .i64 0, .slice none 0 0] 33 (0, 0)) := by rw [← hWA]; exact World.alloc_heap_new _ _
      have hsA : WA.heap.size = w6.heap.size + 1 := by rw [← hWA]; simp
      have hbA : Below w6.heap.size w6 WA := by rw [← hWA]; exact bel1 (Below.refl _ _) (Nat.le_refl _) _
      have HBA : Hid (Below w2.heap.size w2 WA) := HB6.out.trans (hbA.mono hs6)
      rw [hWA]
      refine hK.out _ _ (HS.out _ HBA.out) (fun hHeld => ?_)
      clear hK K
      have y0 : WA.cell? ⟨w6.heap.size, 0, none⟩ = some (.int .i64 0) := by unfold World.cell?; simp only [hxA]; rfl
      have y1 : WA.cell? ⟨w6.heap.size, 1, none⟩ = some (.slice none 0 0) := by unfold World.cell?; simp only [hxA]; rfl
      have fz : ∀ i, WA.frozen? ⟨w6.heap.size, i, none⟩ = false := fun i => by simp [World.frozen?, hxA]
      have hlt : w6.heap.size < WA.heap.size := by omega
      have HFIN : Hid (LentP kk x.l n w2 w6.heap.size w2.heap.size w6.heap.size ((WA.setCell ⟨w6.heap.size, 0, none⟩ (.int .i64 kk)).setCell ⟨w6.heap.size, 1, none⟩ (.slice (some ⟨w2.heap.size, 0, none⟩) n (n + 3)))) := lentp_fin hxA (HLL.out.keep (fun b _ h => hbA.block b h)) (by omega) (Nat.le_refl _) (.inr (Nat.le_refl _)) hs6 hlt HBA.out
      have HSA : Hid ((fun W' => W'.cell? ⟨w.heap.size, 0, none⟩ = some (.int .i64 kk) ∧ W'.cell? ⟨w.heap.size, 1, none⟩ = some (.slice x.a n x.c)) ((WA.setCell ⟨w6.heap.size, 0, none⟩ (.int .i64 kk)).setCell ⟨w6.heap.size, 1, none⟩ (.slice (some ⟨w2.heap.size, 0, none⟩) n (n + 3)))) := HS.out _ ((HBA.out.setCell (p := ⟨w6.heap.size, 0, none⟩) hs6 _).setCell (p := ⟨w6.heap.size, 1, none⟩) hs6 _)
      clear hWA hsA hxA
      refine wpAnyH_ready (rs := [7]) (by kernel_rfl) (by simp) ?_
      refine AllReadyH.cons rfl (fun K hK => ?_) AllReadyH.nil
      go_simp
      refine hK.out _ _ HSA.out (fun hHeld => ?_)
      clear hK K
      refine wpAnyH_done (by kernel_rfl) ?_ _
      (try go_wp2_with fail)
      go_meet
      exact ⟨_, _, _, rfl, HFIN⟩
    · go_simp
      obtain ⟨WA, hWA⟩ : ∃ WA, (w2.alloc (Obj.cells #[.int .i64 0, .slice none 0 0] 33)).drew = WA := ⟨_, rfl⟩
      have hxA : WA.heap[w2.heap.size]? = some (.cells #[.int .i64 0, .slice none 0 0] 33 (0, 0)) := by rw [← hWA]; exact World.alloc_heap_new w2 _
      have hsA : WA.heap.size = w2.heap.size + 1 := by rw [← hWA]; show (w2.alloc _).heap.size = _; simp
      have HBA : Hid (Below w2.heap.size w2 WA) := by rw [← hWA]; exact (bel1 (Below.refl _ _) (Nat.le_refl _) _).drew
      rw [hWA]
      refine hK.out _ _ (HS.out _ HBA.out) (fun hHeld => ?_)
      clear hK K
      have HLA := hide (HLE.out HWT.out WA (HBW2.out.trans (HBA.out.mono HBW2.out.size)))
      have HXA := hide hxA
      have HSZ := hide hsA
      clear hWA hsA hxA
      refine wpAnyH_ready (rs := [4]) (by kernel_rfl) (by simp) ?_
      refine AllReadyH.cons rfl (fun K hK => ?_) AllReadyH.nil
      go_simp
      go_wp2_with (go_at_call 15; refine Calls.mono HLA.out ?_; rintro e6 w6 ⟨rfl, HLL, hb6⟩; have HB6A : Hid (Below WA.heap.size WA w6) := hb6; clear hb6)
      have HB6 : Hid (Below w2.heap.size w2 w6) := HBA.out.trans (HB6A.out.mono HBA.out.size)
      refine hK.out _ _ (HS.out _ HB6.out) (fun hHeld => ?_)
      clear hK K
      refine take_do (i := 5) (d := 28) (v := ?_) rfl rfl (by kernel_rfl) (by kernel_rfl) (by kernel_rfl) (fun _ _ _ h => h) rfl ?_ (by assumption) ?_
      rotate_left
      · intro w hSw
        try dsimp only at hSw
        go_simp
        try with_reducible rfl
      try simp only [List.setIfInBounds_toArray, List.set_cons_zero, List.set_cons_succ]
      have hs6 := HB6A.out.size
      have hsa := HSZ.out
      have hx6 := (HB6A.out.block w2.heap.size (by omega)).trans HXA.out
      have y0 : w6.cell? ⟨w2.heap.size, 0, none⟩ = some (.int .i64 0) := by unfold World.cell?; simp only [hx6]; rfl
      have y1 : w6.cell? ⟨w2.heap.size, 1, none⟩ = some (.slice none 0 0) := by unfold World.cell?; simp only [hx6]; rfl
      have fz : ∀ i, w6.frozen? ⟨w2.heap.size, i, none⟩ = false := fun i => by simp [World.frozen?, hx6]
      have hlt : w2.heap.size < w6.heap.size := by omega
      have HFIN : Hid (LentP kk x.l n w2 w2.heap.size WA.heap.size w6.heap.size ((w6.setCell ⟨w2.heap.size, 0, none⟩ (.int .i64 kk)).setCell ⟨w2.heap.size, 1, none⟩ (.slice (some ⟨WA.heap.size, 0, none⟩) n (n + 3)))) := lentp_fin hx6 HLL.out (Nat.le_refl _) (by omega) (.inl (by omega)) (Nat.le_refl _) hlt HB6.out
      have HSA : Hid ((fun W' => W'.cell? ⟨w.heap.size, 0, none⟩ = some (.int .i64 kk) ∧ W'.cell? ⟨w.heap.size, 1, none⟩ = some (.slice x.a n x.c)) ((w6.setCell ⟨w2.heap.size, 0, none⟩ (.int .i64 kk)).setCell ⟨w2.heap.size, 1, none⟩ (.slice (some ⟨WA.heap.size, 0, none⟩) n (n + 3)))) := HS.out _ ((HB6.out.setCell (p := ⟨w2.heap.size, 0, none⟩) (Nat.le_refl _) _).setCell (p := ⟨w2.heap.size, 1, none⟩) (Nat.le_refl _) _)
      clear hs6 hsa hx6
      refine wpAnyH_ready (rs := [7]) (by kernel_rfl) (by simp) ?_
      refine AllReadyH.cons rfl (fun K hK => ?_) AllReadyH.nil
      go_simp
      refine hK.out _ _ HSA.out (fun hHeld => ?_)
      clear hK K
      refine wpAnyH_done (by kernel_rfl) ?_ _
      (try go_wp2_with fail)
      go_meet
      exact ⟨_, _, _, rfl, HFIN⟩
  case rest =>
    obtain ⟨bx, lo, hi, rfl, HLP⟩ := hcut
    rename World => w3
    clear HS
    obtain ⟨hbox, hll, hhi, hlo, hbl, hb1, hb2, hb3⟩ := HLP.out
    have c0 : w3.cell? ⟨bx, 0, none⟩ = some (.int .i64 kk) := by unfold World.cell?; simp only [hbox]; rfl
    have c1 : w3.cell? ⟨bx, 1, none⟩ = some (.slice (some ⟨lo, 0, none⟩) n (n + 3)) := by unfold World.cell?; simp only [hbox]; rfl
    have HBOX := hide hbox
    have HLL := hide hll
    have HB3 := hide hb3
    have HBW3 : Hid (Below w.heap.size w w3) := HBW2.out.trans (hb3.mono HBW2.out.size)
    obtain ⟨P, hP⟩ : ∃ P, packR kk x.l = P := ⟨_, rfl⟩
    have hwp := wt_packR kk x.l
    rw [hP] at hwp
    have HWP : Hid (T.wt P.1 ≤ 172200043) := by rw [Hid]; have := HWT.out; omega
    have HPK : Hid (∀ W', Below w3.heap.size w3 W' → Calls Tryz.prog 19 #[.agg #[.int .i64 kk, .slice (some ⟨lo, 0, none⟩) n (n + 3)]] W' fun e w' => ∃ r : V, e = VN r P.2 ∧ Hid (r.t = P.1 ∧ LiesIn (fun b => W'.heap.size + 2 ≤ b ∧ b < w'.heap.size) w' r ∧ Owns w' (W'.heap.size + 2) w'.heap.size r.slots) ∧ Below W'.heap.size W' w') := fun W' hW' => by
      obtain ⟨l', hts, hlen, hx⟩ := hll.keep (w' := W') (fun b _ h => hW'.block b (by omega))
      have hx2 : Lies hi W' (V.of 0 0 ⟨#[]⟩ (some ⟨lo, 0, none⟩) (n + 3) 0 l') := by
        have h := hx.lies
        rw [HN.out] at h
        exact LiesIn.keep h (fun _ _ _ => rfl) (fun b hb => hb.2)
      have h := pack_anyO kk (some ⟨lo, 0, none⟩) l' (n + 3) hi W' (by have := hW'.size; omega) hx2 (HTB.out W' (HBW3.out.trans (hW'.mono HBW3.out.size)))
      rw [packR_ts hts, hP, hlen, HN.out] at h
      exact h
    have HRP : Hid (∀ W', Below w.heap.size w W' → Calls Tryz.prog 20 #[.agg #[.int .i64 kk, .slice x.a n x.c]] W' fun e w' => ∃ z : V, e = VN z P.2 ∧ Hid (z.t = P.1 ∧ LiesIn (fun q => q < w.heap.size ∨ (W'.heap.size ≤ q ∧ q < w'.heap.size)) w' z) ∧ Below W'.heap.size W' w') := fun W' h => by
      have q := rpackR_any kk x (fun b => b < w.heap.size) W' (fun b hb => by have := h.size; omega) (HXK.out W' h)
      rw [hP, HN.out] at q
      exact q
    unfold VN at HPK HRP
    clear hbox hll hb3 hP hwp
    obtain ⟨PT, PE⟩ := P
    dsimp only at HPK HRP HWP
    go_wp2_with fail
    refine (HPK.out w3 (Below.refl _ _)).mono ?_
    rintro e4 w4 ⟨r, rfl, HR, hb4⟩
    have hs4 := hb4.size
    obtain ⟨W4, hW4⟩ : ∃ W4, w4.alloc (Obj.cells #[.int .i64 r.k, .int .u64 r.n, .string r.s, .slice r.a r.l.length r.c, .int .i64 r.e] 42) = W4 := ⟨_, rfl⟩
    have hsW4 : W4.heap.size = w4.heap.size + 1 := by rw [← hW4]; simp
    have hb44 : Below w4.heap.size w4 W4 := by rw [← hW4]; exact bel1 (Below.refl _ _) (Nat.le_refl _) _
    have HCR : Hid (C5 W4 w4.heap.size r) := by rw [← hW4]; exact c5_new w4 r
    have hb34 : Below w3.heap.size w3 W4 := hb4.trans (hb44.mono hs4)
    have HBW4 : Hid (Below w.heap.size w W4) := HBW3.out.trans (hb34.mono HBW3.out.size)
    obtain ⟨r0, r1⟩ := (HXR2.out.below (HB3.out.trans (hb4.mono HB3.out.size)) (by omega)).cells
    have hltx : w.heap.size < w4.heap.size := by omega
    have HW4 := hide hW4
    clear hW4 c0 c1
    go_wp2_with fail
    rw [HW4.out]
    refine (HRP.out W4 HBW4.out).mono ?_
    rintro e5 w5 ⟨s, rfl, HSS, hb5⟩
    have hs5 := hb5.size
    obtain ⟨W5, hW5⟩ : ∃ W5, w5.alloc (Obj.cells #[.int .i64 s.k, .int .u64 s.n, .string s.s, .slice s.a s.l.length s.c, .int .i64 s.e] 42) = W5 := ⟨_, rfl⟩
    have hsW5 : W5.heap.size = w5.heap.size + 1 := by rw [← hW5]; simp
    have hb55 : Below w5.heap.size w5 W5 := by rw [← hW5]; exact bel1 (Below.refl _ _) (Nat.le_refl _) _
    have HCS : Hid (C5 W5 w5.heap.size s) := by rw [← hW5]; exact c5_new w5 s
    have hb45 : Below W4.heap.size W4 W5 := hb5.trans (hb55.mono hs5)
    have HBW5 : Hid (Below w.heap.size w W5) := HBW4.out.trans (hb45.mono HBW4.out.size)
    have HB35 : Hid (Below w3.heap.size w3 W5) := hb34.trans (hb45.mono hb34.size)
    have HRL : Hid (∀ X : World, (∀ b, w3.heap.size ≤ b → b < W5.heap.size → X.heap[b]? = W5.heap[b]?) → LiesIn (fun b => w3.heap.size + 2 ≤ b ∧ b < w4.heap.size) X r ∧ Owns X (w3.heap.size + 2) w4.heap.size r.slots ∧ C5 X w4.heap.size r) := fun X hX => by
      have hk : ∀ b, w3.heap.size ≤ b → b < W4.heap.size → X.heap[b]? = W4.heap[b]? := fun b q1 q2 => (hX b (by omega) (by omega)).trans (hb45.block b q2)
      refine ⟨LiesIn.keep HR.out.2.1 (fun b hb o => World.cell?_of_block ((hk b (by omega) (by omega)).trans (hb44.block b hb.2))) (fun _ h => h), HR.out.2.2.keep (fun b q1 q2 => (hk b (by omega) (by omega)).trans (hb44.block b q2)) (Nat.le_refl _) (Nat.le_refl _), HCR.out.keep (hk _ (by omega) (by omega))⟩
    have HSL : Hid (∀ X : World, (∀ b, w3.heap.size ≤ b → b < W5.heap.size → X.heap[b]? = W5.heap[b]?) → Below w.heap.size w X → LiesIn (fun b => b < w.heap.size ∨ (W4.heap.size ≤ b ∧ b < w5.heap.size)) X s ∧ C5 X w5.heap.size s) := fun X hX hbX => by
      refine ⟨LiesIn.keep HSS.out.2 (fun b hb o => ?_) (fun _ h => h), HCS.out.keep (hX _ (by omega) (by omega))⟩
      rcases hb with hb | hb
      · exact (hbX.cell (p := ⟨b, o, none⟩) hb).trans ((HBW4.out.trans (hb5.mono HBW4.out.size)).cell (p := ⟨b, o, none⟩) hb).symm
      · exact World.cell?_of_block ((hX b (by omega) (by omega)).trans (hb55.block b hb.2))
    have HTR : Hid (r.t = PT) := HR.out.1
    have HTS : Hid (s.t = PT) := HSS.out.1
    have HSAME : Hid (∀ X : World, Below w.heap.size w X → W5.heap.size ≤ X.heap.size → ∀ g : V, g.t = PT → LiesIn (fun b => b < X.heap.size) X g → (∀ b, w3.heap.size ≤ b → b < W5.heap.size → X.heap[b]? = W5.heap[b]?) → Calls Tryz.prog 21 #[.agg #[.int .i64 g.k, .int .u64 g.n, .string g.s, .slice g.a g.l.length g.c, .int .i64 g.e], .agg #[.int .i64 s.k, .int .u64 s.n, .string s.s, .slice s.a s.l.length s.c, .int .i64 s.e]] X fun e w' => e = .returned (.bool true) ∧ Below X.heap.size X w') := fun X hbX hsX g hg hgl hX => by
      have h := requal_any g s X.heap.size X (Nat.le_refl _) hgl (LiesIn.keep (HSL.out X hX hbX).1 (fun _ _ _ => rfl) (fun b hb => by have := hbX.size; show b < X.heap.size; omega))
      rw [hg, HTS.out, eqT_rf, V.val_eq, V.val_eq] at h
      exact h
    have hq5 := HSAME.out W5 HBW5.out (Nat.le_refl _) r HTR.out (LiesIn.keep (HRL.out W5 (fun _ _ _ => rfl)).1 (fun _ _ _ => rfl) (fun b hb => by show b < W5.heap.size; omega)) (fun _ _ _ => rfl)
    have HQ5 := hide hq5
    obtain ⟨g0, g1, g2, g3, g4⟩ := HCR.out.keep (hb5.block w4.heap.size (by omega))
    have hl4 : w4.heap.size < w5.heap.size := by omega
    have HW5 := hide hW5
    clear hW5 r0 r1 hq5 HR HSS
    go_wp2_with fail
    rw [HW5.out]
    refine HQ5.out.mono ?_
    rintro e6 w6 ⟨rfl, hb6⟩
    have hs6 := hb6.size
    have HB36 : Hid (Below w3.heap.size w3 w6) := HB35.out.trans (hb6.mono HB35.out.size)
    have hbx6 := (HB36.out.block bx hb2).trans HBOX.out
    have c0 : w6.cell? ⟨bx, 0, none⟩ = some (.int .i64 kk) := by unfold World.cell?; simp only [hbx6]; rfl
    have c1 : w6.cell? ⟨bx, 1, none⟩ = some (.slice (some ⟨lo, 0, none⟩) n (n + 3)) := by unfold World.cell?; simp only [hbx6]; rfl
    have hl36 : bx < w6.heap.size := by omega
    clear g0 g1 g2 g3 g4 hbx6
    go_wp2_with fail
    refine (HPK.out w6 HB36.out).mono ?_
    rintro e7 w7 ⟨g, rfl, HG, hb7⟩
    have hs7 := hb7.size
    obtain ⟨W7, hW7⟩ : ∃ W7, w7.alloc (Obj.cells #[.int .i64 g.k, .int .u64 g.n, .string g.s, .slice g.a g.l.length g.c, .int .i64 g.e] 42) = W7 := ⟨_, rfl⟩
    have hsW7 : W7.heap.size = w7.heap.size + 1 := by rw [← hW7]; simp
    have hb77 : Below w7.heap.size w7 W7 := by rw [← hW7]; exact bel1 (Below.refl _ _) (Nat.le_refl _) _
    have HCG : Hid (C5 W7 w7.heap.size g) := by rw [← hW7]; exact c5_new w7 g
    have hb67 : Below w6.heap.size w6 W7 := hb7.trans (hb77.mono hs7)
    have hb57 : Below W5.heap.size W5 W7 := hb6.trans (hb67.mono hs6)
    have HB37 : Hid (Below w3.heap.size w3 W7) := HB36.out.trans (hb67.mono HB36.out.size)
    have HBW7 : Hid (Below w.heap.size w W7) := HBW5.out.trans (hb57.mono HBW5.out.size)
    have HTG : Hid (g.t = PT) := HG.out.1
    have HGL : Hid (∀ X : World, (∀ b, w3.heap.size ≤ b → b < W7.heap.size → X.heap[b]? = W7.heap[b]?) → LiesIn (fun b => w6.heap.size + 2 ≤ b ∧ b < w7.heap.size) X g ∧ Owns X (w6.heap.size + 2) w7.heap.size g.slots ∧ C5 X w7.heap.size g) := fun X hX => by
      refine ⟨LiesIn.keep HG.out.2.1 (fun b hb o => World.cell?_of_block ((hX b (by omega) (by omega)).trans (hb77.block b hb.2))) (fun _ h => h), HG.out.2.2.keep (fun b q1 q2 => (hX b (by omega) (by omega)).trans (hb77.block b q2)) (Nat.le_refl _) (Nat.le_refl _), HCG.out.keep (hX _ (by omega) (by omega))⟩
    have HK57 : Hid (∀ X : World, (∀ b, w3.heap.size ≤ b → b < W7.heap.size → X.heap[b]? = W7.heap[b]?) → ∀ b, w3.heap.size ≤ b → b < W5.heap.size → X.heap[b]? = W5.heap[b]?) := fun X hX b q1 q2 => (hX b q1 (by omega)).trans (hb57.block b q2)
    have has := (HLL.out.keep (fun b _ h => HB37.out.block b (by omega))).as (by omega) (HXK.out W7 HBW7.out) (by omega)
    rw [HN.out] at has
    have HAS := hide has
    have hb37' : Below w3.heap.size w3 w7 := HB36.out.trans (hb7.mono HB36.out.size)
    have hbx7 := (hb37'.block bx hb2).trans HBOX.out
    have d0 : w7.cell? ⟨bx, 0, none⟩ = some (.int .i64 kk) := by unfold World.cell?; simp only [hbx7]; rfl
    have d1 : w7.cell? ⟨bx, 1, none⟩ = some (.slice (some ⟨lo, 0, none⟩) n (n + 3)) := by unfold World.cell?; simp only [hbx7]; rfl
    obtain ⟨x0, x1⟩ := (HXR2.out.below (HB3.out.trans (hb37'.mono HB3.out.size)) (by omega)).cells
    have hl37 : bx < w7.heap.size := by omega
    have hlx7 : w.heap.size < w7.heap.size := by omega
    have HW7 := hide hW7
    clear hW7 has c0 c1 hbx7 HG
    go_wp2_with fail
    rw [HW7.out]
    refine HAS.out.mono ?_
    rintro e8 w8 ⟨rfl, ht8⟩
    have hs8 := ht8.size
    have HBW8 : Hid (Below w.heap.size w w8) := HBW7.out.trans (ht8.below (by omega) (by omega))
    have HK8 : Hid (∀ b, w3.heap.size ≤ b → b < W7.heap.size → w8.heap[b]? = W7.heap[b]?) := fun b q1 q2 => ht8.block b q2 (by omega)
    clear d0 d1 x0 x1 ht8
    have hq8 := HSAME.out w8 HBW8.out (by omega) r HTR.out (LiesIn.keep (HRL.out w8 (HK57.out w8 HK8.out)).1 (fun _ _ _ => rfl) (fun b hb => by show b < w8.heap.size; omega)) (HK57.out w8 HK8.out)
    have HQ8 := hide hq8
    obtain ⟨g0, g1, g2, g3, g4⟩ := (HRL.out w8 (HK57.out w8 HK8.out)).2.2
    obtain ⟨k0, k1, k2, k3, k4⟩ := (HSL.out w8 (HK57.out w8 HK8.out) HBW8.out).2
    have hl48 : w4.heap.size < w8.heap.size := by omega
    have hl58 : w5.heap.size < w8.heap.size := by omega
    clear hq8
    go_wp2_with fail
    refine HQ8.out.mono ?_
    rintro e9 w9 ⟨rfl, hb9⟩
    have hs9 := hb9.size
    have HBW9 : Hid (Below w.heap.size w w9) := HBW8.out.trans (hb9.mono HBW8.out.size)
    have HK9 : Hid (∀ b, w3.heap.size ≤ b → b < W7.heap.size → w9.heap[b]? = W7.heap[b]?) := fun b q1 q2 => (hb9.block b (by omega)).trans (HK8.out b q1 q2)
    have hq9 := HSAME.out w9 HBW9.out (by omega) g HTG.out (LiesIn.keep (HGL.out w9 HK9.out).1 (fun _ _ _ => rfl) (fun b hb => by show b < w9.heap.size; omega)) (HK57.out w9 HK9.out)
    have HQ9 := hide hq9
    clear g0 g1 g2 g3 g4 k0 k1 k2 k3 k4 hq9
    obtain ⟨g0, g1, g2, g3, g4⟩ := (HGL.out w9 HK9.out).2.2
    obtain ⟨k0, k1, k2, k3, k4⟩ := (HSL.out w9 (HK57.out w9 HK9.out) HBW9.out).2
    have hl79 : w7.heap.size < w9.heap.size := by omega
    have hl59 : w5.heap.size < w9.heap.size := by omega
    go_wp2_with fail
    refine HQ9.out.mono ?_
    rintro e10 w10 ⟨rfl, hb10⟩
    have hs10 := hb10.size
    have HBW10 : Hid (Below w.heap.size w w10) := HBW9.out.trans (hb10.mono HBW9.out.size)
    have HK10 : Hid (∀ b, w3.heap.size ≤ b → b < W7.heap.size → w10.heap[b]? = W7.heap[b]?) := fun b q1 q2 => (hb10.block b (by omega)).trans (HK9.out b q1 q2)
    clear g0 g1 g2 g3 g4 k0 k1 k2 k3 k4
    obtain ⟨WB, hWB⟩ : ∃ WB, w10.alloc (Obj.cells #[.slice none 0 0] 49) = WB := ⟨_, rfl⟩
    have hsB : WB.heap.size = w10.heap.size + 1 := by rw [← hWB]; simp
    have hbB : Below w10.heap.size w10 WB := by rw [← hWB]; exact bel1 (Below.refl _ _) (Nat.le_refl _) _
    have HK0 : Hid (Bk w10.heap.size none [] WB WB) := by
      rw [← hWB]
      exact Bk.start w10
    have HBWB : Hid (Below w.heap.size w WB) := HBW10.out.trans (hbB.mono HBW10.out.size)
    have HKB : Hid (∀ b, w3.heap.size ≤ b → b < W7.heap.size → WB.heap[b]? = W7.heap[b]?) := fun b q1 q2 => (hbB.block b (by omega)).trans (HK10.out b q1 q2)
    have HWB := hide hWB
    have hlr : r.slots.length ≤ 172200043 := by have := V.slots_len r; rw [HTR.out] at this; have := HWP.out; omega
    have hlg : g.slots.length ≤ 172200043 := by have := V.slots_len g; rw [HTG.out] at this; have := HWP.out; omega
    have HLR := hide (And.intro hlr hlg)
    have hq := take_next HK0.out r (fun b => w3.heap.size + 2 ≤ b ∧ b < w4.heap.size) (HRL.out WB (HK57.out WB HKB.out)).1 (fun b hb => ⟨by omega, by omega⟩) (by rw [HTR.out]; have := HWP.out; simp only [List.length_nil]; omega)
    rw [V.val_eq] at hq
    have HQB := hide hq
    obtain ⟨g0, g1, g2, g3, g4⟩ := (HRL.out w10 (HK57.out w10 HK10.out)).2.2
    have hl4B : w4.heap.size < w10.heap.size := by omega
    clear hWB hq hlr hlg
    go_wp2_with fail
    rw [HWB.out]
    refine HQB.out.mono ?_
    rintro e11 w11 ⟨rfl, HB11⟩
    have hs11 := HB11.out.size
    have HK11 : Hid (∀ b, w3.heap.size ≤ b → b < W7.heap.size → w11.heap[b]? = W7.heap[b]?) := fun b q1 q2 => (HB11.out.same (by omega) (by omega)).trans (HKB.out b q1 q2)
    have hq2 := take_next HB11.out g (fun b => w6.heap.size + 2 ≤ b ∧ b < w7.heap.size) (HGL.out w11 HK11.out).1 (fun b hb => ⟨by omega, by omega⟩) (by rw [HTG.out]; have := HWP.out; have := HLR.out; simp only [List.nil_append]; omega)
    rw [V.val_eq] at hq2
    have HQ2 := hide hq2
    clear g0 g1 g2 g3 g4 hq2
    obtain ⟨g0, g1, g2, g3, g4⟩ := (HGL.out w11 HK11.out).2.2
    have hl711 : w7.heap.size < w11.heap.size := by omega
    go_wp2_with fail
    refine HQ2.out.mono ?_
    rintro e12 w12 ⟨rfl, HB12⟩
    have hs12 := HB12.out.size
    have HK12 : Hid (∀ b, w3.heap.size ≤ b → b < W7.heap.size → w12.heap[b]? = W7.heap[b]?) := fun b q1 q2 => (HB12.out.same (by omega) (by omega)).trans (HKB.out b q1 q2)
    have hO : Owns w12 (w3.heap.size + 2) w7.heap.size ([] ++ r.slots ++ g.slots) := by
      have oa := (HRL.out w12 (HK57.out w12 HK12.out)).2.1
      have ob := (HGL.out w12 HK12.out).2.1
      rw [List.nil_append]
      exact oa.append ob (.inl (by omega)) (by omega) (by omega) (by omega) (by omega)
    have how := owned_at HB12.out hO.toX (by have := slots_pos r; simp only [List.length_append, List.length_nil]; omega) (by have := HLR.out; simp only [List.length_append, List.length_nil]; omega) (fun s' hs' a' m' c' e' => by
      have hw := HWP.out
      rw [List.nil_append] at hs'
      rcases List.mem_append.1 hs' with h | h
      · have := slots_small r s' h a' m' c' e'
        rw [HTR.out] at this
        omega
      · have := slots_small g s' h a' m' c' e'
        rw [HTG.out] at this
        omega)
    have HOW := hide how
    have HOB := hide (fun q hq => hO.blocks q hq)
    clear g0 g1 g2 g3 g4 how hO
    go_wp2_with fail
    refine HOW.out.mono ?_
    rintro e13 w13 ⟨rfl, HT⟩
    have HE := hide ((HBWB.out.trans (HB12.out.below (B := w.heap.size) (by omega) (by omega))).trans (HT.out.keep (B := w.heap.size) (by omega) (fun q hq => by have := HOB.out q hq; omega)))
    go_wp2
    go_ret
    exact ⟨rfl, HE.out⟩
end Go.Proofs.YtgldcchleoklcaaGreatDoor
