import Derived.Test.YtfoegajgnbdoiabGreatDoorHShNZ

/- ShapeShort: the walk. -/
namespace Go.Proofs.YtfoegajgnbdoiabGreatDoor
open Go.RowKit
set_option linter.unusedVariables false
set_option linter.unusedSimpArgs false
theorem laid_of {y : V} {kind : Int} {l : List V} {rn : Int} (hy : y.t = (packR kind l).1) (hz : (packR kind l).2 = 0) : ∃ fs a2 c2 d a3 c3 ol, ftab kind = some fs ∧ y = V.of 24 0 ⟨#[]⟩ a2 c2 0 [d, V.of 21 0 ⟨#[]⟩ a3 c3 0 ol] ∧ d.t = leaf 5 kind ⟨#[]⟩ ∧
    ol.length ≤ fs.length ∧ (∀ (h0 : 0 < ol.length), (ol[ol.length - 1]'(by omega)).k ≠ 0) ∧ ∀ i (h1 : i < ol.length) (h2 : i < fs.length), eqT ol[i].t fs[i].d.t = true → ol[i].k = 0 := by
  obtain ⟨fs, ts, hf, hl, hts, he, _, hall⟩ := packR_ok hz
  rw [he] at hy
  obtain ⟨a2, c2, d, a3, c3, ol, e1, e2, e3⟩ := form_laid hy
  have hds : dsOf kind = fs.map FS.d := by unfold dsOf; rw [hf]; rfl
  rw [hds] at e3
  have hn : ∀ i (h1 : i < ts.length) (h2 : i < (fs.map FS.d).length), ts[i].k = 0 → ts[i] = (fs.map FS.d)[i] := fun i h1 h2 hk => by
    have h2' : i < fs.length := by omega
    have h3 := (hall i h1 h2' (by omega)).1
    have h4 := fillT_null (s := fs[i]) (x := (l[i]'(by omega)).t) (by rw [h3]) (by rw [h3]; exact hk)
    rw [h3] at h4
    rw [List.getElem_map]
    exact h4
  have ht : ∀ t ∈ ts, t.t = t := fun t ht => by
    obtain ⟨i, hi, rfl⟩ := List.mem_iff_getElem.1 ht
    exact fill_tree (hall i hi (by omega) (by omega)).1
  have hdd : ∀ d ∈ fs.map FS.d, d.t = d := fun d hd => by
    obtain ⟨f, _, rfl⟩ := List.mem_map.1 hd
    exact fs_d_t f
  obtain ⟨q1, q2, q3⟩ := laid_short (by rw [List.length_map, hts]) hn ht hdd e3
  exact ⟨fs, a2, c2, d, a3, c3, ol, hf, e1, e2, by omega, q2, fun i h1 h2 h3 => q3 i h1 (by rw [List.length_map]; exact h2) (by rw [List.getElem_map]; exact h3)⟩
set_option maxRecDepth 100000 in
set_option maxHeartbeats 30000000 in
theorem short_walk (kk : Int) (x : V) (w : World) (wk : -9223372036854775808 ≤ kk ∧ kk ≤ 9223372036854775807) (hx : Lies w.heap.size w x) (hT : Lib.Utf8Tabs 0 1 w) :
    Calls Tryz.prog 5 #[.agg #[.int .i64 kk, .slice x.a x.l.length x.c]] w fun e w' => e = .returned (.bool true) ∧ Below w.heap.size w w' := by
  have hxb := lies_bare hx
  obtain ⟨W0, hW0⟩ : ∃ W0, w.alloc (Obj.cells #[.int .i64 kk, .slice x.a x.l.length x.c] 27) = W0 := ⟨_, rfl⟩
  have hs0 : W0.heap.size = w.heap.size + 1 := by rw [← hW0]; simp
  have hb0 : Below w.heap.size w W0 := by rw [← hW0]; exact bel1 (Below.refl _ _) (Nat.le_refl _) _
  have xr : BoxR W0 w.heap.size kk x.a x.l.length x.c := by rw [← hW0]; exact World.alloc_heap_new _ _
  have HTB : Hid (∀ W', Below w.heap.size w W' → Lib.Utf8Tabs 0 1 W') := fun W' h => tabs_below hT h
  have HGR : Hid (∀ W', Below w.heap.size w W' → Calls Tryz.prog 7 #[.slice x.a x.l.length x.c] W' fun e w' => (e = .returned (.bool true) ∧ Below W'.heap.size W' w') ∨ (e = .returned (.bool false) ∧ T.wts (V.ts x.l) ≤ 100000 ∧ Below W'.heap.size W' w')) := fun W' h => by
    have hk := hxb.keep h (Nat.le_refl _)
    exact greatallA_any x.a x.c w.heap.size x.l W' h.size hk.row hk.sub hk.ok.l hk.ok.c
  have HPK : Hid (∀ W', Below w.heap.size w W' → Calls Tryz.prog 11 #[.agg #[.int .i64 kk, .slice x.a x.l.length x.c]] W' (fun e w' => ∃ y : V, e = VN y (packR kk x.l).2 ∧ Hid (y.t = (packR kk x.l).1 ∧ LiesIn (fun b => W'.heap.size + 2 ≤ b ∧ b < w'.heap.size) w' y) ∧ Below W'.heap.size W' w')) := fun W' h => pack_any kk x.a x.l x.c w.heap.size W' h.size (hxb.keep h (Nat.le_refl _)) (HTB.out W' h)
  have HLD : Hid (∀ y : V, y.t = (packR kk x.l).1 → (packR kk x.l).2 = 0 → ∃ fs a2 c2 d a3 c3 ol, ftab kk = some fs ∧ y = V.of 24 0 ⟨#[]⟩ a2 c2 0 [d, V.of 21 0 ⟨#[]⟩ a3 c3 0 ol] ∧ d.t = leaf 5 kk ⟨#[]⟩ ∧
    ol.length ≤ fs.length ∧ (∀ (h0 : 0 < ol.length), (ol[ol.length - 1]'(by omega)).k ≠ 0) ∧ ∀ i (h1 : i < ol.length) (h2 : i < fs.length), eqT ol[i].t fs[i].d.t = true → ol[i].k = 0) := fun y h1 h2 => laid_of (rn := 0) h1 h2
  obtain ⟨r0, r1⟩ := xr.cells
  have hw00 : w.heap.size < W0.heap.size := by omega
  have HW0 := hide hW0
  clear hW0 hx hT hxb
  generalize packR kk x.l = pr at HPK HLD
  obtain ⟨pt, pn⟩ := pr
  dsimp only at HPK HLD
  go_enter Tryz.func5, Tryz.ntmps5
  go_wp2_with fail
  rw [HW0.out]
  go_wp2_with fail
  refine (HGR.out _ hb0).mono ?_
  rintro e1 w1 hgr
  have hb1 : Below W0.heap.size W0 w1 := by rcases hgr with ⟨_, h⟩ | ⟨_, _, h⟩ <;> exact h
  have hs1 := hb1.size
  have hbw1 : Below w.heap.size w w1 := belOn hb0 (by omega) hb1
  rcases hgr with ⟨rfl, _⟩ | ⟨rfl, _, _⟩
  · go_wp2_with fail
    refine (live_any w1 (HTB.out _ hbw1)).mono ?_
    rintro e2 w2 ⟨rfl, hb2⟩
    have hbw2 : Below w.heap.size w w2 := belOn hbw1 hbw1.size hb2
    go_wp2
    go_ret
    exact ⟨rfl, hbw2⟩
  go_wp2_with fail
  refine (live_any w1 (HTB.out _ hbw1)).mono ?_
  rintro e2 w2 ⟨rfl, hb2⟩
  have hb02 : Below W0.heap.size W0 w2 := belOn hb1 hs1 hb2
  have hs2 := hb02.size
  have hbw2 : Below w.heap.size w w2 := belOn hb0 (by omega) hb02
  clear r0 r1
  obtain ⟨r0, r1⟩ := (xr.below hb02 (by omega)).cells
  have hw2 : w.heap.size < w2.heap.size := by omega
  go_wp2_with fail
  refine (HPK.out _ hbw2).mono ?_
  rintro e3 w3 ⟨y, rfl, HY, hb3⟩
  have hs3 := hb3.size
  have hb03 : Below W0.heap.size W0 w3 := belOn hb02 hs2 hb3
  have hbw3 : Below w.heap.size w w3 := belOn hb0 (by omega) hb03
  unfold VN
  by_cases hpn : pn = 0
  rotate_left
  · have hpb : (pn == 0) = false := by simpa using hpn
    have hpx : (pn != 0) = true := by simpa using hpn
    go_wp2
    go_ret
    exact ⟨rfl, bel1 hbw3 hbw3.size _⟩
  subst hpn
  obtain ⟨fs0, a2, c2, d, a3, c3, ol, hft, rfl, hdt, hol, hlast, hdef⟩ := HLD.out y HY.out.1 rfl
  have hyl := HY.out.2
  obtain ⟨b2, o2, rfl, hb2q, hrow2⟩ := hyl.row (by simp)
  have hml := hyl.sub (V.of 21 0 ⟨#[]⟩ a3 c3 0 ol) (by simp)
  have hdl := hyl.sub d (by simp)
  have HOR : Hid (0 < ol.length → ∃ b3 o3, a3 = some ⟨b3, o3, none⟩ ∧ (w2.heap.size + 2 ≤ b3 ∧ b3 < w3.heap.size) ∧ Row w3 b3 o3 ol) := fun h0 => hml.row h0
  have HOS := hide (fun z hz => hml.sub z hz)
  have HDL := hide hdl
  have hb2lt : b2 < w3.heap.size := hb2q.2
  obtain ⟨M, hM⟩ : ∃ M, ol.length = M := ⟨_, rfl⟩
  have HM0 := hide hM
  have hr0 := hrow2 0 (by simp)
  have hr1 := hrow2 1 (by simp)
  have m0 : w3.cell? ⟨b2, o2, none⟩ = some (.int .i64 d.k) := hr0.1
  have m1 : w3.cell? ⟨b2, o2 + 1, none⟩ = some (.int .u64 d.n) := hr0.2.1
  have m2 : w3.cell? ⟨b2, o2 + 2, none⟩ = some (.string d.s) := hr0.2.2.1
  have m3 : w3.cell? ⟨b2, o2 + 3, none⟩ = some (.slice d.a d.l.length d.c) := hr0.2.2.2.1
  have m4 : w3.cell? ⟨b2, o2 + 4, none⟩ = some (.int .i64 d.e) := hr0.2.2.2.2
  have m5 : w3.cell? ⟨b2, o2 + 5, none⟩ = some (.int .i64 21) := hr1.1
  have m8 : w3.cell? ⟨b2, o2 + 5 + 3, none⟩ = some (.slice a3 M c3) := by
    have := hr1.2.2.2.1
    have e : ([d, V.of 21 0 ⟨#[]⟩ a3 c3 0 ol] : List V)[1] = V.of 21 0 ⟨#[]⟩ a3 c3 0 ol := rfl
    rw [e, V.l_of, hM] at this
    exact this
  obtain ⟨W3, hW3⟩ : ∃ W3, w3.alloc (Obj.cells #[.int .i64 24, .int .u64 0, .string ⟨#[]⟩, .slice (some ⟨b2, o2, none⟩) 2 c2, .int .i64 0] 25) = W3 := ⟨_, rfl⟩
  have hsW3 : W3.heap.size = w3.heap.size + 1 := by rw [← hW3]; simp
  have hb33 : Below w3.heap.size w3 W3 := by rw [← hW3]; exact bel1 (Below.refl _ _) (Nat.le_refl _) _
  have hx3 : W3.heap[w3.heap.size]? = some (.cells #[.int .i64 24, .int .u64 0, .string ⟨#[]⟩, .slice (some ⟨b2, o2, none⟩) 2 c2, .int .i64 0] 25 (0, 0)) := by rw [← hW3]; exact World.alloc_heap_new _ _
  have hb0W : Below W0.heap.size W0 W3 := belOn hb03 (by omega) hb33
  have HM : Hid (∀ W', Below W3.heap.size W3 W' → (W'.cell? ⟨w3.heap.size, 0, none⟩ = some (.int .i64 24) ∧ W'.cell? ⟨w3.heap.size, 3, none⟩ = some (.slice (some ⟨b2, o2, none⟩) 2 c2) ∧ W'.cell? ⟨b2, o2, none⟩ = some (.int .i64 d.k) ∧ W'.cell? ⟨b2, o2 + 1, none⟩ = some (.int .u64 d.n) ∧ W'.cell? ⟨b2, o2 + 2, none⟩ = some (.string d.s) ∧ W'.cell? ⟨b2, o2 + 3, none⟩ = some (.slice d.a d.l.length d.c) ∧ W'.cell? ⟨b2, o2 + 4, none⟩ = some (.int .i64 d.e) ∧ W'.cell? ⟨b2, o2 + 5, none⟩ = some (.int .i64 21) ∧ W'.cell? ⟨b2, o2 + 5 + 3, none⟩ = some (.slice a3 M c3) ∧ W'.cell? ⟨w.heap.size, 0, none⟩ = some (.int .i64 kk)) ∧ W3.heap.size ≤ W'.heap.size) := by
    intro W' hW'
    have hxx := (hW'.block w3.heap.size (by omega)).trans hx3
    have g0 : W'.cell? ⟨w3.heap.size, 0, none⟩ = some (.int .i64 24) := by unfold World.cell?; simp only [hxx]; rfl
    have g3 : W'.cell? ⟨w3.heap.size, 3, none⟩ = some (.slice (some ⟨b2, o2, none⟩) 2 c2) := by unfold World.cell?; simp only [hxx]; rfl
    have hbb := belOn hb33 (by omega) hW'
    have e : ∀ o', W'.cell? ⟨b2, o', none⟩ = w3.cell? ⟨b2, o', none⟩ := fun o' => hbb.cell (p := ⟨b2, o', none⟩) hb2lt
    exact ⟨⟨g0, g3, (e _).trans m0, (e _).trans m1, (e _).trans m2, (e _).trans m3, (e _).trans m4, (e _).trans m5, (e _).trans m8, (xr.below (belOn hb0W (by omega) hW') (by omega)).cells.1⟩, hW'.size⟩
  have HEQ : Hid (∀ W', Below W3.heap.size W3 W' → Calls Tryz.prog 13 #[.agg #[.int .i64 d.k, .int .u64 d.n, .string d.s, .slice d.a d.l.length d.c, .int .i64 d.e], .agg #[.int .i64 5, .int .u64 (IntKind.u64.wrap kk), .string ⟨#[]⟩, .slice none 0 0, .int .i64 0]] W' fun e w' => e = .returned (.bool true) ∧ Below W'.heap.size W' w') := by
    intro W' hW'
    have hbb := belOn hb33 (by omega) hW'
    have hpos := ftab_pos hft
    have h := requal_any d (leaf 5 kk ⟨#[]⟩) w3.heap.size W' (by have := hbb.size; omega) (LiesIn.keep HDL.out (fun b' hq o' => hbb.cell (p := ⟨b', o', none⟩) hq.2) (fun b' hq => hq.2)) (leaf_lies _ _ _ _ _ (by decide) ⟨by omega, by omega⟩ (by decide))
    rw [V.val_eq, leaf_val, hdt, leaf_t, eqT_refl] at h
    have hwr : IntKind.u64.wrap kk = kk := by
      unfold IntKind.wrap
      simp [IntKind.signed, IntKind.bits]
      omega
    rw [hwr]
    exact h
  have hpos := ftab_pos hft
  obtain ⟨N, hN⟩ : ∃ N, fs0.length = N := ⟨_, rfl⟩
  have HF := hide (fun W => fields_some hft hN W)
  have HN := hide hN
  have HLAST := hide hlast
  have HDEF := hide hdef
  have HFOK := hide (ftab_ok hft).2
  have holN : M ≤ N := by omega
  have HW3 := hide hW3
  have hfl20 := (ftab_ok hft).1
  clear hM hol hW3 hyl hrow2 hml hdl hr0 hr1 m0 m1 m2 m3 m4 m5 m8 hlast hdef hN hft HY r0 r1
  rw [V.k_of, V.n_of, V.s_of, V.a_of, V.l_of, V.c_of, V.e_of]
  simp only [List.length_cons, List.length_nil, Nat.reduceAdd]
  obtain ⟨r0, r1⟩ := (xr.below hb03 (by omega)).cells
  have hwl3 : w.heap.size < w3.heap.size := by omega
  go_wp2_with fail
  rw [HW3.out]
  clear HW3 r0 r1
  refine (HF.out _).mono ?_
  rintro e4 w4 ⟨af, fs, rfl, HFS, hb4⟩
  obtain ⟨⟨g0, g1, g2, g3, g4, g5, g6, g7, g8, g9⟩, hs4⟩ := HM.out w4 hb4
  have hz1 : w3.heap.size < w4.heap.size := by omega
  have hz2 : b2 < w4.heap.size := by omega
  have hz3 : w.heap.size < w4.heap.size := by omega
  have hle : ¬ ((N : Int) < (M : Int)) := by omega
  have hmx : Tryz.prog.follows .mixedOrders = true := by kernel_rfl
  have HB4 : Hid (Below W3.heap.size W3 w4.drew) := hb4.drew
  have HB44 := hide hb4
  have hk0 : 0 ≤ kk := by omega
  have hk1 : kk ≤ 9223372036854775807 := by omega
  have HS : Hid (∀ W', Below W3.heap.size W3 W' → (fun W' => W'.cell? ⟨w3.heap.size, 3, none⟩ = some (.slice (some ⟨b2, o2, none⟩) 2 c2) ∧ W'.cell? ⟨b2, o2, none⟩ = some (.int .i64 d.k) ∧ W'.cell? ⟨b2, o2 + 1, none⟩ = some (.int .u64 d.n) ∧ W'.cell? ⟨b2, o2 + 2, none⟩ = some (.string d.s) ∧ W'.cell? ⟨b2, o2 + 3, none⟩ = some (.slice d.a d.l.length d.c) ∧ W'.cell? ⟨b2, o2 + 4, none⟩ = some (.int .i64 d.e) ∧ W'.cell? ⟨w.heap.size, 0, none⟩ = some (.int .i64 kk)) W') := by
    intro W' hW'
    obtain ⟨⟨q0, q1, q2, q3, q4, q5, q6, q7, q8, q9⟩, _⟩ := HM.out W' hW'
    exact ⟨q1, q2, q3, q4, q5, q6, q9⟩
  have HFR : Hid (∀ W', Below w4.heap.size w4 W' → 0 < M → ∃ bf, af = some ⟨bf, 0, none⟩ ∧ bf < W'.heap.size ∧ FRow W' bf fs) := fun W' hW' h0 => by
    obtain ⟨bf, e, _, h2, h3⟩ := HFS.out.2.1 (by rw [HFS.out.1, HN.out]; omega)
    exact ⟨bf, e, by have := hW'.size; omega, h3.below hW' h2⟩
  have HFD : Hid (∀ i (h : i < fs.length) (h' : i < fs0.length), fs[i].d = fs0[i].d) := fun i h h' => (HFS.out.2.2 i h h').2.2.2.1
  have hflN : fs.length = N := HFS.out.1.trans HN.out
  have HFLN := hide hflN
  clear hflN hb4
  go_wp2_with fail
  refine wp_region_held_drew (S := (fun W' => W'.cell? ⟨w3.heap.size, 3, none⟩ = some (.slice (some ⟨b2, o2, none⟩) 2 c2) ∧ W'.cell? ⟨b2, o2, none⟩ = some (.int .i64 d.k) ∧ W'.cell? ⟨b2, o2 + 1, none⟩ = some (.int .u64 d.n) ∧ W'.cell? ⟨b2, o2 + 2, none⟩ = some (.string d.s) ∧ W'.cell? ⟨b2, o2 + 3, none⟩ = some (.slice d.a d.l.length d.c) ∧ W'.cell? ⟨b2, o2 + 4, none⟩ = some (.int .i64 d.e) ∧ W'.cell? ⟨w.heap.size, 0, none⟩ = some (.int .i64 kk))) (by kernel_rfl) (HS.out _ HB4.out) (fun hHeld => ?_)
  refine take_do (i := 0) (d := 68) (v := ?_) rfl rfl (by kernel_rfl) (by kernel_rfl) (by kernel_rfl) (fun _ _ _ h => h) rfl ?_ (by assumption) ?_
  rotate_left
  · intro w hSw
    try dsimp only at hSw
    go_simp
    try with_reducible rfl
  try simp only [List.setIfInBounds_toArray, List.set_cons_zero, List.set_cons_succ]
  refine take_do (i := 1) (d := 69) (v := ?_) rfl rfl (by kernel_rfl) (by kernel_rfl) (by kernel_rfl) (fun _ _ _ h => h) rfl ?_ (by assumption) ?_
  rotate_left
  · intro w hSw
    try dsimp only at hSw
    go_simp
    try with_reducible rfl
  try simp only [List.setIfInBounds_toArray, List.set_cons_zero, List.set_cons_succ]
  refine take_do (i := 2) (d := 70) (v := ?_) rfl rfl (by kernel_rfl) (by kernel_rfl) (by kernel_rfl) (fun _ _ _ h => h) rfl ?_ (by assumption) ?_
  rotate_left
  · intro w hSw
    try dsimp only at hSw
    go_simp
    try with_reducible rfl
  try simp only [List.setIfInBounds_toArray, List.set_cons_zero, List.set_cons_succ]
  refine take_do (i := 3) (d := 71) (v := ?_) rfl rfl (by kernel_rfl) (by kernel_rfl) (by kernel_rfl) (fun _ _ _ h => h) rfl ?_ (by assumption) ?_
  rotate_left
  · intro w hSw
    try dsimp only at hSw
    go_simp
    try with_reducible rfl
  try simp only [List.setIfInBounds_toArray, List.set_cons_zero, List.set_cons_succ]
  refine take_do (i := 4) (d := 72) (v := ?_) rfl rfl (by kernel_rfl) (by kernel_rfl) (by kernel_rfl) (fun _ _ _ h => h) rfl ?_ (by assumption) ?_
  rotate_left
  · intro w hSw
    try dsimp only at hSw
    go_simp
    try with_reducible rfl
  try simp only [List.setIfInBounds_toArray, List.set_cons_zero, List.set_cons_succ]
  refine take_do (i := 5) (d := 73) (v := ?_) rfl rfl (by kernel_rfl) (by kernel_rfl) (by kernel_rfl) (fun _ _ _ h => h) rfl ?_ (by assumption) ?_
  rotate_left
  · intro w hSw
    try dsimp only at hSw
    go_simp
    try with_reducible rfl
  try simp only [List.setIfInBounds_toArray, List.set_cons_zero, List.set_cons_succ]
  refine take_do (i := 6) (d := 74) (v := ?_) rfl rfl (by kernel_rfl) (by kernel_rfl) (by kernel_rfl) (fun _ _ _ h => h) rfl ?_ (by assumption) ?_
  rotate_left
  · intro w hSw
    try dsimp only at hSw
    go_simp
    try with_reducible rfl
  try simp only [List.setIfInBounds_toArray, List.set_cons_zero, List.set_cons_succ]
  refine take_do (i := 7) (d := 75) (v := ?_) rfl rfl (by kernel_rfl) (by kernel_rfl) (by kernel_rfl) (fun _ _ _ h => h) rfl ?_ (by assumption) ?_
  rotate_left
  · intro w hSw
    try dsimp only at hSw
    go_simp
    try with_reducible rfl
  try simp only [List.setIfInBounds_toArray, List.set_cons_zero, List.set_cons_succ]
  refine wpAnyH_ready (rs := [8]) (by kernel_rfl) (by simp) ?_
  refine AllReadyH.cons rfl (fun K hK => ?_) AllReadyH.nil
  go_simp
  go_wp2_with (go_at_call 13; refine Calls.mono (HEQ.out _ HB4.out) ?_; rintro e5 w5 ⟨rfl, hb5⟩; have HB5 : Hid (Below W3.heap.size W3 w5) := belOn HB4.out HB4.out.size hb5; have HB45 : Hid (Below w4.heap.size w4 w5) := (Below.refl _ _).drew.trans (hb5.mono (Nat.le_refl _)); clear hb5)
  refine hK.out _ _ (HS.out _ HB5.out) (fun hHeld => ?_)
  clear hK K
  refine take_do (i := 9) (d := 9) (v := ?_) rfl rfl (by kernel_rfl) (by kernel_rfl) (by kernel_rfl) (fun _ _ _ h => h) rfl ?_ (by assumption) ?_
  rotate_left
  · intro w hSw
    try dsimp only at hSw
    go_simp
    try with_reducible rfl
  try simp only [List.setIfInBounds_toArray, List.set_cons_zero, List.set_cons_succ]
  refine wpAnyH_done (by kernel_rfl) ?_ _
  all_goals
    clear g0 g1 g2 g3 g4 g5 g6 g7 g8 g9
    obtain ⟨⟨g0, g1, g2, g3, g4, g5, g6, g7, g8, g9⟩, hs5⟩ := HM.out w5 HB5.out
    have hy1 : w3.heap.size < w5.heap.size := by omega
    have hy2 : b2 < w5.heap.size := by omega
    have hcut : ∀ K : Prop, (M = 0 → K) → (∀ M', M = M' + 1 → K) → K := fun K h1 h2 => by
      cases M with
      | zero => exact h1 rfl
      | succ M' => exact h2 M' rfl
    have HL5 : Hid (∀ M', M = M' + 1 → ∃ b3 o3 kz, a3 = some ⟨b3, o3, none⟩ ∧ b3 < w5.heap.size ∧ w5.cell? ⟨b3, o3 + M' * 5, none⟩ = some (.int .i64 kz) ∧ kz ≠ 0) := fun M' e => by
      have hol := HM0.out
      obtain ⟨b3, o3, e3, hb3q, hrow3⟩ := HOR.out (by omega)
      have h1 := (hrow3 M' (by omega)).1
      have h2 := HLAST.out (by omega)
      refine ⟨b3, o3, ol[M']'(by omega) |>.k, e3, by omega, ?_, ?_⟩
      · rw [← h1]
        exact (belOn hb33 (by omega) HB5.out).cell (p := ⟨b3, _, none⟩) hb3q.2
      · have e4 : ol.length - 1 = M' := by omega
        simp only [e4] at h2
        exact h2
    have hloop : True := trivial
    refine hcut _ (fun hM0 => ?_) (fun M' hM1 => ?_)
    · subst hM0
      go_wp2
      go_loopw [11] (fun u wr => u = .int .i64 0 ∧ Below w.heap.size w wr) (fun u _ => 1 - (intOf u).toNat)
      case atStart => exact ⟨rfl, belOn hb0 (by omega) (belOn hb0W (by omega) HB5.out)⟩
      case round =>
        obtain ⟨rfl, hb⟩ := hrel
        go_wp2
        go_ret
        exact ⟨rfl, hb⟩
    · obtain ⟨b3, o3, kz, rfl, hb3l, hkc, hkz⟩ := HL5.out M' hM1
      have hkzb : (kz == 0) = false := by simpa using hkz
      obtain ⟨_, _, e3', hb3q, hrow3⟩ := HOR.out (by have := HM0.out; omega)
      obtain ⟨rfl, rfl⟩ : _ ∧ _ := ⟨congrArg Addr.block (Option.some.inj e3'), congrArg Addr.off (Option.some.inj e3')⟩
      have HROW3 := hide hrow3
      clear hrow3 HL5 hcut e3'
      subst hM1
      have hM20 : M' ≤ 20 := by have := HN.out; omega
      have HKZ := hide hkz
      have HHO := hide holN
      clear hkz holN hle hfl20 wk hpos hk0 hk1 hloop
      go_wp2
      have hbw5 : Below w.heap.size w w5 := belOn hb0 (by omega) (belOn hb0W (by omega) HB5.out)
      have HBW5 := hide hbw5
      clear hkc g0 g1 g2 g3 g4 g5 g6 g7 g8 g9
      go_loopw [11] (fun u wr => ∃ i : Nat, u = .int .i64 i ∧ i ≤ M' + 1 ∧ Below w4.heap.size w4 wr) (fun u _ => M' + 2 - (intOf u).toNat)
      case atStart => exact ⟨0, rfl, by omega, HB45.out⟩
      case round =>
        obtain ⟨i, rfl, hi, hb⟩ := hrel
        have hsb := hb.size
        have hb3r : Below W3.heap.size W3 wr := belOn HB44.out (by omega) hb
        have hb33r : Below w3.heap.size w3 wr := belOn hb33 (by omega) hb3r
        by_cases hil : i < M' + 1
        · have hiN : i < N := by have := HHO.out; omega
          have hio : i < ol.length := by have := HM0.out; omega
          have hif : i < fs.length := by rw [HFLN.out]; omega
          have hif0 : i < fs0.length := by rw [HN.out]; omega
          obtain ⟨bf, rfl, hbfl, hfr⟩ := HFR.out wr hb (by omega)
          obtain ⟨c0, c1, c2', c3', c4, c5, c6, c7, c8⟩ := hfr.cells i hif
          have hdd : fs[i].d = fs0[i].d := HFD.out i hif hif0
          have hdef := HDEF.out i hio hif0
          have hxi := HROW3.out i hio
          have hxl := HOS.out ol[i] (List.getElem_mem hio)
          have hdl := okFS_lies (HFOK.out fs0[i] (List.getElem_mem hif0))
          rw [hdd] at c4 c5 c6 c7 c8
          generalize ol[i] = X at hxi hxl hdef
          generalize fs0[i].d = D at hdef hdl c4 c5 c6 c7 c8
          have HS2 : Hid (∀ W', Below wr.heap.size wr W' → (fun W' => W'.cell? ⟨b3, o3 + i * 5, none⟩ = some (.int .i64 X.k) ∧ W'.cell? ⟨b3, o3 + i * 5 + 1, none⟩ = some (.int .u64 X.n) ∧ W'.cell? ⟨b3, o3 + i * 5 + 2, none⟩ = some (.string X.s) ∧ W'.cell? ⟨b3, o3 + i * 5 + 3, none⟩ = some (.slice X.a X.l.length X.c) ∧ W'.cell? ⟨b3, o3 + i * 5 + 4, none⟩ = some (.int .i64 X.e) ∧ W'.cell? ⟨bf, i * 9 + 4, none⟩ = some (.int .i64 D.k) ∧ W'.cell? ⟨bf, i * 9 + 4 + 1, none⟩ = some (.int .u64 D.n) ∧ W'.cell? ⟨bf, i * 9 + 4 + 2, none⟩ = some (.string D.s) ∧ W'.cell? ⟨bf, i * 9 + 4 + 3, none⟩ = some (.slice D.a D.l.length D.c) ∧ W'.cell? ⟨bf, i * 9 + 4 + 4, none⟩ = some (.int .i64 D.e)) W') := by
            intro W' hW'
            have hbb := belOn hb33r (by omega) hW'
            have e : ∀ o', W'.cell? ⟨b3, o', none⟩ = w3.cell? ⟨b3, o', none⟩ := fun o' => hbb.cell (p := ⟨b3, o', none⟩) hb3q.2
            have e' : ∀ o', W'.cell? ⟨bf, o', none⟩ = wr.cell? ⟨bf, o', none⟩ := fun o' => hW'.cell (p := ⟨bf, o', none⟩) hbfl
            obtain ⟨q0, q1, q2, q3, q4⟩ := hxi
            exact ⟨(e _).trans q0, (e _).trans q1, (e _).trans q2, (e _).trans q3, (e _).trans q4, (e' _).trans c4, (e' _).trans c5, (e' _).trans c6, (e' _).trans c7, (e' _).trans c8⟩
          have HBR : Hid (Below wr.heap.size wr wr.drew) := (Below.refl _ _).drew
          have he := requal_any X D w3.heap.size wr.drew (by show _ ≤ wr.heap.size; omega) (LiesIn.keep hxl (fun b' hq o' => (belOn hb33r (by omega) HBR.out).cell (p := ⟨b', o', none⟩) hq.2) (fun b' hq => hq.2)) (hdl _ _)
          rw [V.val_eq, V.val_eq] at he
          have HE := hide he
          have HDF := hide hdef
          have hb3w : b3 < wr.heap.size := by omega
          clear he hdef hxi hxl hdl c0 c1 c2' c3' c4 c5 c6 c7 c8 hfr hdd
          generalize eqT X.t D.t = r at HE HDF
          go_wp2_with fail
          refine wp_region_held_drew (S := (fun W' => W'.cell? ⟨b3, o3 + i * 5, none⟩ = some (.int .i64 X.k) ∧ W'.cell? ⟨b3, o3 + i * 5 + 1, none⟩ = some (.int .u64 X.n) ∧ W'.cell? ⟨b3, o3 + i * 5 + 2, none⟩ = some (.string X.s) ∧ W'.cell? ⟨b3, o3 + i * 5 + 3, none⟩ = some (.slice X.a X.l.length X.c) ∧ W'.cell? ⟨b3, o3 + i * 5 + 4, none⟩ = some (.int .i64 X.e) ∧ W'.cell? ⟨bf, i * 9 + 4, none⟩ = some (.int .i64 D.k) ∧ W'.cell? ⟨bf, i * 9 + 4 + 1, none⟩ = some (.int .u64 D.n) ∧ W'.cell? ⟨bf, i * 9 + 4 + 2, none⟩ = some (.string D.s) ∧ W'.cell? ⟨bf, i * 9 + 4 + 3, none⟩ = some (.slice D.a D.l.length D.c) ∧ W'.cell? ⟨bf, i * 9 + 4 + 4, none⟩ = some (.int .i64 D.e))) (by kernel_rfl) (HS2.out _ HBR.out) (fun hHeld => ?_)
          refine take_do (i := 0) (d := 101) (v := ?_) rfl rfl (by kernel_rfl) (by kernel_rfl) (by kernel_rfl) (fun _ _ _ h => h) rfl ?_ (by assumption) ?_
          rotate_left
          · intro w hSw
            try dsimp only at hSw
            go_simp
            try with_reducible rfl
          try simp only [List.setIfInBounds_toArray, List.set_cons_zero, List.set_cons_succ]
          refine take_do (i := 1) (d := 102) (v := ?_) rfl rfl (by kernel_rfl) (by kernel_rfl) (by kernel_rfl) (fun _ _ _ h => h) rfl ?_ (by assumption) ?_
          rotate_left
          · intro w hSw
            try dsimp only at hSw
            go_simp
            try with_reducible rfl
          try simp only [List.setIfInBounds_toArray, List.set_cons_zero, List.set_cons_succ]
          refine take_do (i := 2) (d := 103) (v := ?_) rfl rfl (by kernel_rfl) (by kernel_rfl) (by kernel_rfl) (fun _ _ _ h => h) rfl ?_ (by assumption) ?_
          rotate_left
          · intro w hSw
            try dsimp only at hSw
            go_simp
            try with_reducible rfl
          try simp only [List.setIfInBounds_toArray, List.set_cons_zero, List.set_cons_succ]
          refine take_do (i := 3) (d := 104) (v := ?_) rfl rfl (by kernel_rfl) (by kernel_rfl) (by kernel_rfl) (fun _ _ _ h => h) rfl ?_ (by assumption) ?_
          rotate_left
          · intro w hSw
            try dsimp only at hSw
            go_simp
            try with_reducible rfl
          try simp only [List.setIfInBounds_toArray, List.set_cons_zero, List.set_cons_succ]
          refine take_do (i := 4) (d := 105) (v := ?_) rfl rfl (by kernel_rfl) (by kernel_rfl) (by kernel_rfl) (fun _ _ _ h => h) rfl ?_ (by assumption) ?_
          rotate_left
          · intro w hSw
            try dsimp only at hSw
            go_simp
            try with_reducible rfl
          try simp only [List.setIfInBounds_toArray, List.set_cons_zero, List.set_cons_succ]
          refine take_do (i := 5) (d := 106) (v := ?_) rfl rfl (by kernel_rfl) (by kernel_rfl) (by kernel_rfl) (fun _ _ _ h => h) rfl ?_ (by assumption) ?_
          rotate_left
          · intro w hSw
            try dsimp only at hSw
            go_simp
            try with_reducible rfl
          try simp only [List.setIfInBounds_toArray, List.set_cons_zero, List.set_cons_succ]
          refine take_do (i := 6) (d := 107) (v := ?_) rfl rfl (by kernel_rfl) (by kernel_rfl) (by kernel_rfl) (fun _ _ _ h => h) rfl ?_ (by assumption) ?_
          rotate_left
          · intro w hSw
            try dsimp only at hSw
            go_simp
            try with_reducible rfl
          try simp only [List.setIfInBounds_toArray, List.set_cons_zero, List.set_cons_succ]
          refine take_do (i := 7) (d := 108) (v := ?_) rfl rfl (by kernel_rfl) (by kernel_rfl) (by kernel_rfl) (fun _ _ _ h => h) rfl ?_ (by assumption) ?_
          rotate_left
          · intro w hSw
            try dsimp only at hSw
            go_simp
            try with_reducible rfl
          try simp only [List.setIfInBounds_toArray, List.set_cons_zero, List.set_cons_succ]
          refine take_do (i := 8) (d := 109) (v := ?_) rfl rfl (by kernel_rfl) (by kernel_rfl) (by kernel_rfl) (fun _ _ _ h => h) rfl ?_ (by assumption) ?_
          rotate_left
          · intro w hSw
            try dsimp only at hSw
            go_simp
            try with_reducible rfl
          try simp only [List.setIfInBounds_toArray, List.set_cons_zero, List.set_cons_succ]
          refine wpAnyH_ready (rs := [9]) (by kernel_rfl) (by simp) ?_
          refine AllReadyH.cons rfl (fun K hK => ?_) AllReadyH.nil
          go_simp
          go_wp2_with (go_at_call 13; refine Calls.mono HE.out ?_; rintro e6 w6 ⟨rfl, hb6⟩; have HB6 : Hid (Below wr.heap.size wr w6) := HBR.out.trans (hb6.mono (Nat.le_refl _)); clear hb6)
          refine hK.out _ _ (HS2.out _ HB6.out) (fun hHeld => ?_)
          clear hK K
          refine take_do (i := 10) (d := 12) (v := ?_) rfl rfl (by kernel_rfl) (by kernel_rfl) (by kernel_rfl) (fun _ _ _ h => h) rfl ?_ (by assumption) ?_
          rotate_left
          · intro w hSw
            try dsimp only at hSw
            go_simp
            try with_reducible rfl
          try simp only [List.setIfInBounds_toArray, List.set_cons_zero, List.set_cons_succ]
          refine wpAnyH_done (by kernel_rfl) ?_ _
          have hs6 := HB6.out.size
          obtain ⟨q0, q1, q2, q3, q4, _, _, _, _, _⟩ := HS2.out _ HB6.out
          have hb6w : b3 < w6.heap.size := by omega
          have hb46 : Below w4.heap.size w4 w6 := belOn hb (by omega) HB6.out
          cases r
          · go_wp2
            go_roundw
            case rel => exact ⟨i + 1, by go_num, by omega, hb46⟩
            case measure => simp [intOf]; omega
          · have hk0' := HDF.out rfl
            rw [hk0'] at q0
            go_wp2
            go_roundw
            case rel => exact ⟨i + 1, by go_num, by omega, hb46⟩
            case measure => simp [intOf]; omega
        · have hbwr : Below w.heap.size w wr := belOn hb0 (by omega) (belOn hb0W (by omega) hb3r)
          have hie : i = M' + 1 := by omega
          subst hie
          go_wp2
          go_ret
          exact ⟨rfl, hbwr⟩
end Go.Proofs.YtfoegajgnbdoiabGreatDoor
