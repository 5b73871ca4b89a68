/- HGRep -/
import Derived.Test.YtgldcchleoklcaaGreatDoorP31
import Derived.Test.YtgldcchleoklcaaGreatDoorP22
namespace Go.Proofs.YtgldcchleoklcaaGreatDoor
open Go.RowKit
set_option linter.unusedVariables false
set_option linter.unusedSimpArgs false
theorem rowT_ok {k : Int} {rs : List (T × Int)} (h : (rowT k rs).2.2 = 0) : rowT k rs = ((k, rs.map Prod.fst), 0, 0) ∧ ∀ j (h : j < rs.length), rs[j].2 = 0 := by
  by_cases hb : badAt rs = none
  · have hj : ∀ j (h : j < rs.length), rs[j].2 = 0 := by
      unfold badAt at hb
      rw [List.findIdx?_eq_none_iff] at hb
      intro j hj
      simpa using hb _ (List.getElem_mem hj)
    exact ⟨rowT_good hj, hj⟩
  · obtain ⟨i, hi⟩ : ∃ i, badAt rs = some i := by
      cases hb' : badAt rs with
      | none => exact absurd hb' hb
      | some i => exact ⟨i, rfl⟩
    have hi' := hi
    unfold badAt at hi'
    rw [List.findIdx?_eq_some_iff_getElem] at hi'
    obtain ⟨h1, h2, h3⟩ := hi'
    exfalso
    have hne : rs[i].2 ≠ 0 := by simpa using h2
    have hj : ∀ j (h : j < rs.length), j < i → rs[j].2 = 0 := fun j hj hji => by simpa using h3 j hji
    rw [rowT_bad h1 hne hj] at h
    exact hne h
theorem fillsT_len (re : T → T × Int) (fs : List FS) (th : List T) : (fillsT re fs th).length = fs.length := by unfold fillsT; rw [List.length_mapIdx]
theorem unpT_ok {re : T → T × Int} {x : T} (h : (unpT re x).2.2 = 0) : ∃ k fs d y, kindV x.k x.l = some k ∧ x.l = [d, y] ∧ x.k = 24 ∧ ftab k = some fs ∧ y.k = 21 ∧ y.l.length ≤ fs.length ∧ unpT re x = rowT k (fillsT re fs y.l) := by
  cases hk : kindV x.k x.l with
  | none =>
    unfold unpT at h
    rw [hk] at h
    exact absurd h (by simp)
  | some k =>
    cases hf : ftab k with
    | none =>
      unfold unpT at h
      rw [hk] at h
      simp only [hf] at h
      exact absurd h (by simp)
    | some fs =>
      obtain ⟨d, y, hl⟩ : ∃ d y, x.l = [d, y] := by
        match hx : x.l with
        | [d, y] => exact ⟨d, y, rfl⟩
        | [] => rw [hx] at hk; cases hk
        | [d] => rw [hx] at hk; cases hk
        | d :: y :: z :: l => rw [hx] at hk; cases hk
      have h24 : x.k = 24 := by
        by_cases e : x.k = 24
        · exact e
        · rw [kindV_k e] at hk; cases hk
      have hy : ((x.l[1]?).getD nul) = y := by rw [hl]; rfl
      have hu : unpT re x = if y.k ≠ 21 then ((0, []), 0, 70) else if fs.length < y.l.length then ((0, []), (fs.length : Int), 71) else rowT k (fillsT re fs y.l) := by
        unfold unpT
        rw [hk]
        simp only [hf]
        rw [hy]
      rw [hu] at h
      by_cases h21 : y.k = 21
      · rw [if_neg (by simp [h21])] at h
        by_cases hlt : fs.length < y.l.length
        · rw [if_pos hlt] at h
          exact absurd h (by simp)
        · rw [if_neg hlt] at h
          refine ⟨k, fs, d, y, rfl, hl, h24, hf, h21, by omega, ?_⟩
          rw [hu, if_neg (by simp [h21]), if_neg hlt]
      · rw [if_pos h21] at h
        exact absurd h (by simp)
theorem unpT_len {re : T → T × Int} {x : T} (h : (unpT re x).2.2 = 0) : ∃ fs, ftab (unpT re x).1.1 = some fs ∧ (unpT re x).1.2.length = fs.length := by
  obtain ⟨k, fs, d, y, _, _, _, hf, _, _, hu⟩ := unpT_ok h
  rw [hu] at h ⊢
  obtain ⟨he, _⟩ := rowT_ok h
  rw [he]
  exact ⟨fs, hf, by rw [List.length_map, fillsT_len]⟩
theorem outs_ts (l ds : List V) : V.ts (outs l ds) = outs (V.ts l) (V.ts ds) := by
  unfold outs
  rw [V.ts_map, V.ts_map, V.ts_map, List.map_zipWith, List.zipWith_map]
  congr 1
  funext v d
  rw [t_t, t_t]
  split
  · exact leaf_t _ _ _
  · rfl
theorem saidN_ts (l ds : List V) (i : Nat) : saidN (V.ts l) (V.ts ds) i = saidN l ds i := by
  induction i with
  | zero => rfl
  | succ i ih =>
    rw [saidN, saidN, ih]
    congr 1
    rw [V.ts_map, V.ts_map, List.getElem?_map, List.getElem?_map]
    cases l[i]? with
    | none => rfl
    | some v =>
      cases ds[i]? with
      | none => rfl
      | some d =>
        simp only [Option.map_some, Option.bind_some, t_t]
theorem ds_ts (fs : List FS) : V.ts (fs.map FS.d) = fs.map FS.d := by
  rw [V.ts_map, List.map_map]
  exact List.map_congr_left fun f _ => fs_d_t f
theorem laid_t {k : Int} {fs : List FS} (hf : ftab k = some fs) (l : List V) (a2 a3 : Option Addr) (c2 c3 : Nat) :
    (V.of 24 0 ⟨#[]⟩ a2 c2 0 [leaf 5 k ⟨#[]⟩, .of 21 0 ⟨#[]⟩ a3 c3 0 ((outs l (fs.map FS.d)).take (saidN l (fs.map FS.d) l.length))]).t = laidT k (V.ts l) := by
  unfold laidT dsOf
  rw [hf]
  simp only [Option.getD_some]
  rw [V.t_of]
  show T.of 24 0 ⟨#[]⟩ 0 [(leaf 5 k ⟨#[]⟩).t, (V.of 21 0 ⟨#[]⟩ a3 c3 0 ((outs l (fs.map FS.d)).take (saidN l (fs.map FS.d) l.length))).t] = _
  rw [leaf_t, V.t_of, V.ts_map, List.map_take, ← V.ts_map, outs_ts, ds_ts, ← saidN_ts, ds_ts, V.ts_length]
set_option maxRecDepth 100000 in
set_option maxHeartbeats 4000000 in
theorem repacked_step (n₀ : Nat) (re : T → T × Int) (v : V) (w : World) (hn : n₀ ≤ w.heap.size) (hu : ∀ W, Below w.heap.size w W → Calls Tryz.prog 43 #[v.val] W (UnpPost n₀ (unpT re v.t) W)) :
    Calls Tryz.prog 138 #[v.val] w (ValPost n₀ (if (unpT re v.t).2.2 ≠ 0 then (nul, (unpT re v.t).2.2) else (laidT (unpT re v.t).1.1 (unpT re v.t).1.2, 0)) w) := by
  generalize hR : (if (unpT re v.t).2.2 ≠ 0 then (nul, (unpT re v.t).2.2) else (laidT (unpT re v.t).1.1 (unpT re v.t).1.2, 0)) = R
  have HLEN : Hid ((unpT re v.t).2.2 = 0 → ∃ fs, ftab (unpT re v.t).1.1 = some fs ∧ (unpT re v.t).1.2.length = fs.length) := fun h => unpT_len h
  generalize unpT re v.t = r at hu hR HLEN
  obtain ⟨⟨kd, yt⟩, at', er⟩ := r
  dsimp only at hR HLEN
  obtain ⟨W0, hW0⟩ : ∃ W0, (w.alloc (Obj.cells #[.int .i64 v.k, .int .u64 v.n, .string v.s, .slice v.a v.l.length v.c, .int .i64 v.e] 42)).alloc (Obj.cells #[.int .i64 0, .int .u64 0, .string ⟨#[]⟩, .slice none 0 0, .int .i64 0] 42) = W0 := ⟨_, rfl⟩
  have hs0 : W0.heap.size = w.heap.size + 2 := by rw [← hW0]; simp
  have hb0 : Below w.heap.size w W0 := by rw [← hW0]; exact bel2 (Below.refl _ _) (Nat.le_refl _) _ _
  have xz : BoxV W0 (w.heap.size + 1) nul := by rw [← hW0]; exact heap_at1 _ _ _
  have HU := hide (hu W0 hb0)
  have HRR := hide hR
  have HW0 := hide hW0
  clear hW0 hu hR
  rw [V.val_eq] at HU ⊢
  go_enter Tryz.func138, Tryz.ntmps138
  go_wp2_with fail
  rw [HW0.out]
  clear HW0
  refine HU.out.mono ?_
  rintro e1 w1 ⟨a, ys, c, rfl, HY, hb1⟩
  have hs1 := hb1.size
  dsimp only at HY ⊢
  obtain ⟨W1, hW1⟩ : ∃ W1, w1.alloc (Obj.cells #[.int .i64 kd, .slice a ys.length c] 33) = W1 := ⟨_, rfl⟩
  have hsW1 : W1.heap.size = w1.heap.size + 1 := by rw [← hW1]; simp
  have hb11 : Below w1.heap.size w1 W1 := by rw [← hW1]; exact bel1 (Below.refl _ _) (Nat.le_refl _) _
  have hb01 : Below W0.heap.size W0 W1 := belOn hb1 hs1 hb11
  have xr : BoxR W1 w1.heap.size kd a ys.length c := by rw [← hW1]; exact World.alloc_heap_new _ _
  obtain ⟨xr0, xr1⟩ := xr.cells
  have xz1 := xz.below hb01 (by omega)
  obtain ⟨z0, z1, z2, z3, z4⟩ := xz1.cells
  have fz := (show Blk W1 (w.heap.size + 1) 42 5 from ⟨_, xz1, rfl⟩).free
  have hz1 : w.heap.size + 1 < W1.heap.size := by omega
  have hz2 : w1.heap.size < W1.heap.size := by omega
  have HW1 := hide hW1
  clear hW1 xz1
  by_cases her : er = 0
  · subst her
    obtain ⟨fs, hft, hlen⟩ := HLEN.out rfl
    obtain ⟨hyt, hyl, hL⟩ := HY.out
    obtain ⟨L, rfl, hL1, hL2, hrow, hyc⟩ := hL rfl
    have hyt' : V.ts ys = yt := hyt
    have hld := laid_all (fun q => q < n₀ ∨ (W0.heap.size ≤ q ∧ q < w1.heap.size)) kd fs hft ys (by rw [← hlen, ← hyt', V.ts_length]) L c hyc W1 (fun q hq => by omega) (by omega) (hrow.below hb11 hL2) (fun x hx => LiesIn.keep (LiesIn.sub hyl x hx) (fun b' hb' o' => hb11.cell (p := ⟨b', o', none⟩) (by show b' < _; omega)) (fun _ h => h))
    have HLD := hide hld
    have HRK : Hid (R = (laidT kd yt, 0)) := by
      rw [Hid, ← HRR.out]
      rfl
    have HYT := hide hyt'
    have HFT := hide hft
    clear hld hyl hrow hyt hyt' HY HLEN HRR hft
    go_wp2_with fail
    rw [HW1.out]
    go_wp2_with fail
    refine HLD.out.mono ?_
    rintro e2 w2 ⟨a2, a3, c2, c3, rfl, HV, hb2⟩
    have hs2 := hb2.size
    have hb02 : Below W0.heap.size W0 w2 := belOn hb01 (by omega) hb2
    have xz2 := xz.below hb02 (by omega)
    obtain ⟨y0, y1, y2, y3, y4⟩ := xz2.cells
    have fz2 := (show Blk w2 (w.heap.size + 1) 42 5 from ⟨_, xz2, rfl⟩).free
    have hz3 : w.heap.size + 1 < w2.heap.size := by omega
    have htt := laid_t HFT.out ys a2 a3 c2 c3
    rw [HYT.out] at htt
    generalize hy : V.of 24 0 ⟨#[]⟩ a2 c2 0 [leaf 5 kd ⟨#[]⟩, .of 21 0 ⟨#[]⟩ a3 c3 0 ((outs ys (fs.map FS.d)).take (saidN ys (fs.map FS.d) ys.length))] = y at HV htt
    have hyn : VN y 0 = .returned (.tuple #[.agg #[.int .i64 24, .int .u64 0, .string ⟨#[]⟩, .slice a2 2 c2, .int .i64 0], .int .i64 0]) := by
      unfold VN
      rw [← hy, V.l_of]
      rfl
    have hend : ValPost n₀ R w (VN y 0) (put5 w2 (w.heap.size + 1) 0 y) := by
      rw [HRK.out]
      refine ⟨y, rfl, ⟨htt, LiesIn.keep HV.out (fun b' hb' => put5_same _ _ _ _ _ (by omega)) (fun b' hb' => ?_)⟩, put5_below (belOn hb0 (by omega) hb02) (by omega)⟩
      rw [put5_size]
      rcases hb' with (h | h) | h
      · exact .inl h
      · exact .inr ⟨by omega, by omega⟩
      · exact .inr ⟨by omega, by omega⟩
    rw [hyn, ← hy, ← put5_of] at hend
    have hend' : ValPost n₀ R w (.returned (.tuple #[.agg #[.int .i64 24, .int .u64 0, .string ⟨#[]⟩, .slice a2 2 c2, .int .i64 0], .int .i64 0])) (((((w2.setCell ⟨w.heap.size + 1, 0, none⟩ (.int .i64 24)).setCell ⟨w.heap.size + 1, 1, none⟩ (.int .u64 0)).setCell ⟨w.heap.size + 1, 2, none⟩ (.string ⟨#[]⟩)).setCell ⟨w.heap.size + 1, 3, none⟩ (.slice a2 2 c2)).setCell ⟨w.heap.size + 1, 4, none⟩ (.int .i64 0)) := hend
    have HEND := hide hend'
    clear hend hend' hyn hy htt xz2 HRK
    go_wp2
    exact bodyPost_ret (v := .tuple #[.agg #[.int .i64 24, .int .u64 0, .string ⟨#[]⟩, .slice a2 2 c2, .int .i64 0], .int .i64 0]) (by simp [results, Tryz.results138, go_sem, y0, y1, y2, y3, y4]) rfl HEND.out
  · have hrb : (er == 0) = false := by simpa using her
    have hrn : (er != 0) = true := by simpa using her
    have HRK : Hid (R = (nul, er)) := by
      rw [Hid, ← HRR.out, if_pos her]
    clear z0 z1 z2 z3 z4 fz xr0 xr1
    have xz3 := xz.below hb1 (by omega)
    obtain ⟨z0, z1, z2, z3, z4⟩ := xz3.cells
    have hblk : Blk w1 (w.heap.size + 1) 42 5 := ⟨_, xz3, rfl⟩
    have fz := hblk.free
    have hz4 : w.heap.size + 1 < w1.heap.size := by omega
    obtain ⟨P, hPe⟩ : ∃ P, put5 w1 (w.heap.size + 1) 0 nul = P := ⟨_, rfl⟩
    have hPs : P.heap.size = w1.heap.size := by rw [← hPe]; exact put5_size _ _ _ _
    have hPb : Below w.heap.size w P := by rw [← hPe]; exact put5_below (belOn hb0 (by omega) hb1) (by omega)
    have hq0 : ∀ q, q < 5 → P.cell? ⟨w.heap.size + 1, q, none⟩ = (words nul)[q]? := fun q hq => by
      have := put5_cell (y := nul) (o := 0) hblk (by omega) q hq
      rw [Nat.zero_add] at this
      rw [← hPe]
      exact this
    rw [← put5_eq] at hPe
    have hPe' : ((((w1.setCell ⟨w.heap.size + 1, 0, none⟩ (.int .i64 0)).setCell ⟨w.heap.size + 1, 1, none⟩ (.int .u64 0)).setCell ⟨w.heap.size + 1, 2, none⟩ (.string ⟨#[]⟩)).setCell ⟨w.heap.size + 1, 3, none⟩ (.slice none 0 0)).setCell ⟨w.heap.size + 1, 4, none⟩ (.int .i64 0) = P := hPe
    obtain ⟨Q, hQe⟩ : ∃ Q, P.alloc (Obj.cells #[.int .i64 kd, .slice a ys.length c] 33) = Q := ⟨_, rfl⟩
    have hbQ : Below P.heap.size P Q := by rw [← hQe]; exact bel1 (Below.refl _ _) (Nat.le_refl _) _
    have hQb : Below w.heap.size w Q := belOn hPb (by omega) hbQ
    have hcq : ∀ q, q < 5 → Q.cell? ⟨w.heap.size + 1, q, none⟩ = (words nul)[q]? := fun q hq => (hbQ.cell (p := ⟨w.heap.size + 1, q, none⟩) (by show w.heap.size + 1 < _; omega)).trans (hq0 q hq)
    have j0 : Q.cell? ⟨w.heap.size + 1, 0, none⟩ = some (.int .i64 0) := hcq 0 (by omega)
    have j1 : Q.cell? ⟨w.heap.size + 1, 1, none⟩ = some (.int .u64 0) := hcq 1 (by omega)
    have j2 : Q.cell? ⟨w.heap.size + 1, 2, none⟩ = some (.string ⟨#[]⟩) := hcq 2 (by omega)
    have j3 : Q.cell? ⟨w.heap.size + 1, 3, none⟩ = some (.slice none 0 0) := hcq 3 (by omega)
    have j4 : Q.cell? ⟨w.heap.size + 1, 4, none⟩ = some (.int .i64 0) := hcq 4 (by omega)
    have hend : ValPost n₀ R w (VN nul er) Q := by
      rw [HRK.out]
      exact valpost_nul hQb
    rw [VN_nul] at hend
    have HEND := hide hend
    have HPE := hide hPe'
    have HQE := hide hQe
    clear hend HRK HRR HLEN xz3 hPe hPe' hQe hq0 hcq
    go_wp2
    rw [HPE.out, HQE.out]
    exact bodyPost_ret (v := .tuple #[.agg #[.int .i64 0, .int .u64 0, .string ⟨#[]⟩, .slice none 0 0, .int .i64 0], .int .i64 er]) (by simp [results, Tryz.results138, go_sem, j0, j1, j2, j3, j4]) rfl HEND.out
theorem ftab_zero : ftab 0 = none := rfl
theorem unpacked_all (n₀ : Nat) (re : T → T × Int) (v : V) (w : World) (hn : n₀ ≤ w.heap.size) (hl : Lies n₀ w v) (hre : ∀ y, (y ∈ v.l) → ∀ x ∈ y.l, RepOk re x) :
    Calls Tryz.prog 43 #[v.val] w (UnpPost n₀ (unpT re v.t) w) := by
  cases hf : ftab ((kindV v.k v.l).getD 0) with
  | none => exact unpacked_no n₀ re v w hn hl hf
  | some fs =>
    cases hk : kindV v.k v.l with
    | none =>
      rw [hk, Option.getD_none, ftab_zero] at hf
      cases hf
    | some k =>
      rw [hk, Option.getD_some] at hf
      obtain ⟨kk, n, s, a, c, e, l, rfl⟩ := V.ex v
      rw [V.k_of, V.l_of] at hk
      rw [V.l_of] at hre
      have h24 : kk = 24 := by
        by_cases e : kk = 24
        · exact e
        · rw [kindV_k e] at hk; cases hk
      subst h24
      match l, hk, hl, hre with
      | [d0, x1], hk, hl, hre =>
        exact unpacked_yes n₀ re k fs n s a c e d0 x1 w hn hl hk hf (hre x1 (by simp))
      | [], hk, _, _ => cases hk
      | [d], hk, _, _ => cases hk
      | d :: y :: z :: l, hk, _, _ => cases hk
theorem rep_all (N : Nat) : ∀ v : V, T.dp v ≤ N → RepOk (repT N) v := by
  induction N with
  | zero =>
    intro v h
    obtain ⟨k, n, s, a, c, e, l, rfl⟩ := V.ex v
    rw [dp_of] at h
    omega
  | succ N ih =>
    intro v h n₀ w hn hl
    refine repacked_step n₀ (repT N) v w hn (fun W hW => ?_)
    refine unpacked_all n₀ (repT N) v W (by have := hW.size; omega) (hl.keep hW hn) (fun y hy x hx => ih x ?_)
    obtain ⟨k, n, s, a, c, e, l, rfl⟩ := V.ex v
    rw [V.l_of] at hy
    have h1 := dp_sub (k := k) (n := n) (s := s) (a := a) (c := c) (e := e) hy
    obtain ⟨k', n', s', a', c', e', l', rfl⟩ := V.ex y
    rw [V.l_of] at hx
    have h2 := dp_sub (k := k') (n := n') (s := s') (a := a') (c := c') (e := e') hx
    omega
end Go.Proofs.YtgldcchleoklcaaGreatDoor
