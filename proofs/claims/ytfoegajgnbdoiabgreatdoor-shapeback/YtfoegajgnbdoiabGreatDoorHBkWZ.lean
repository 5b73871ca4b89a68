import Derived.Test.YtfoegajgnbdoiabGreatDoorHBkPZ
import Derived.Test.YtfoegajgnbdoiabGreatDoorHLiveZ
import Derived.Test.YtfoegajgnbdoiabGreatDoorVWeighAZ

/- ShapeBack: the walk. -/
namespace Go.Proofs.YtfoegajgnbdoiabGreatDoor
open Go.RowKit
set_option linter.unusedVariables false
set_option linter.unusedSimpArgs false
theorem eqsT_self (l : List T) : eqsT l l = true := by
  have h := neg_ords l (fun x _ u => neg_ord x u) l
  have h0 : T.ords l l = 0 := by omega
  unfold eqsT
  simp [h0]
theorem packR_bad {kind : Int} {l : List V} (h : (packR kind l).2 ≠ 0) : (packR kind l).1 = nul := by
  unfold packR packT at h ⊢
  cases hf : ftab kind with
  | none => rfl
  | some fs =>
    rw [hf] at h
    dsimp only at h ⊢
    by_cases hl : l.length = fs.length
    · rw [if_neg (by simpa using hl)] at h ⊢
      unfold endT at h ⊢
      split
      · rfl
      · rename_i hz
        rw [if_neg hz] at h
        split
        · rfl
        · rename_i hd
          rw [if_neg hd] at h
          exact absurd rfl h
    · rw [if_pos hl]
theorem nul_of {y : V} (h : y.t = nul) : y.k = 0 ∧ y.l.length = 0 := by
  have h1 := k_t y
  have h2 := l_t y
  rw [h] at h1 h2
  refine ⟨h1.symm, ?_⟩
  have h3 : V.l nul = [] := V.l_of _ _ _ _ _ _ _
  rw [h3] at h2
  rw [← V.ts_length, ← h2]
  rfl
theorem lies_up {Q : Nat → Prop} {w : World} {y : V} {m : Nat} (h : LiesIn Q w y) (hq : ∀ b, Q b → b < m) : Lies m w y := LiesIn.keep h (fun _ _ _ => rfl) hq
set_option maxRecDepth 100000 in
set_option maxHeartbeats 40000000 in
theorem back_walk (v : V) (kk : Int) (x : V) (w : World) (hv : Lies w.heap.size w v) (wk : -9223372036854775808 ≤ kk ∧ kk ≤ 9223372036854775807) (hx : Lies w.heap.size w x) (hT : Lib.Utf8Tabs 0 1 w) :
    Calls Tryz.prog 3 #[v.val, .agg #[.int .i64 kk, .slice x.a x.l.length x.c]] w fun e w' => e = .returned (.bool true) ∧ Below w.heap.size w w' := by
  have hxb := lies_bare hx
  obtain ⟨W0, hW0⟩ : ∃ W0, (w.alloc (Obj.cells #[.int .i64 v.k, .int .u64 v.n, .string v.s, .slice v.a v.l.length v.c, .int .i64 v.e] 25)).alloc (Obj.cells #[.int .i64 kk, .slice x.a x.l.length x.c] 27) = W0 := ⟨_, rfl⟩
  have hs0 : W0.heap.size = w.heap.size + 2 := by rw [← hW0]; simp
  have hb0 : Below w.heap.size w W0 := by rw [← hW0]; exact bel2 (Below.refl _ _) (Nat.le_refl _) _ _
  have xv : BoxV W0 w.heap.size v := by rw [← hW0]; exact heap_past (World.alloc_heap_new _ _) _
  have xr : BoxR W0 (w.heap.size + 1) kk x.a x.l.length x.c := by rw [← hW0]; exact heap_at1 _ _ _
  have HTB : Hid (∀ W', Below w.heap.size w W' → Lib.Utf8Tabs 0 1 W') := fun W' h => tabs_below hT h
  have HG1 : Hid (∀ W', Below w.heap.size w W' → Calls Tryz.prog 6 #[.agg #[.int .i64 v.k, .int .u64 v.n, .string v.s, .slice v.a v.l.length v.c, .int .i64 v.e]] W' fun e w' => ∃ g, e = .returned (.bool g) ∧ Below W'.heap.size W' w') := fun W' h => by
    have h1 := great_any v w.heap.size W' h.size (hv.keep h (Nat.le_refl _))
    rw [V.val_eq] at h1
    refine h1.mono ?_
    rintro e w' (⟨h2, h3⟩ | ⟨h2, _, h3⟩)
    · exact ⟨_, h2, h3⟩
    · exact ⟨_, h2, h3⟩
  have HG2 : Hid (∀ W', Below w.heap.size w W' → Calls Tryz.prog 7 #[.slice x.a x.l.length x.c] W' fun e w' => ∃ g, e = .returned (.bool g) ∧ Below W'.heap.size W' w') := fun W' h => by
    have hk := hxb.keep h (Nat.le_refl _)
    refine (greatallA_any x.a x.c w.heap.size x.l W' h.size hk.row hk.sub hk.ok.l hk.ok.c).mono ?_
    rintro e w' (⟨h2, h3⟩ | ⟨h2, _, h3⟩)
    · exact ⟨_, h2, h3⟩
    · exact ⟨_, h2, h3⟩
  have HUV : Hid (∀ W', Below w.heap.size w W' → Calls Tryz.prog 9 #[.agg #[.int .i64 v.k, .int .u64 v.n, .string v.s, .slice v.a v.l.length v.c, .int .i64 v.e]] W' (fun e w' => ∃ y : V, e = .returned (.tuple #[.agg #[.int .i64 (unpR v).1.1, .slice y.a y.l.length y.c], .int .i64 (unpR v).2.1, .int .i64 (unpR v).2.2]) ∧ Hid (V.ts y.l = (unpR v).1.2 ∧ LiesIn (fun b => W'.heap.size + 2 ≤ b ∧ b < w'.heap.size) w' y) ∧ Below W'.heap.size W' w')) := fun W' h => by
    have h1 := unpack_any v w.heap.size W' h.size (hv.keep h (Nat.le_refl _)) (HTB.out W' h)
    rw [V.val_eq] at h1
    exact h1
  have HPR : Hid (∀ W', Below w.heap.size w W' → Calls Tryz.prog 11 #[.agg #[.int .i64 kk, .slice x.a x.l.length x.c]] W' (fun e w' => ∃ y : V, e = VN y (packR kk x.l).2 ∧ Hid (y.t = (packR kk x.l).1 ∧ LiesIn (fun b => W'.heap.size + 2 ≤ b ∧ b < w'.heap.size) w' y) ∧ Below W'.heap.size W' w')) := fun W' h => pack_any kk x.a x.l x.c w.heap.size W' h.size (hxb.keep h (Nat.le_refl _)) (HTB.out W' h)
  have HUG : Hid ((unpR v).2.2 = 0 → ∃ k fs ts, unpR v = ((k, ts), 0, 0) ∧ ftab k = some fs ∧ Good rep k fs ts ∧ T.dp (laidT k ts) ≤ 32 ∧ ∀ t ∈ ts, T.dp t ≤ 32) := fun h => unpR_good h
  have HPG : Hid ((packR kk x.l).2 = 0 → ∃ fs ts, packR kk x.l = (laidT kk ts, 0) ∧ ftab kk = some fs ∧ x.l.length = fs.length ∧ Good rep kk fs ts ∧ T.dp (laidT kk ts) ≤ 32 ∧ ∀ t ∈ ts, T.dp t ≤ 32) := fun h => packR_good h
  have HPB : Hid ((packR kk x.l).2 ≠ 0 → (packR kk x.l).1 = nul) := fun h => packR_bad h
  generalize hur : unpR v = ur at HUV HUG
  generalize hpr : packR kk x.l = pr at HPR HPG HPB
  obtain ⟨⟨uk, ut⟩, ua, ue⟩ := ur
  obtain ⟨pt, pn⟩ := pr
  dsimp only at HUV HUG HPR HPG HPB
  have HW0 := hide hW0
  clear hW0 hx hv hT hxb hur hpr
  rw [V.val_eq]
  go_enter Tryz.func3, Tryz.ntmps3
  go_wp2_with fail
  rw [HW0.out]
  clear HW0
  refine (HG1.out _ hb0).mono ?_
  rintro e1 w1 ⟨g1, rfl, hb1⟩
  have hs1 := hb1.size
  have hbw1 : Below w.heap.size w w1 := belOn hb0 (by omega) hb1
  obtain ⟨r0, r1⟩ := (xr.below hb1 (by omega)).cells
  have hz1 : w.heap.size + 1 < w1.heap.size := by omega
  go_wp2_with fail
  refine (HG2.out _ hbw1).mono ?_
  rintro e2 w2 ⟨g2, rfl, hb2⟩
  have hb02 : Below W0.heap.size W0 w2 := belOn hb1 hs1 hb2
  have hs2 := hb02.size
  have hbw2 : Below w.heap.size w w2 := belOn hb0 (by omega) hb02
  go_wp2_with fail
  refine (live_any w2 (HTB.out _ hbw2)).mono ?_
  rintro e3 w3 ⟨rfl, hb3⟩
  have hb03 : Below W0.heap.size W0 w3 := belOn hb02 hs2 hb3
  have hs3 := hb03.size
  have hbw3 : Below w.heap.size w w3 := belOn hb0 (by omega) hb03
  clear r0 r1
  cases g1
  rotate_left
  · go_wp2
    go_ret
    exact ⟨rfl, hbw3⟩
  cases g2
  rotate_left
  · go_wp2
    go_ret
    exact ⟨rfl, hbw3⟩
  obtain ⟨v0, v1, v2, v3, v4⟩ := (xv.below hb03 (by omega)).cells
  have hz3 : w.heap.size < w3.heap.size := by omega
  go_wp2_with fail
  refine (HUV.out _ hbw3).mono ?_
  rintro e4 w4 ⟨y, rfl, HY, hb4⟩
  have hs4 := hb4.size
  have hb04 : Below W0.heap.size W0 w4 := belOn hb03 hs3 hb4
  obtain ⟨W4, hW4⟩ : ∃ W4, w4.alloc (Obj.cells #[.int .i64 uk, .slice y.a y.l.length y.c] 27) = W4 := ⟨_, rfl⟩
  have hsW4 : W4.heap.size = w4.heap.size + 1 := by rw [← hW4]; simp
  have hb44 : Below w4.heap.size w4 W4 := by rw [← hW4]; exact bel1 (Below.refl _ _) (Nat.le_refl _) _
  have hb0W4 : Below W0.heap.size W0 W4 := belOn hb04 (by omega) hb44
  have xa : BoxR W4 w4.heap.size uk y.a y.l.length y.c := by rw [← hW4]; exact World.alloc_heap_new _ _
  have HW4 := hide hW4
  clear hW4 v0 v1 v2 v3 v4
  by_cases hue : ue = 0
  · subst hue
    obtain ⟨k, fs, ts, hqe, hft, hgd, hdp, htd⟩ := HUG.out rfl
    obtain ⟨⟨rfl, rfl⟩, rfl, _⟩ : (uk = k ∧ ut = ts) ∧ ua = 0 ∧ True := by
      have h1 := congrArg (fun q => q.1.1) hqe
      have h2 := congrArg (fun q => q.1.2) hqe
      have h3 := congrArg (fun q => q.2.1) hqe
      exact ⟨⟨h1, h2⟩, h3, trivial⟩
    have hyt : V.ts y.l = ut := HY.out.1
    have hyl : Lies W4.heap.size W4 (V.of 0 0 ⟨#[]⟩ y.a y.c 0 y.l) := lies_bare ((lies_up HY.out.2 (fun b hb => by show b < w4.heap.size; have : _ ∧ _ := hb; omega)).keep hb44 (Nat.le_refl _) |>.mono (by omega))
    have hpk := pack_of_good hft hgd hdp htd hyt
    have HCK : Hid (∀ W', Below W4.heap.size W4 W' → Calls Tryz.prog 10 #[.agg #[.int .i64 uk, .slice y.a y.l.length y.c]] W' (fun e w' => e = .returned (.int .i64 0) ∧ Below W'.heap.size W' w')) := fun W' h => by
      have h1 := scheck_any uk y.a y.l y.c W4.heap.size W' h.size (hyl.keep h (Nat.le_refl _)) (HTB.out W' (belOn hb0 (by omega) (belOn hb0W4 (by omega) h)))
      rw [hpk] at h1
      exact h1
    have HPK : Hid (∀ W', Below W4.heap.size W4 W' → Calls Tryz.prog 11 #[.agg #[.int .i64 uk, .slice y.a y.l.length y.c]] W' (fun e w' => ∃ p : V, e = VN p 0 ∧ Hid (p.t = laidT uk ut ∧ LiesIn (fun b => W'.heap.size + 2 ≤ b ∧ b < w'.heap.size) w' p) ∧ Below W'.heap.size W' w')) := fun W' h => by
      have h1 := pack_any uk y.a y.l y.c W4.heap.size W' h.size (hyl.keep h (Nat.le_refl _)) (HTB.out W' (belOn hb0 (by omega) (belOn hb0W4 (by omega) h)))
      rw [hpk] at h1
      exact h1
    have HYL := hide hyl
    have HYT := hide hyt
    have HGD := hide hgd
    have HFT := hide hft
    have hdp' := hdp
    clear hyl hpk hqe hyt hgd hft hdp htd HUG
    go_wp2_with fail
    rw [HW4.out]
    clear HW4
    obtain ⟨a0, a1⟩ := xa.cells
    have hz4 : w4.heap.size < W4.heap.size := by omega
    go_wp2_with fail
    refine (HCK.out _ (Below.refl _ _)).mono ?_
    rintro e5 w5 ⟨rfl, hb5⟩
    have hs5 := hb5.size
    clear a0 a1
    obtain ⟨a0, a1⟩ := (xa.below hb5 (by omega)).cells
    have hz5 : w4.heap.size < w5.heap.size := by omega
    go_wp2_with fail
    refine (HPK.out _ hb5).mono ?_
    rintro e6 w6 ⟨p, rfl, HP, hb6⟩
    have hs6 := hb6.size
    unfold VN
    have hb46 : Below W4.heap.size W4 w6 := belOn hb5 hs5 hb6
    obtain ⟨W6, hW6⟩ : ∃ W6, w6.alloc (Obj.cells #[.int .i64 p.k, .int .u64 p.n, .string p.s, .slice p.a p.l.length p.c, .int .i64 p.e] 25) = W6 := ⟨_, rfl⟩
    have hsW6 : W6.heap.size = w6.heap.size + 1 := by rw [← hW6]; simp
    have hb66 : Below w6.heap.size w6 W6 := by rw [← hW6]; exact bel1 (Below.refl _ _) (Nat.le_refl _) _
    have hb4W6 : Below W4.heap.size W4 W6 := belOn hb46 (by omega) hb66
    have hbwW6 : Below w.heap.size w W6 := belOn hb0 (by omega) (belOn hb0W4 (by omega) hb4W6)
    have xp : BoxV W6 w6.heap.size p := by rw [← hW6]; exact World.alloc_heap_new _ _
    have hpl : Lies W6.heap.size W6 p := ((lies_up HP.out.2 (fun b hb => by show b < w6.heap.size; have : _ ∧ _ := hb; omega)).keep hb66 (Nat.le_refl _)).mono (by omega)
    have hup := unpack_any p W6.heap.size W6 (Nat.le_refl _) hpl (HTB.out _ hbwW6)
    rw [V.val_eq, unp_of_good HFT.out HGD.out hdp' HP.out.1] at hup
    have HUP := hide hup
    have HW6 := hide hW6
    obtain ⟨p0, p1, p2, p3, p4⟩ := xp.cells
    clear hup hpl hW6 a0 a1 HCK HPK
    go_wp2_with fail
    rw [HW6.out]
    clear HW6
    try go_wp2_with fail
    refine HUP.out.mono ?_
    rintro e7 w7 ⟨z, rfl, HZ, hb7⟩
    have hs7 := hb7.size
    clear p0 p1 p2 p3 p4
    obtain ⟨W7, hW7⟩ : ∃ W7, w7.alloc (Obj.cells #[.int .i64 uk, .slice z.a z.l.length z.c] 27) = W7 := ⟨_, rfl⟩
    have hsW7 : W7.heap.size = w7.heap.size + 1 := by rw [← hW7]; simp
    have hb77 : Below w7.heap.size w7 W7 := by rw [← hW7]; exact bel1 (Below.refl _ _) (Nat.le_refl _) _
    have hb4W7 : Below W4.heap.size W4 W7 := belOn (belOn hb4W6 (by omega) hb7) (by omega) hb77
    have xb : BoxR W7 w7.heap.size uk z.a z.l.length z.c := by rw [← hW7]; exact World.alloc_heap_new _ _
    have hzl : Lies W7.heap.size W7 (V.of 0 0 ⟨#[]⟩ z.a z.c 0 z.l) := lies_bare ((lies_up HZ.out.2 (fun b hb => by show b < w7.heap.size; have : _ ∧ _ := hb; omega)).keep hb77 (Nat.le_refl _) |>.mono (by omega))
    have hsr := sameRecord_any uk y.l z.l y.a z.a y.c z.c W7.heap.size W7 (Nat.le_refl _) ((HYL.out.keep hb4W7 (Nat.le_refl _)).mono (by omega)) hzl (by
      have h1 : V.ts z.l = ut := HZ.out.1
      rw [HYT.out, h1]
      exact eqsT_self _)
    have HSR := hide hsr
    have HW7 := hide hW7
    obtain ⟨a0, a1⟩ := (xa.below (belOn hb4W6 (by omega) hb7) (by omega)).cells
    have hz7 : w4.heap.size < w7.heap.size := by omega
    clear hsr hzl hW7
    go_wp2_with fail
    rw [HW7.out]
    clear HW7
    refine HSR.out.mono ?_
    rintro e8 wa ⟨rfl, hb8⟩
    have hs8 := hb8.size
    have hb0a : Below W0.heap.size W0 wa := belOn hb0W4 (by omega) (belOn hb4W7 (by omega) hb8)
    clear a0 a1 HSR HUP
    have hsa := hb0a.size
    have hbwa : Below w.heap.size w wa := belOn hb0 (by omega) hb0a
    obtain ⟨r0, r1⟩ := (xr.below hb0a (by omega)).cells
    have hza : w.heap.size + 1 < wa.heap.size := by omega
    go_wp2_with fail
    refine (HPR.out _ hbwa).mono ?_
    rintro f1 u1 ⟨q, rfl, HQ, hc1⟩
    have ht1 := hc1.size
    unfold VN
    have hc01 : Below W0.heap.size W0 u1 := belOn hb0a hsa hc1
    obtain ⟨U1, hU1⟩ : ∃ U1, u1.alloc (Obj.cells #[.int .i64 q.k, .int .u64 q.n, .string q.s, .slice q.a q.l.length q.c, .int .i64 q.e] 25) = U1 := ⟨_, rfl⟩
    have hsU1 : U1.heap.size = u1.heap.size + 1 := by rw [← hU1]; simp
    have hc11 : Below u1.heap.size u1 U1 := by rw [← hU1]; exact bel1 (Below.refl _ _) (Nat.le_refl _) _
    have hc0U : Below W0.heap.size W0 U1 := belOn hc01 (by omega) hc11
    have hbwU : Below w.heap.size w U1 := belOn hb0 (by omega) hc0U
    have xq : BoxV U1 u1.heap.size q := by rw [← hU1]; exact World.alloc_heap_new _ _
    have HU1 := hide hU1
    clear hU1
    by_cases hpn : pn = 0
    rotate_left
    · have hpb : (pn == 0) = false := by simpa using hpn
      have hpx : (pn != 0) = true := by simpa using hpn
      have hqn : q.t = nul := HQ.out.1.trans (HPB.out hpn)
      obtain ⟨hqk, hql⟩ := nul_of hqn
      clear HU1
      go_wp2
      go_ret
      exact ⟨by simp [hql, hqk], bel1 (belOn hb0 (by omega) hc01) (by omega) _⟩
    subst hpn
    obtain ⟨fs2, ts2, hqe2, hft2, hxl2, hgd2, hdp2, htd2⟩ := HPG.out rfl
    have hqt : q.t = laidT kk ts2 := HQ.out.1.trans (congrArg Prod.fst hqe2)
    have hql : Lies U1.heap.size U1 q := ((lies_up HQ.out.2 (fun b hb => by show b < u1.heap.size; have : _ ∧ _ := hb; omega)).keep hc11 (Nat.le_refl _)).mono (by omega)
    have huq := unpack_any q U1.heap.size U1 (Nat.le_refl _) hql (HTB.out _ hbwU)
    rw [V.val_eq, unp_of_good hft2 hgd2 hdp2 hqt] at huq
    have HUQ := hide huq
    have HQT := hide hqt
    have HQLS := hide hql
    have HFT2 := hide hft2
    have HGD2 := hide hgd2
    have HTD2 := hide htd2
    have HXL2 := hide hxl2
    obtain ⟨q0, q1, q2, q3, q4⟩ := xq.cells
    have hzu : u1.heap.size < U1.heap.size := by omega
    clear huq hqt hql hqe2 hft2 hgd2 htd2 hxl2 r0 r1
    go_wp2_with fail
    rw [HU1.out]
    clear HU1
    try go_wp2_with fail
    refine HUQ.out.mono ?_
    rintro f2 u2 ⟨s, rfl, HS, hc2⟩
    have ht2 := hc2.size
    try dsimp only at HS
    try dsimp only
    obtain ⟨U2, hU2⟩ : ∃ U2, u2.alloc (Obj.cells #[.int .i64 kk, .slice s.a s.l.length s.c] 27) = U2 := ⟨_, rfl⟩
    have hsU2 : U2.heap.size = u2.heap.size + 1 := by rw [← hU2]; simp
    have hc22 : Below u2.heap.size u2 U2 := by rw [← hU2]; exact bel1 (Below.refl _ _) (Nat.le_refl _) _
    have hcU12 : Below U1.heap.size U1 U2 := belOn hc2 (by omega) hc22
    have hbwU2 : Below w.heap.size w U2 := belOn hbwU (by have := hbwU.size; omega) hcU12
    have xs : BoxR U2 u2.heap.size kk s.a s.l.length s.c := by rw [← hU2]; exact World.alloc_heap_new _ _
    have hsl : Lies U2.heap.size U2 (V.of 0 0 ⟨#[]⟩ s.a s.c 0 s.l) := lies_bare ((lies_up HS.out.2 (fun b hb => by show b < u2.heap.size; have : _ ∧ _ := hb; omega)).keep hc22 (Nat.le_refl _) |>.mono (by omega))
    have hst : V.ts s.l = ts2 := HS.out.1
    have hps := pack_any kk s.a s.l s.c U2.heap.size U2 (Nat.le_refl _) hsl (HTB.out _ hbwU2)
    rw [pack_of_good HFT2.out HGD2.out hdp2 HTD2.out hst] at hps
    have HPS := hide hps
    have HU2 := hide hU2
    have HLEN : Hid (s.l.length = x.l.length) := by
      rw [Hid, HXL2.out, ← V.ts_length, hst]
      exact HGD2.out.1
    clear hps hsl hst hU2 q0 q1 q2 q3 q4
    obtain ⟨s0, s1⟩ := xs.cells
    have hzs : u2.heap.size < U2.heap.size := by omega
    go_wp2_with fail
    rw [HU2.out]
    clear HU2
    try go_wp2_with fail
    refine HPS.out.mono ?_
    rintro f3 u3 ⟨p', rfl, HP', hc3⟩
    have ht3 := hc3.size
    try dsimp only at HP'
    try dsimp only
    unfold VN
    obtain ⟨U3, hU3⟩ : ∃ U3, u3.alloc (Obj.cells #[.int .i64 p'.k, .int .u64 p'.n, .string p'.s, .slice p'.a p'.l.length p'.c, .int .i64 p'.e] 25) = U3 := ⟨_, rfl⟩
    have hsU3 : U3.heap.size = u3.heap.size + 1 := by rw [← hU3]; simp
    have hc33 : Below u3.heap.size u3 U3 := by rw [← hU3]; exact bel1 (Below.refl _ _) (Nat.le_refl _) _
    have hcU23 : Below U2.heap.size U2 U3 := belOn hc3 (by omega) hc33
    have hcU13 : Below U1.heap.size U1 U3 := belOn hcU12 (by omega) hcU23
    have xp' : BoxV U3 u3.heap.size p' := by rw [← hU3]; exact World.alloc_heap_new _ _
    have hpl' : Lies U3.heap.size U3 p' := ((lies_up HP'.out.2 (fun b hb => by show b < u3.heap.size; have : _ ∧ _ := hb; omega)).keep hc33 (Nat.le_refl _)).mono (by omega)
    have heq := requal_any q p' U3.heap.size U3 (Nat.le_refl _) ((HQLS.out.keep hcU13 (Nat.le_refl _)).mono (by omega)) hpl'
    have hpt : p'.t = laidT kk ts2 := HP'.out.1
    rw [V.val_eq, V.val_eq, HQT.out, hpt, eqT_refl] at heq
    have HEQ := hide heq
    have HU3 := hide hU3
    clear heq hpl' hpt hU3 s0 s1
    obtain ⟨q0, q1, q2, q3, q4⟩ := (xq.below (belOn hcU12 (by omega) hc3) (by omega)).cells
    have hzx : u1.heap.size < u3.heap.size := by omega
    go_wp2_with fail
    rw [HU3.out]
    clear HU3
    refine HEQ.out.mono ?_
    rintro f4 u4 ⟨rfl, hc4⟩
    have ht4 := hc4.size
    have hcU24 : Below U2.heap.size U2 u4 := belOn hcU23 (by omega) hc4
    have hc04 : Below W0.heap.size W0 u4 := belOn hc0U (by omega) (belOn hcU12 (by omega) hcU24)
    clear q0 q1 q2 q3 q4
    obtain ⟨s0, s1⟩ := (xs.below hcU24 (by omega)).cells
    obtain ⟨r0, r1⟩ := (xr.below hc04 (by omega)).cells
    have hzs4 : u2.heap.size < u4.heap.size := by omega
    have hzr4 : w.heap.size + 1 < u4.heap.size := by omega
    rw [HLEN.out] at s1
    have hbw4 : Below w.heap.size w u4 := belOn hb0 (by omega) hc04
    go_wp2
    go_ret
    exact ⟨by simp, hbw4⟩
  · have hueb : (ue == 0) = false := by simpa using hue
    have hb0a := hb0W4
    clear HUG
    obtain ⟨r0, r1⟩ := (xr.below hb04 (by omega)).cells
    have hzq : w.heap.size + 1 < w4.heap.size := by omega
    go_wp2_with fail
    rw [HW4.out]
    clear HW4 r0 r1
    generalize W4 = wa at hb0a
    have hsa := hb0a.size
    have hbwa : Below w.heap.size w wa := belOn hb0 (by omega) hb0a
    obtain ⟨r0, r1⟩ := (xr.below hb0a (by omega)).cells
    have hza : w.heap.size + 1 < wa.heap.size := by omega
    refine (HPR.out _ hbwa).mono ?_
    rintro f1 u1 ⟨q, rfl, HQ, hc1⟩
    have ht1 := hc1.size
    unfold VN
    have hc01 : Below W0.heap.size W0 u1 := belOn hb0a hsa hc1
    obtain ⟨U1, hU1⟩ : ∃ U1, u1.alloc (Obj.cells #[.int .i64 q.k, .int .u64 q.n, .string q.s, .slice q.a q.l.length q.c, .int .i64 q.e] 25) = U1 := ⟨_, rfl⟩
    have hsU1 : U1.heap.size = u1.heap.size + 1 := by rw [← hU1]; simp
    have hc11 : Below u1.heap.size u1 U1 := by rw [← hU1]; exact bel1 (Below.refl _ _) (Nat.le_refl _) _
    have hc0U : Below W0.heap.size W0 U1 := belOn hc01 (by omega) hc11
    have hbwU : Below w.heap.size w U1 := belOn hb0 (by omega) hc0U
    have xq : BoxV U1 u1.heap.size q := by rw [← hU1]; exact World.alloc_heap_new _ _
    have HU1 := hide hU1
    clear hU1
    by_cases hpn : pn = 0
    rotate_left
    · have hpb : (pn == 0) = false := by simpa using hpn
      have hpx : (pn != 0) = true := by simpa using hpn
      have hqn : q.t = nul := HQ.out.1.trans (HPB.out hpn)
      obtain ⟨hqk, hql⟩ := nul_of hqn
      clear HU1
      go_wp2
      go_ret
      exact ⟨by simp [hql, hqk], bel1 (belOn hb0 (by omega) hc01) (by omega) _⟩
    subst hpn
    obtain ⟨fs2, ts2, hqe2, hft2, hxl2, hgd2, hdp2, htd2⟩ := HPG.out rfl
    have hqt : q.t = laidT kk ts2 := HQ.out.1.trans (congrArg Prod.fst hqe2)
    have hql : Lies U1.heap.size U1 q := ((lies_up HQ.out.2 (fun b hb => by show b < u1.heap.size; have : _ ∧ _ := hb; omega)).keep hc11 (Nat.le_refl _)).mono (by omega)
    have huq := unpack_any q U1.heap.size U1 (Nat.le_refl _) hql (HTB.out _ hbwU)
    rw [V.val_eq, unp_of_good hft2 hgd2 hdp2 hqt] at huq
    have HUQ := hide huq
    have HQT := hide hqt
    have HQLS := hide hql
    have HFT2 := hide hft2
    have HGD2 := hide hgd2
    have HTD2 := hide htd2
    have HXL2 := hide hxl2
    obtain ⟨q0, q1, q2, q3, q4⟩ := xq.cells
    have hzu : u1.heap.size < U1.heap.size := by omega
    clear huq hqt hql hqe2 hft2 hgd2 htd2 hxl2 r0 r1
    go_wp2_with fail
    rw [HU1.out]
    clear HU1
    try go_wp2_with fail
    refine HUQ.out.mono ?_
    rintro f2 u2 ⟨s, rfl, HS, hc2⟩
    have ht2 := hc2.size
    try dsimp only at HS
    try dsimp only
    obtain ⟨U2, hU2⟩ : ∃ U2, u2.alloc (Obj.cells #[.int .i64 kk, .slice s.a s.l.length s.c] 27) = U2 := ⟨_, rfl⟩
    have hsU2 : U2.heap.size = u2.heap.size + 1 := by rw [← hU2]; simp
    have hc22 : Below u2.heap.size u2 U2 := by rw [← hU2]; exact bel1 (Below.refl _ _) (Nat.le_refl _) _
    have hcU12 : Below U1.heap.size U1 U2 := belOn hc2 (by omega) hc22
    have hbwU2 : Below w.heap.size w U2 := belOn hbwU (by have := hbwU.size; omega) hcU12
    have xs : BoxR U2 u2.heap.size kk s.a s.l.length s.c := by rw [← hU2]; exact World.alloc_heap_new _ _
    have hsl : Lies U2.heap.size U2 (V.of 0 0 ⟨#[]⟩ s.a s.c 0 s.l) := lies_bare ((lies_up HS.out.2 (fun b hb => by show b < u2.heap.size; have : _ ∧ _ := hb; omega)).keep hc22 (Nat.le_refl _) |>.mono (by omega))
    have hst : V.ts s.l = ts2 := HS.out.1
    have hps := pack_any kk s.a s.l s.c U2.heap.size U2 (Nat.le_refl _) hsl (HTB.out _ hbwU2)
    rw [pack_of_good HFT2.out HGD2.out hdp2 HTD2.out hst] at hps
    have HPS := hide hps
    have HU2 := hide hU2
    have HLEN : Hid (s.l.length = x.l.length) := by
      rw [Hid, HXL2.out, ← V.ts_length, hst]
      exact HGD2.out.1
    clear hps hsl hst hU2 q0 q1 q2 q3 q4
    obtain ⟨s0, s1⟩ := xs.cells
    have hzs : u2.heap.size < U2.heap.size := by omega
    go_wp2_with fail
    rw [HU2.out]
    clear HU2
    try go_wp2_with fail
    refine HPS.out.mono ?_
    rintro f3 u3 ⟨p', rfl, HP', hc3⟩
    have ht3 := hc3.size
    try dsimp only at HP'
    try dsimp only
    unfold VN
    obtain ⟨U3, hU3⟩ : ∃ U3, u3.alloc (Obj.cells #[.int .i64 p'.k, .int .u64 p'.n, .string p'.s, .slice p'.a p'.l.length p'.c, .int .i64 p'.e] 25) = U3 := ⟨_, rfl⟩
    have hsU3 : U3.heap.size = u3.heap.size + 1 := by rw [← hU3]; simp
    have hc33 : Below u3.heap.size u3 U3 := by rw [← hU3]; exact bel1 (Below.refl _ _) (Nat.le_refl _) _
    have hcU23 : Below U2.heap.size U2 U3 := belOn hc3 (by omega) hc33
    have hcU13 : Below U1.heap.size U1 U3 := belOn hcU12 (by omega) hcU23
    have xp' : BoxV U3 u3.heap.size p' := by rw [← hU3]; exact World.alloc_heap_new _ _
    have hpl' : Lies U3.heap.size U3 p' := ((lies_up HP'.out.2 (fun b hb => by show b < u3.heap.size; have : _ ∧ _ := hb; omega)).keep hc33 (Nat.le_refl _)).mono (by omega)
    have heq := requal_any q p' U3.heap.size U3 (Nat.le_refl _) ((HQLS.out.keep hcU13 (Nat.le_refl _)).mono (by omega)) hpl'
    have hpt : p'.t = laidT kk ts2 := HP'.out.1
    rw [V.val_eq, V.val_eq, HQT.out, hpt, eqT_refl] at heq
    have HEQ := hide heq
    have HU3 := hide hU3
    clear heq hpl' hpt hU3 s0 s1
    obtain ⟨q0, q1, q2, q3, q4⟩ := (xq.below (belOn hcU12 (by omega) hc3) (by omega)).cells
    have hzx : u1.heap.size < u3.heap.size := by omega
    go_wp2_with fail
    rw [HU3.out]
    clear HU3
    refine HEQ.out.mono ?_
    rintro f4 u4 ⟨rfl, hc4⟩
    have ht4 := hc4.size
    have hcU24 : Below U2.heap.size U2 u4 := belOn hcU23 (by omega) hc4
    have hc04 : Below W0.heap.size W0 u4 := belOn hc0U (by omega) (belOn hcU12 (by omega) hcU24)
    clear q0 q1 q2 q3 q4
    obtain ⟨s0, s1⟩ := (xs.below hcU24 (by omega)).cells
    obtain ⟨r0, r1⟩ := (xr.below hc04 (by omega)).cells
    have hzs4 : u2.heap.size < u4.heap.size := by omega
    have hzr4 : w.heap.size + 1 < u4.heap.size := by omega
    rw [HLEN.out] at s1
    have hbw4 : Below w.heap.size w u4 := belOn hb0 (by omega) hc04
    go_wp2
    go_ret
    exact ⟨by simp, hbw4⟩
end Go.Proofs.YtfoegajgnbdoiabGreatDoor
