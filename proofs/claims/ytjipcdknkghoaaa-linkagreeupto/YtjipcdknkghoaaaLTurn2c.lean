
/- LinkAgree: a turn: a delivery is sent. -/
import Derived.Test.YtjipcdknkghoaaaLTurnM
import Derived.Deep.RegionHeld
import Derived.BigQuiet
import Derived.Deep.QuietTactic
namespace Go.Proofs.Ytjipcdknkghoaaa
open Go.RowKit Go.Maps
set_option linter.unusedVariables false
set_option linter.unusedSimpArgs false

section
variable {z : Nat} {w0 : World} {k gs gr N M : Nat} {sec : Bool} {md n0 e p L a b : Int} {s r : Lk} {Ts Tr : List (ByteArray × Dv)} {vO vB vG : Value} {O B : List Itm} {G : List ByteArray}
set_option maxRecDepth 100000 in
set_option maxHeartbeats 16000000 in
theorem turn_1a (kd n : Int) (f : Bool) (w : World) (hp : Pm z w0 w k gs gr N s r Ts Tr vO vB vG O B G) (ha : Al sec 0 N M n0 e p L a b s r Ts Tr O B G) (hM : M ≤ 999999999) (hk : qk kd = 1) (hc : 0 < s.cr) :
    Calls Try.prog 7 #[.pointer (some ⟨k, 0, none⟩), .agg (tnA kd n f), .bool sec, .int .i64 0] w fun e1 w' => e1 = .returned (.bool true) ∧ ∃ N', TurnI z w0 k gs gr N' (M + 1) sec 0 n0 w' := by
  unfold tnA
  have hlow := qk_low kd
  obtain ⟨V, hV⟩ : ∃ V, w.alloc (.cells #[.int .i64 kd, .int .i64 n, .bool f] 35) = V := ⟨_, rfl⟩
  have hbV : Below w.heap.size w V := hV ▸ bel1 (Below.refl _ _) (Nat.le_refl _) _
  have hV0 := hp.go hbV
  have hbx : V.heap[w.heap.size]? = some (.cells #[.int .i64 kd, .int .i64 n, .bool f] 35 (0, 0)) := hV ▸ heap_alloc_last w _
  have bl : w.heap.size < V.heap.size := (Array.getElem?_eq_some_iff.1 hbx).1
  have b0 : V.cell? ⟨w.heap.size, 0, none⟩ = some (.int .i64 kd) := cellOf hbx 0 _ rfl
  have b1 : V.cell? ⟨w.heap.size, 1, none⟩ = some (.int .i64 n) := cellOf hbx 1 _ rfl
  have b2 : V.cell? ⟨w.heap.size, 2, none⟩ = some (.bool f) := cellOf hbx 2 _ rfl
  obtain ⟨c0, c1, c2, c3, c4, c5, cf, cl⟩ := hV0.facts
  have tbx : tyB V w.heap.size = some 35 := ty_cells hbx
  have tgs : tyB V gs = some 84 := ty_cells hV0.ls.lb
  have tgr : tyB V gr = some 84 := ty_cells hV0.lr.lb
  have tds : tyB V s.dm = none := hV0.ls.tb.ty
  have tdr : tyB V r.dm = none := hV0.lr.tb.ty
  have HV := hide hV
  have H0 := hide hV0
  unfold qk at hk
  have hNb : N ≤ 999999999 := Nat.le_trans ha.ln hM
  have hNi : (N : Int) ≤ 999999999 := by omega
  have hkg : k ≠ gs := ne_ty hV0.ty tgs (by decide)
  have hkm : k ≠ s.dm := ne_ty hV0.ty tds (by decide)
  have HSee := hide (see_any gs s Ts V hV0.ls)
  unfold Lk.see at HSee
  obtain ⟨cr, hcr⟩ : ∃ cr, cr = s.cr := ⟨_, rfl⟩
  rw [← hcr] at HSee
  have hcp : 0 < cr := by omega
  have hfr := ha.tg.fresh (by omega)
  have HSd : Hid (∀ W, Pm z w0 W k gs gr N s r Ts Tr vO vB vG O B G → Calls Try.prog 19 #[.pointer (some ⟨gs, 0, none⟩), .string (tagB N), .bool false] W fun e1 w3 => e1 = .returned (.int .i64 0) ∧ Hid (Pm z w0 w3 k gs gr N s.one r ((tagB N, dv0) :: Ts) Tr vO vB vG O B G) ∧ (w3.cell? ⟨k, 0, none⟩ = some (.pointer (some ⟨gs, 0, none⟩)) ∧ w3.cell? ⟨k, 4, none⟩ = some (.int .i64 (N : Int)))) := fun W hW =>
    (send_open gs s Ts (tagB N) W hW.ls ha.lf.sr hc (by rw [tagB_size]; decide) (by rw [tagB_size]; decide) (hasK_not.2 hfr.1) (by rw [ha.lf.sm]; decide) ha.ag.scb (by rw [ha.lf.sa]; decide) (by rw [ha.lf.sa]; decide) (by have := ha.tg.lt; unfold maxLen; omega)).mono fun e1 w3 ⟨e2, s1, k1⟩ => have hq := hW.sender s1 rfl k1; ⟨e2, hq, hq.facts.1, hq.facts.2.2.2.2.1⟩
  have HAl := hide (ha.sendO hc (by omega) (by decide))
  obtain ⟨ao, co, hso⟩ := hp.wo.shape
  have HSo := hide hso
  have HOl : Hid (O.length ≤ 1000000000) := by show _ ≤ _; have := ha.lo; omega
  clear hp ha hV hV0 hbx hbV tbx tgs tgr tds tdr hc hcr hfr hkg hkm hso hM hNb
  go_enter Try.func7, Try.ntmps7
  go_wp2_with (first | rw [HV.out] | (go_at_call 9; refine HSee.out.mono ?_; rintro e2 w2 ⟨rfl, hb2⟩; refine Shut.out ?_))
  unfold Shut
  have h2 := H0.out.go hb2
  have H2 := hide (h2.go (bel_drew w2))
  clear HSee hb2 b0 b1 b2 bl c0 c1 c2 c3 c4 c5 cf cl H0 HV
  obtain ⟨c0, c1, c2, c3, c4, c5, cf, cl⟩ := h2.facts
  have HS2 : Hid (w2.drew.cell? ⟨k, 0, none⟩ = some (.pointer (some ⟨gs, 0, none⟩)) ∧ w2.drew.cell? ⟨k, 4, none⟩ = some (.int .i64 (N : Int))) := ⟨c0, c4⟩
  have HTg := hide (tags_any N w2.drew (by omega))
  clear h2
  have hrs := run_seeCr
  go_wp2
  clear hrs
  refine wp_region_held_drew (S := fun W => W.cell? ⟨k, 0, none⟩ = some (.pointer (some ⟨gs, 0, none⟩)) ∧ W.cell? ⟨k, 4, none⟩ = some (.int .i64 (N : Int))) (by kernel_rfl) HS2.out (fun hHeld => ?_)
  refine take_do (i := 0) (d := 74) (v := ?_) rfl rfl (by kernel_rfl) (by kernel_rfl) (by kernel_rfl) (fun _ _ _ h => h) rfl ?_ (by assumption) ?_
  rotate_left
  · intro W hSw
    try dsimp only at hSw
    go_simp
    try with_reducible rfl
  try simp only [List.setIfInBounds_toArray, List.set_cons_zero, List.set_cons_succ]
  refine take_do (i := 1) (d := 75) (v := ?_) rfl rfl (by kernel_rfl) (by kernel_rfl) (by kernel_rfl) (fun _ _ _ h => h) rfl ?_ (by assumption) ?_
  rotate_left
  · intro W hSw
    try dsimp only at hSw
    go_simp
    try with_reducible rfl
  try simp only [List.setIfInBounds_toArray, List.set_cons_zero, List.set_cons_succ]
  refine take_do (i := 2) (d := 76) (v := ?_) rfl rfl (by kernel_rfl) (by kernel_rfl) (by kernel_rfl) (fun _ _ _ h => h) rfl ?_ (by assumption) ?_
  rotate_left
  · intro W hSw
    try dsimp only at hSw
    go_simp
    try with_reducible rfl
  try simp only [List.setIfInBounds_toArray, List.set_cons_zero, List.set_cons_succ]
  refine take_do (i := 3) (d := 77) (v := ?_) rfl rfl (by kernel_rfl) (by kernel_rfl) (by kernel_rfl) (fun _ _ _ h => h) rfl ?_ (by assumption) ?_
  rotate_left
  · intro W hSw
    try dsimp only at hSw
    go_simp
    try with_reducible rfl
  try simp only [List.setIfInBounds_toArray, List.set_cons_zero, List.set_cons_succ]
  refine take_do (i := 4) (d := 78) (v := ?_) rfl rfl (by kernel_rfl) (by kernel_rfl) (by kernel_rfl) (fun _ _ _ h => h) rfl ?_ (by assumption) ?_
  rotate_left
  · intro W hSw
    try dsimp only at hSw
    go_simp
    try with_reducible rfl
  try simp only [List.setIfInBounds_toArray, List.set_cons_zero, List.set_cons_succ]
  refine take_do (i := 5) (d := 79) (v := ?_) rfl rfl (by kernel_rfl) (by kernel_rfl) (by kernel_rfl) (fun _ _ _ h => h) rfl ?_ (by assumption) ?_
  rotate_left
  · intro W hSw
    try dsimp only at hSw
    go_simp
    try with_reducible rfl
  try simp only [List.setIfInBounds_toArray, List.set_cons_zero, List.set_cons_succ]
  refine take_do (i := 6) (d := 80) (v := ?_) rfl rfl (by kernel_rfl) (by kernel_rfl) (by kernel_rfl) (fun _ _ _ h => h) rfl ?_ (by assumption) ?_
  rotate_left
  · intro W hSw
    try dsimp only at hSw
    go_simp
    try with_reducible rfl
  try simp only [List.setIfInBounds_toArray, List.set_cons_zero, List.set_cons_succ]
  refine take_do (i := 7) (d := 81) (v := ?_) rfl rfl (by kernel_rfl) (by kernel_rfl) (by kernel_rfl) (fun _ _ _ h => h) rfl ?_ (by assumption) ?_
  rotate_left
  · intro W hSw
    try dsimp only at hSw
    go_simp
    try with_reducible rfl
  try simp only [List.setIfInBounds_toArray, List.set_cons_zero, List.set_cons_succ]
  refine take_do (i := 9) (d := 83) (v := ?_) rfl rfl (by kernel_rfl) (by kernel_rfl) (by kernel_rfl) (fun _ _ _ h => h) rfl ?_ (by assumption) ?_
  rotate_left
  · intro W hSw
    try dsimp only at hSw
    go_simp
    try with_reducible rfl
  try simp only [List.setIfInBounds_toArray, List.set_cons_zero, List.set_cons_succ]
  refine wpAnyH_ready (rs := [8]) (by kernel_rfl) (by simp) ?_
  refine AllReadyH.cons rfl (fun K hK => ?_) AllReadyH.nil
  go_simp
  go_wp2_with (go_at_call 27; refine HTg.out.mono ?_; rintro e5 w5 ⟨rfl, hb5⟩)
  have h5 := H2.out.go hb5
  have HSd5 := hide (HSd.out w5 h5)
  refine hK.out _ _ ⟨h5.facts.1, h5.facts.2.2.2.2.1⟩ (fun hHeld => ?_)
  clear hK K hb5 HTg HSd h5 H2 HS2
  try simp only [Act.put, List.setIfInBounds_toArray, List.set_cons_zero, List.set_cons_succ]
  refine wpAnyH_ready (rs := [10]) (by kernel_rfl) (by simp) ?_
  refine AllReadyH.cons rfl (fun K hK => ?_) AllReadyH.nil
  go_simp
  go_wp2_with (go_at_call 19; refine HSd5.out.mono ?_; rintro e6 w6 ⟨rfl, hM6, hs6⟩)
  refine hK.out _ _ hs6 (fun hHeld => ?_)
  clear hK K
  try simp only [Act.put, List.setIfInBounds_toArray, List.set_cons_zero, List.set_cons_succ]
  refine take_do (i := 11) (d := 12) (v := ?_) rfl rfl (by kernel_rfl) (by kernel_rfl) (by kernel_rfl) (fun _ _ _ h => h) rfl ?_ (by assumption) ?_
  rotate_left
  · intro W hSw
    try dsimp only at hSw
    go_simp
    try with_reducible rfl
  try simp only [List.setIfInBounds_toArray, List.set_cons_zero, List.set_cons_succ]
  refine wpAnyH_done (by kernel_rfl) ?_ _
  clear hs6 HSd5 c0 c1 c2 c3 c4 c5 cf cl hHeld
  have H6 := hide (hM6.out.go (bel_drew w6))
  obtain ⟨d0, d1, d2, d3, d4, d5, df, dl⟩ := hM6.out.facts
  rw [HSo.out] at d2
  have HTg := hide (tags_any N w6.drew (by omega))
  have d4d : w6.drew.cell? ⟨k, 4, none⟩ = some (.int .i64 (N : Int)) := d4
  have d2d : w6.drew.cell? ⟨k, 2, none⟩ = some (.slice ao O.length co) := d2
  clear hM6
  go_wp2
  refine wp_region_Z (S := (fun W => W.cell? ⟨k, 4, none⟩ = some (.int .i64 (N : Int)))) (C := (fun z W => z = 13 → W.cell? ⟨k, 2, none⟩ = some (.slice ao O.length co))) (by kernel_rfl) (kept_of _ _ d4d d2d) (fun hHeld => ?_)
  refine Z_take (i := 0) (d := 92) (v := ?_) (Zs := []) rfl rfl (by kernel_rfl) (by kernel_rfl) (by kernel_rfl) (fun _ _ _ h => h) (fun _ h => absurd h (by decide)) (by kernel_rfl) rfl ?_ (kept_of _ _ d4d d2d) ?_
  rotate_left
  · intro W hSw hC
    try dsimp only at hSw
    go_simp
    try with_reducible rfl
  try simp only [List.setIfInBounds_toArray, List.set_cons_zero, List.set_cons_succ]
  refine Z_take (i := 1) (d := 93) (v := ?_) (Zs := []) rfl rfl (by kernel_rfl) (by kernel_rfl) (by kernel_rfl) (fun _ _ _ h => h) (fun _ h => absurd h (by decide)) (by kernel_rfl) rfl ?_ (kept_of _ _ d4d d2d) ?_
  rotate_left
  · intro W hSw hC
    try dsimp only at hSw
    go_simp
    try with_reducible rfl
  try simp only [List.setIfInBounds_toArray, List.set_cons_zero, List.set_cons_succ]
  refine Z_take (i := 2) (d := 94) (v := ?_) (Zs := []) rfl rfl (by kernel_rfl) (by kernel_rfl) (by kernel_rfl) (fun _ _ _ h => h) (fun _ h => absurd h (by decide)) (by kernel_rfl) rfl ?_ (kept_of _ _ d4d d2d) ?_
  rotate_left
  · intro W hSw hC
    try dsimp only at hSw
    go_simp
    try with_reducible rfl
  try simp only [List.setIfInBounds_toArray, List.set_cons_zero, List.set_cons_succ]
  refine Z_take (i := 3) (d := 95) (v := ?_) (Zs := []) rfl rfl (by kernel_rfl) (by kernel_rfl) (by kernel_rfl) (fun _ _ _ h => h) (fun _ h => absurd h (by decide)) (by kernel_rfl) rfl ?_ (kept_of _ _ d4d d2d) ?_
  rotate_left
  · intro W hSw hC
    try dsimp only at hSw
    go_simp
    try with_reducible rfl
  try simp only [List.setIfInBounds_toArray, List.set_cons_zero, List.set_cons_succ]
  refine Z_take (i := 4) (d := 96) (v := ?_) (Zs := [13]) rfl rfl (by kernel_rfl) (by kernel_rfl) (by kernel_rfl) (fun _ _ _ h => h) (fun _ h => absurd h (by decide)) (by kernel_rfl) rfl ?_ (kept_of _ _ d4d d2d) ?_
  rotate_left
  · intro W hSw hC
    have hC13 := hC 13 (by simp) rfl; try dsimp only at hSw
    go_simp
    try with_reducible rfl
  try simp only [List.setIfInBounds_toArray, List.set_cons_zero, List.set_cons_succ]
  refine Z_take (i := 5) (d := 97) (v := ?_) (Zs := []) rfl rfl (by kernel_rfl) (by kernel_rfl) (by kernel_rfl) (fun _ _ _ h => h) (fun _ h => absurd h (by decide)) (by kernel_rfl) rfl ?_ (kept_of _ _ d4d d2d) ?_
  rotate_left
  · intro W hSw hC
    try dsimp only at hSw
    go_simp
    try with_reducible rfl
  try simp only [List.setIfInBounds_toArray, List.set_cons_zero, List.set_cons_succ]
  refine Z_take (i := 6) (d := 98) (v := ?_) (Zs := []) rfl rfl (by kernel_rfl) (by kernel_rfl) (by kernel_rfl) (fun _ _ _ h => h) (fun _ h => absurd h (by decide)) (by kernel_rfl) rfl ?_ (kept_of _ _ d4d d2d) ?_
  rotate_left
  · intro W hSw hC
    try dsimp only at hSw
    go_simp
    try with_reducible rfl
  try simp only [List.setIfInBounds_toArray, List.set_cons_zero, List.set_cons_succ]
  refine Z_take (i := 7) (d := 99) (v := ?_) (Zs := []) rfl rfl (by kernel_rfl) (by kernel_rfl) (by kernel_rfl) (fun _ _ _ h => h) (fun _ h => absurd h (by decide)) (by kernel_rfl) rfl ?_ (kept_of _ _ d4d d2d) ?_
  rotate_left
  · intro W hSw hC
    try dsimp only at hSw
    go_simp
    try with_reducible rfl
  try simp only [List.setIfInBounds_toArray, List.set_cons_zero, List.set_cons_succ]
  refine Z_take (i := 8) (d := 100) (v := ?_) (Zs := []) rfl rfl (by kernel_rfl) (by kernel_rfl) (by kernel_rfl) (fun _ _ _ h => h) (fun _ h => absurd h (by decide)) (by kernel_rfl) rfl ?_ (kept_of _ _ d4d d2d) ?_
  rotate_left
  · intro W hSw hC
    try dsimp only at hSw
    go_simp
    try with_reducible rfl
  try simp only [List.setIfInBounds_toArray, List.set_cons_zero, List.set_cons_succ]
  refine Z_take (i := 10) (d := 102) (v := ?_) (Zs := []) rfl rfl (by kernel_rfl) (by kernel_rfl) (by kernel_rfl) (fun _ _ _ h => h) (fun _ h => absurd h (by decide)) (by kernel_rfl) rfl ?_ (kept_of _ _ d4d d2d) ?_
  rotate_left
  · intro W hSw hC
    try dsimp only at hSw
    go_simp
    try with_reducible rfl
  try simp only [List.setIfInBounds_toArray, List.set_cons_zero, List.set_cons_succ]
  refine wpAnyZ_ready (rs := [9]) (by kernel_rfl) (by simp) ?_
  refine AllReadyZ.cons rfl (fun K hK => ?_) AllReadyZ.nil
  go_simp
  go_wp2_with (go_at_call 27; refine HTg.out.mono ?_; rintro e7 w7 ⟨rfl, hb7⟩)
  have H7 := hide (H6.out.go hb7)
  have d47 : w7.cell? ⟨k, 4, none⟩ = some (.int .i64 (N : Int)) := H7.out.facts.2.2.2.2.1
  have d27 : w7.cell? ⟨k, 2, none⟩ = some (.slice ao O.length co) := H7.out.facts.2.2.1.trans (congrArg some HSo.out)
  refine hK.out _ _ (kept_of _ _ d47 d27) (fun hHeld => ?_)
  clear hK K hHeld hb7 d4d d2d d0 d1 d2 d3 d4 d5 df dl HTg H6
  try simp only [Act.put, List.setIfInBounds_toArray, List.set_cons_zero, List.set_cons_succ]
  refine Z_take (i := 11) (d := 103) (v := .agg ⟨(⟨1, none, 0, tagB N, false⟩ : Itm).enc⟩) (Zs := []) rfl rfl (by kernel_rfl) (by kernel_rfl) (by kernel_rfl) (fun _ _ _ h => h) (fun _ h => absurd h (by decide)) (by kernel_rfl) rfl ?_ (kept_of _ _ d47 d27) ?_
  · intro W hSw hC
    exact built_run W 86 _ _ (by kernel_rfl)
  try simp only [List.setIfInBounds_toArray, List.set_cons_zero, List.set_cons_succ]
  refine wpAnyZ_ready (rs := [12]) (by kernel_rfl) (by simp) ?_
  refine AllReadyZ.cons rfl (fun K hK => ?_) AllReadyZ.nil
  rw [if_pos (by kernel_rfl)]
  refine wp_build_one itOk (.tmp 103) rfl ⟨1, none, 0, tagB N, false⟩ rfl ?_
  obtain ⟨y0, y1, y2, y3, y4, y5, yf, yl⟩ := H7.out.facts
  have ya : ∀ (o : Obj) (q : Nat), (w7.alloc o).cell? ⟨k, q, none⟩ = w7.cell? ⟨k, q, none⟩ := fun o q => World.cell?_alloc_lt w7 o ⟨k, q, none⟩ yl
  refine hK.out _ _ (kept_of _ _ ((ya _ 4).trans y4) ((ya _ 2).trans (y2.trans (congrArg some HSo.out)))) (fun hHeld => ?_)
  clear hK K hHeld
  try simp only [Act.put, List.setIfInBounds_toArray, List.set_cons_zero, List.set_cons_succ]
  refine wpAnyZ_ready (rs := [13]) (by kernel_rfl) (by simp) ?_
  refine AllReadyZ.cons rfl (fun K hK => ?_) AllReadyZ.nil
  rw [if_pos (by kernel_rfl)]
  refine wp_append_way itOk _ (.tmp 96) (.tmp 104) rfl z vO O ⟨1, none, 0, tagB N, false⟩ HSo.out.symm (H7.out.wo.at fun q e => Below.heap_alloc _ _ _ (H7.out.wo.lt e).2) w7.heap.size 1 rfl (heap_alloc_last w7 _) (by have := H7.out.zz; show z ≤ (w7.alloc _).heap.size; simp; exact Nat.le_trans this (Nat.le_succ _)) HOl.out ?_
  intro v' w4 ho hg hat
  obtain ⟨a', n', c', hv'⟩ : ∃ a' n' c', v' = Value.slice a' n' c' := by obtain ⟨a1, c1, e1⟩ := ho.shape; exact ⟨a1, _, c1, e1⟩
  subst hv'
  have hp4 := H7.out.pushO ho hg hat
  have za : ∀ q, w4.cell? ⟨k, q, none⟩ = w7.cell? ⟨k, q, none⟩ := fun q => World.cell?_of_block (a := ⟨k, q, none⟩) hp4.2.1
  have z1 : w4.cell? ⟨k, 2, none⟩ = some _ := (za 2).trans (y2.trans (congrArg some HSo.out))
  have z2 : ∀ o, w4.frozen? ⟨k, o, none⟩ = false := fun o => (World.frozen?_of_block (a := ⟨k, o, none⟩) hp4.2.1).trans (yf o)
  have z3 : k < w4.heap.size := Nat.lt_trans yl hp4.2.2
  obtain ⟨x0, x1, x2, x3, x4, x5, xf, xl⟩ := hp4.1.facts
  refine hK.out _ _ (kept_of _ _ ((za 4).trans y4) z1) (fun hHeld => ?_)
  have HP4 := hide hp4.1
  clear hK K hp4 ho hg hat hHeld ya
  try simp only [Act.put, List.setIfInBounds_toArray, List.set_cons_zero, List.set_cons_succ]
  refine Z_take (i := 14) (d := 106) (v := ?_) (Zs := []) rfl rfl (by kernel_rfl) (by kernel_rfl) (by kernel_rfl) (fun _ _ _ h => h) (fun _ h => absurd h (by decide)) (by kernel_rfl) rfl ?_ (kept_of _ _ ((za 4).trans y4) z1) ?_
  rotate_left
  · intro W hSw hC
    try dsimp only at hSw
    go_simp
    try with_reducible rfl
  try simp only [List.setIfInBounds_toArray, List.set_cons_zero, List.set_cons_succ]
  refine Z_take (i := 15) (d := 107) (v := ?_) (Zs := []) rfl rfl (by kernel_rfl) (by kernel_rfl) (by kernel_rfl) (fun _ _ _ h => h) (fun _ h => absurd h (by decide)) (by kernel_rfl) rfl ?_ (kept_of _ _ ((za 4).trans y4) z1) ?_
  rotate_left
  · intro W hSw hC
    try dsimp only at hSw
    go_simp
    try with_reducible rfl
  try simp only [List.setIfInBounds_toArray, List.set_cons_zero, List.set_cons_succ]
  refine wpAnyZ_ready (rs := [16]) (by kernel_rfl) (by simp) ?_
  refine AllReadyZ.cons rfl (fun K hK => ?_) AllReadyZ.nil
  go_simp
  try go_wp2
  refine hK.out _ _ ⟨x4, fun q hq e => by subst e; exact absurd (show (true : Bool) = false from hq) (by decide)⟩ (fun hHeld => ?_)
  clear hK K hHeld
  try simp only [Act.put, List.setIfInBounds_toArray, List.set_cons_zero, List.set_cons_succ]
  refine wpAnyZ_done (by kernel_rfl) ?_ _
  have HI : Hid (∃ N', TurnI z w0 k gs gr N' (M + 1) sec 0 n0 ((w4.setCell ⟨k, 2, none⟩ (.slice a' n' c')).setCell ⟨k, 4, none⟩ (.int .i64 ((N : Int) + 1)))) := ⟨N + 1, _, r, _, Tr, _, vB, vG, _, B, G, _, p, L, a, b, (by have h9 := HP4.out.num (N + 1); push_cast at h9; exact h9), HAl.out⟩
  have z4 : w4.cell? ⟨k, 4, none⟩ = some (.int .i64 (N : Int)) := (za 4).trans y4
  go_wp2
  go_ret
  exact ⟨rfl, HI.out⟩
set_option maxRecDepth 100000 in
set_option maxHeartbeats 16000000 in
theorem turn_1d (kd n : Int) (f : Bool) (w : World) (hp : Pm z w0 w k gs gr N s r Ts Tr vO vB vG O B G) (ha : Al sec 2 N M n0 e p L a b s r Ts Tr O B G) (hM : M ≤ 999999999) (hk : qk kd = 1) (hf : f = false) (hc : 0 < s.cr) :
    Calls Try.prog 7 #[.pointer (some ⟨k, 0, none⟩), .agg (tnA kd n f), .bool sec, .int .i64 2] w fun e1 w' => e1 = .returned (.bool true) ∧ ∃ N', TurnI z w0 k gs gr N' (M + 1) sec 2 n0 w' := by
  subst hf
  unfold tnA
  have hlow := qk_low kd
  obtain ⟨V, hV⟩ : ∃ V, w.alloc (.cells #[.int .i64 kd, .int .i64 n, .bool false] 35) = V := ⟨_, rfl⟩
  have hbV : Below w.heap.size w V := hV ▸ bel1 (Below.refl _ _) (Nat.le_refl _) _
  have hV0 := hp.go hbV
  have hbx : V.heap[w.heap.size]? = some (.cells #[.int .i64 kd, .int .i64 n, .bool false] 35 (0, 0)) := hV ▸ heap_alloc_last w _
  have bl : w.heap.size < V.heap.size := (Array.getElem?_eq_some_iff.1 hbx).1
  have b0 : V.cell? ⟨w.heap.size, 0, none⟩ = some (.int .i64 kd) := cellOf hbx 0 _ rfl
  have b1 : V.cell? ⟨w.heap.size, 1, none⟩ = some (.int .i64 n) := cellOf hbx 1 _ rfl
  have b2 : V.cell? ⟨w.heap.size, 2, none⟩ = some (.bool false) := cellOf hbx 2 _ rfl
  obtain ⟨c0, c1, c2, c3, c4, c5, cf, cl⟩ := hV0.facts
  have tbx : tyB V w.heap.size = some 35 := ty_cells hbx
  have tgs : tyB V gs = some 84 := ty_cells hV0.ls.lb
  have tgr : tyB V gr = some 84 := ty_cells hV0.lr.lb
  have tds : tyB V s.dm = none := hV0.ls.tb.ty
  have tdr : tyB V r.dm = none := hV0.lr.tb.ty
  have HV := hide hV
  have H0 := hide hV0
  unfold qk at hk
  have hNb : N ≤ 999999999 := Nat.le_trans ha.ln hM
  have hNi : (N : Int) ≤ 999999999 := by omega
  have hkg : k ≠ gs := ne_ty hV0.ty tgs (by decide)
  have hkm : k ≠ s.dm := ne_ty hV0.ty tds (by decide)
  have HSee := hide (see_any gs s Ts V hV0.ls)
  unfold Lk.see at HSee
  obtain ⟨cr, hcr⟩ : ∃ cr, cr = s.cr := ⟨_, rfl⟩
  rw [← hcr] at HSee
  have hcp : 0 < cr := by omega
  have hfr := ha.tg.fresh (by omega)
  have HSd : Hid (∀ W, Pm z w0 W k gs gr N s r Ts Tr vO vB vG O B G → Calls Try.prog 19 #[.pointer (some ⟨gs, 0, none⟩), .string (tagB N), .bool false] W fun e1 w3 => e1 = .returned (.int .i64 0) ∧ Hid (Pm z w0 w3 k gs gr N s.one r ((tagB N, dv0) :: Ts) Tr vO vB vG O B G) ∧ (w3.cell? ⟨k, 0, none⟩ = some (.pointer (some ⟨gs, 0, none⟩)) ∧ w3.cell? ⟨k, 4, none⟩ = some (.int .i64 (N : Int)))) := fun W hW =>
    (send_open gs s Ts (tagB N) W hW.ls ha.lf.sr hc (by rw [tagB_size]; decide) (by rw [tagB_size]; decide) (hasK_not.2 hfr.1) (by rw [ha.lf.sm]; decide) ha.ag.scb (by rw [ha.lf.sa]; decide) (by rw [ha.lf.sa]; decide) (by have := ha.tg.lt; unfold maxLen; omega)).mono fun e1 w3 ⟨e2, s1, k1⟩ => have hq := hW.sender s1 rfl k1; ⟨e2, hq, hq.facts.1, hq.facts.2.2.2.2.1⟩
  have HAl := hide (ha.sendO hc (by omega) (by decide))
  obtain ⟨ao, co, hso⟩ := hp.wo.shape
  have HSo := hide hso
  have HOl : Hid (O.length ≤ 1000000000) := by show _ ≤ _; have := ha.lo; omega
  clear hp ha hV hV0 hbx hbV tbx tgs tgr tds tdr hc hcr hfr hkg hkm hso hM hNb
  go_enter Try.func7, Try.ntmps7
  go_wp2_with (first | rw [HV.out] | (go_at_call 9; refine HSee.out.mono ?_; rintro e2 w2 ⟨rfl, hb2⟩; refine Shut.out ?_))
  unfold Shut
  have h2 := H0.out.go hb2
  have H2 := hide (h2.go (bel_drew w2))
  clear HSee hb2 b0 b1 b2 bl c0 c1 c2 c3 c4 c5 cf cl H0 HV
  obtain ⟨c0, c1, c2, c3, c4, c5, cf, cl⟩ := h2.facts
  have HS2 : Hid (w2.drew.cell? ⟨k, 0, none⟩ = some (.pointer (some ⟨gs, 0, none⟩)) ∧ w2.drew.cell? ⟨k, 4, none⟩ = some (.int .i64 (N : Int))) := ⟨c0, c4⟩
  have HTg := hide (tags_any N w2.drew (by omega))
  clear h2
  have hrs := run_seeCr
  go_wp2
  clear hrs
  refine wp_region_held_drew (S := fun W => W.cell? ⟨k, 0, none⟩ = some (.pointer (some ⟨gs, 0, none⟩)) ∧ W.cell? ⟨k, 4, none⟩ = some (.int .i64 (N : Int))) (by kernel_rfl) HS2.out (fun hHeld => ?_)
  refine take_do (i := 0) (d := 74) (v := ?_) rfl rfl (by kernel_rfl) (by kernel_rfl) (by kernel_rfl) (fun _ _ _ h => h) rfl ?_ (by assumption) ?_
  rotate_left
  · intro W hSw
    try dsimp only at hSw
    go_simp
    try with_reducible rfl
  try simp only [List.setIfInBounds_toArray, List.set_cons_zero, List.set_cons_succ]
  refine take_do (i := 1) (d := 75) (v := ?_) rfl rfl (by kernel_rfl) (by kernel_rfl) (by kernel_rfl) (fun _ _ _ h => h) rfl ?_ (by assumption) ?_
  rotate_left
  · intro W hSw
    try dsimp only at hSw
    go_simp
    try with_reducible rfl
  try simp only [List.setIfInBounds_toArray, List.set_cons_zero, List.set_cons_succ]
  refine take_do (i := 2) (d := 76) (v := ?_) rfl rfl (by kernel_rfl) (by kernel_rfl) (by kernel_rfl) (fun _ _ _ h => h) rfl ?_ (by assumption) ?_
  rotate_left
  · intro W hSw
    try dsimp only at hSw
    go_simp
    try with_reducible rfl
  try simp only [List.setIfInBounds_toArray, List.set_cons_zero, List.set_cons_succ]
  refine take_do (i := 3) (d := 77) (v := ?_) rfl rfl (by kernel_rfl) (by kernel_rfl) (by kernel_rfl) (fun _ _ _ h => h) rfl ?_ (by assumption) ?_
  rotate_left
  · intro W hSw
    try dsimp only at hSw
    go_simp
    try with_reducible rfl
  try simp only [List.setIfInBounds_toArray, List.set_cons_zero, List.set_cons_succ]
  refine take_do (i := 4) (d := 78) (v := ?_) rfl rfl (by kernel_rfl) (by kernel_rfl) (by kernel_rfl) (fun _ _ _ h => h) rfl ?_ (by assumption) ?_
  rotate_left
  · intro W hSw
    try dsimp only at hSw
    go_simp
    try with_reducible rfl
  try simp only [List.setIfInBounds_toArray, List.set_cons_zero, List.set_cons_succ]
  refine take_do (i := 5) (d := 79) (v := ?_) rfl rfl (by kernel_rfl) (by kernel_rfl) (by kernel_rfl) (fun _ _ _ h => h) rfl ?_ (by assumption) ?_
  rotate_left
  · intro W hSw
    try dsimp only at hSw
    go_simp
    try with_reducible rfl
  try simp only [List.setIfInBounds_toArray, List.set_cons_zero, List.set_cons_succ]
  refine take_do (i := 6) (d := 80) (v := ?_) rfl rfl (by kernel_rfl) (by kernel_rfl) (by kernel_rfl) (fun _ _ _ h => h) rfl ?_ (by assumption) ?_
  rotate_left
  · intro W hSw
    try dsimp only at hSw
    go_simp
    try with_reducible rfl
  try simp only [List.setIfInBounds_toArray, List.set_cons_zero, List.set_cons_succ]
  refine take_do (i := 7) (d := 81) (v := ?_) rfl rfl (by kernel_rfl) (by kernel_rfl) (by kernel_rfl) (fun _ _ _ h => h) rfl ?_ (by assumption) ?_
  rotate_left
  · intro W hSw
    try dsimp only at hSw
    go_simp
    try with_reducible rfl
  try simp only [List.setIfInBounds_toArray, List.set_cons_zero, List.set_cons_succ]
  refine take_do (i := 9) (d := 83) (v := ?_) rfl rfl (by kernel_rfl) (by kernel_rfl) (by kernel_rfl) (fun _ _ _ h => h) rfl ?_ (by assumption) ?_
  rotate_left
  · intro W hSw
    try dsimp only at hSw
    go_simp
    try with_reducible rfl
  try simp only [List.setIfInBounds_toArray, List.set_cons_zero, List.set_cons_succ]
  refine wpAnyH_ready (rs := [8]) (by kernel_rfl) (by simp) ?_
  refine AllReadyH.cons rfl (fun K hK => ?_) AllReadyH.nil
  go_simp
  go_wp2_with (go_at_call 27; refine HTg.out.mono ?_; rintro e5 w5 ⟨rfl, hb5⟩)
  have h5 := H2.out.go hb5
  have HSd5 := hide (HSd.out w5 h5)
  refine hK.out _ _ ⟨h5.facts.1, h5.facts.2.2.2.2.1⟩ (fun hHeld => ?_)
  clear hK K hb5 HTg HSd h5 H2 HS2
  try simp only [Act.put, List.setIfInBounds_toArray, List.set_cons_zero, List.set_cons_succ]
  refine wpAnyH_ready (rs := [10]) (by kernel_rfl) (by simp) ?_
  refine AllReadyH.cons rfl (fun K hK => ?_) AllReadyH.nil
  go_simp
  go_wp2_with (go_at_call 19; refine HSd5.out.mono ?_; rintro e6 w6 ⟨rfl, hM6, hs6⟩)
  refine hK.out _ _ hs6 (fun hHeld => ?_)
  clear hK K
  try simp only [Act.put, List.setIfInBounds_toArray, List.set_cons_zero, List.set_cons_succ]
  refine take_do (i := 11) (d := 12) (v := ?_) rfl rfl (by kernel_rfl) (by kernel_rfl) (by kernel_rfl) (fun _ _ _ h => h) rfl ?_ (by assumption) ?_
  rotate_left
  · intro W hSw
    try dsimp only at hSw
    go_simp
    try with_reducible rfl
  try simp only [List.setIfInBounds_toArray, List.set_cons_zero, List.set_cons_succ]
  refine wpAnyH_done (by kernel_rfl) ?_ _
  clear hs6 HSd5 c0 c1 c2 c3 c4 c5 cf cl hHeld
  have H6 := hide (hM6.out.go (bel_drew w6))
  obtain ⟨d0, d1, d2, d3, d4, d5, df, dl⟩ := hM6.out.facts
  rw [HSo.out] at d2
  have HTg := hide (tags_any N w6.drew (by omega))
  have d4d : w6.drew.cell? ⟨k, 4, none⟩ = some (.int .i64 (N : Int)) := d4
  have d2d : w6.drew.cell? ⟨k, 2, none⟩ = some (.slice ao O.length co) := d2
  clear hM6
  go_wp2
  refine wp_region_Z (S := (fun W => W.cell? ⟨k, 4, none⟩ = some (.int .i64 (N : Int)))) (C := (fun z W => z = 13 → W.cell? ⟨k, 2, none⟩ = some (.slice ao O.length co))) (by kernel_rfl) (kept_of _ _ d4d d2d) (fun hHeld => ?_)
  refine Z_take (i := 0) (d := 92) (v := ?_) (Zs := []) rfl rfl (by kernel_rfl) (by kernel_rfl) (by kernel_rfl) (fun _ _ _ h => h) (fun _ h => absurd h (by decide)) (by kernel_rfl) rfl ?_ (kept_of _ _ d4d d2d) ?_
  rotate_left
  · intro W hSw hC
    try dsimp only at hSw
    go_simp
    try with_reducible rfl
  try simp only [List.setIfInBounds_toArray, List.set_cons_zero, List.set_cons_succ]
  refine Z_take (i := 1) (d := 93) (v := ?_) (Zs := []) rfl rfl (by kernel_rfl) (by kernel_rfl) (by kernel_rfl) (fun _ _ _ h => h) (fun _ h => absurd h (by decide)) (by kernel_rfl) rfl ?_ (kept_of _ _ d4d d2d) ?_
  rotate_left
  · intro W hSw hC
    try dsimp only at hSw
    go_simp
    try with_reducible rfl
  try simp only [List.setIfInBounds_toArray, List.set_cons_zero, List.set_cons_succ]
  refine Z_take (i := 2) (d := 94) (v := ?_) (Zs := []) rfl rfl (by kernel_rfl) (by kernel_rfl) (by kernel_rfl) (fun _ _ _ h => h) (fun _ h => absurd h (by decide)) (by kernel_rfl) rfl ?_ (kept_of _ _ d4d d2d) ?_
  rotate_left
  · intro W hSw hC
    try dsimp only at hSw
    go_simp
    try with_reducible rfl
  try simp only [List.setIfInBounds_toArray, List.set_cons_zero, List.set_cons_succ]
  refine Z_take (i := 3) (d := 95) (v := ?_) (Zs := []) rfl rfl (by kernel_rfl) (by kernel_rfl) (by kernel_rfl) (fun _ _ _ h => h) (fun _ h => absurd h (by decide)) (by kernel_rfl) rfl ?_ (kept_of _ _ d4d d2d) ?_
  rotate_left
  · intro W hSw hC
    try dsimp only at hSw
    go_simp
    try with_reducible rfl
  try simp only [List.setIfInBounds_toArray, List.set_cons_zero, List.set_cons_succ]
  refine Z_take (i := 4) (d := 96) (v := ?_) (Zs := [13]) rfl rfl (by kernel_rfl) (by kernel_rfl) (by kernel_rfl) (fun _ _ _ h => h) (fun _ h => absurd h (by decide)) (by kernel_rfl) rfl ?_ (kept_of _ _ d4d d2d) ?_
  rotate_left
  · intro W hSw hC
    have hC13 := hC 13 (by simp) rfl; try dsimp only at hSw
    go_simp
    try with_reducible rfl
  try simp only [List.setIfInBounds_toArray, List.set_cons_zero, List.set_cons_succ]
  refine Z_take (i := 5) (d := 97) (v := ?_) (Zs := []) rfl rfl (by kernel_rfl) (by kernel_rfl) (by kernel_rfl) (fun _ _ _ h => h) (fun _ h => absurd h (by decide)) (by kernel_rfl) rfl ?_ (kept_of _ _ d4d d2d) ?_
  rotate_left
  · intro W hSw hC
    try dsimp only at hSw
    go_simp
    try with_reducible rfl
  try simp only [List.setIfInBounds_toArray, List.set_cons_zero, List.set_cons_succ]
  refine Z_take (i := 6) (d := 98) (v := ?_) (Zs := []) rfl rfl (by kernel_rfl) (by kernel_rfl) (by kernel_rfl) (fun _ _ _ h => h) (fun _ h => absurd h (by decide)) (by kernel_rfl) rfl ?_ (kept_of _ _ d4d d2d) ?_
  rotate_left
  · intro W hSw hC
    try dsimp only at hSw
    go_simp
    try with_reducible rfl
  try simp only [List.setIfInBounds_toArray, List.set_cons_zero, List.set_cons_succ]
  refine Z_take (i := 7) (d := 99) (v := ?_) (Zs := []) rfl rfl (by kernel_rfl) (by kernel_rfl) (by kernel_rfl) (fun _ _ _ h => h) (fun _ h => absurd h (by decide)) (by kernel_rfl) rfl ?_ (kept_of _ _ d4d d2d) ?_
  rotate_left
  · intro W hSw hC
    try dsimp only at hSw
    go_simp
    try with_reducible rfl
  try simp only [List.setIfInBounds_toArray, List.set_cons_zero, List.set_cons_succ]
  refine Z_take (i := 8) (d := 100) (v := ?_) (Zs := []) rfl rfl (by kernel_rfl) (by kernel_rfl) (by kernel_rfl) (fun _ _ _ h => h) (fun _ h => absurd h (by decide)) (by kernel_rfl) rfl ?_ (kept_of _ _ d4d d2d) ?_
  rotate_left
  · intro W hSw hC
    try dsimp only at hSw
    go_simp
    try with_reducible rfl
  try simp only [List.setIfInBounds_toArray, List.set_cons_zero, List.set_cons_succ]
  refine Z_take (i := 10) (d := 102) (v := ?_) (Zs := []) rfl rfl (by kernel_rfl) (by kernel_rfl) (by kernel_rfl) (fun _ _ _ h => h) (fun _ h => absurd h (by decide)) (by kernel_rfl) rfl ?_ (kept_of _ _ d4d d2d) ?_
  rotate_left
  · intro W hSw hC
    try dsimp only at hSw
    go_simp
    try with_reducible rfl
  try simp only [List.setIfInBounds_toArray, List.set_cons_zero, List.set_cons_succ]
  refine wpAnyZ_ready (rs := [9]) (by kernel_rfl) (by simp) ?_
  refine AllReadyZ.cons rfl (fun K hK => ?_) AllReadyZ.nil
  go_simp
  go_wp2_with (go_at_call 27; refine HTg.out.mono ?_; rintro e7 w7 ⟨rfl, hb7⟩)
  have H7 := hide (H6.out.go hb7)
  have d47 : w7.cell? ⟨k, 4, none⟩ = some (.int .i64 (N : Int)) := H7.out.facts.2.2.2.2.1
  have d27 : w7.cell? ⟨k, 2, none⟩ = some (.slice ao O.length co) := H7.out.facts.2.2.1.trans (congrArg some HSo.out)
  refine hK.out _ _ (kept_of _ _ d47 d27) (fun hHeld => ?_)
  clear hK K hHeld hb7 d4d d2d d0 d1 d2 d3 d4 d5 df dl HTg H6
  try simp only [Act.put, List.setIfInBounds_toArray, List.set_cons_zero, List.set_cons_succ]
  refine Z_take (i := 11) (d := 103) (v := .agg ⟨(⟨1, none, 0, tagB N, false⟩ : Itm).enc⟩) (Zs := []) rfl rfl (by kernel_rfl) (by kernel_rfl) (by kernel_rfl) (fun _ _ _ h => h) (fun _ h => absurd h (by decide)) (by kernel_rfl) rfl ?_ (kept_of _ _ d47 d27) ?_
  · intro W hSw hC
    exact built_run W 86 _ _ (by kernel_rfl)
  try simp only [List.setIfInBounds_toArray, List.set_cons_zero, List.set_cons_succ]
  refine wpAnyZ_ready (rs := [12]) (by kernel_rfl) (by simp) ?_
  refine AllReadyZ.cons rfl (fun K hK => ?_) AllReadyZ.nil
  rw [if_pos (by kernel_rfl)]
  refine wp_build_one itOk (.tmp 103) rfl ⟨1, none, 0, tagB N, false⟩ rfl ?_
  obtain ⟨y0, y1, y2, y3, y4, y5, yf, yl⟩ := H7.out.facts
  have ya : ∀ (o : Obj) (q : Nat), (w7.alloc o).cell? ⟨k, q, none⟩ = w7.cell? ⟨k, q, none⟩ := fun o q => World.cell?_alloc_lt w7 o ⟨k, q, none⟩ yl
  refine hK.out _ _ (kept_of _ _ ((ya _ 4).trans y4) ((ya _ 2).trans (y2.trans (congrArg some HSo.out)))) (fun hHeld => ?_)
  clear hK K hHeld
  try simp only [Act.put, List.setIfInBounds_toArray, List.set_cons_zero, List.set_cons_succ]
  refine wpAnyZ_ready (rs := [13]) (by kernel_rfl) (by simp) ?_
  refine AllReadyZ.cons rfl (fun K hK => ?_) AllReadyZ.nil
  rw [if_pos (by kernel_rfl)]
  refine wp_append_way itOk _ (.tmp 96) (.tmp 104) rfl z vO O ⟨1, none, 0, tagB N, false⟩ HSo.out.symm (H7.out.wo.at fun q e => Below.heap_alloc _ _ _ (H7.out.wo.lt e).2) w7.heap.size 1 rfl (heap_alloc_last w7 _) (by have := H7.out.zz; show z ≤ (w7.alloc _).heap.size; simp; exact Nat.le_trans this (Nat.le_succ _)) HOl.out ?_
  intro v' w4 ho hg hat
  obtain ⟨a', n', c', hv'⟩ : ∃ a' n' c', v' = Value.slice a' n' c' := by obtain ⟨a1, c1, e1⟩ := ho.shape; exact ⟨a1, _, c1, e1⟩
  subst hv'
  have hp4 := H7.out.pushO ho hg hat
  have za : ∀ q, w4.cell? ⟨k, q, none⟩ = w7.cell? ⟨k, q, none⟩ := fun q => World.cell?_of_block (a := ⟨k, q, none⟩) hp4.2.1
  have z1 : w4.cell? ⟨k, 2, none⟩ = some _ := (za 2).trans (y2.trans (congrArg some HSo.out))
  have z2 : ∀ o, w4.frozen? ⟨k, o, none⟩ = false := fun o => (World.frozen?_of_block (a := ⟨k, o, none⟩) hp4.2.1).trans (yf o)
  have z3 : k < w4.heap.size := Nat.lt_trans yl hp4.2.2
  obtain ⟨x0, x1, x2, x3, x4, x5, xf, xl⟩ := hp4.1.facts
  refine hK.out _ _ (kept_of _ _ ((za 4).trans y4) z1) (fun hHeld => ?_)
  have HP4 := hide hp4.1
  clear hK K hp4 ho hg hat hHeld ya
  try simp only [Act.put, List.setIfInBounds_toArray, List.set_cons_zero, List.set_cons_succ]
  refine Z_take (i := 14) (d := 106) (v := ?_) (Zs := []) rfl rfl (by kernel_rfl) (by kernel_rfl) (by kernel_rfl) (fun _ _ _ h => h) (fun _ h => absurd h (by decide)) (by kernel_rfl) rfl ?_ (kept_of _ _ ((za 4).trans y4) z1) ?_
  rotate_left
  · intro W hSw hC
    try dsimp only at hSw
    go_simp
    try with_reducible rfl
  try simp only [List.setIfInBounds_toArray, List.set_cons_zero, List.set_cons_succ]
  refine Z_take (i := 15) (d := 107) (v := ?_) (Zs := []) rfl rfl (by kernel_rfl) (by kernel_rfl) (by kernel_rfl) (fun _ _ _ h => h) (fun _ h => absurd h (by decide)) (by kernel_rfl) rfl ?_ (kept_of _ _ ((za 4).trans y4) z1) ?_
  rotate_left
  · intro W hSw hC
    try dsimp only at hSw
    go_simp
    try with_reducible rfl
  try simp only [List.setIfInBounds_toArray, List.set_cons_zero, List.set_cons_succ]
  refine wpAnyZ_ready (rs := [16]) (by kernel_rfl) (by simp) ?_
  refine AllReadyZ.cons rfl (fun K hK => ?_) AllReadyZ.nil
  go_simp
  try go_wp2
  refine hK.out _ _ ⟨x4, fun q hq e => by subst e; exact absurd (show (true : Bool) = false from hq) (by decide)⟩ (fun hHeld => ?_)
  clear hK K hHeld
  try simp only [Act.put, List.setIfInBounds_toArray, List.set_cons_zero, List.set_cons_succ]
  refine wpAnyZ_done (by kernel_rfl) ?_ _
  have HI : Hid (∃ N', TurnI z w0 k gs gr N' (M + 1) sec 2 n0 ((w4.setCell ⟨k, 2, none⟩ (.slice a' n' c')).setCell ⟨k, 4, none⟩ (.int .i64 ((N : Int) + 1)))) := ⟨N + 1, _, r, _, Tr, _, vB, vG, _, B, G, _, p, L, a, b, (by have h9 := HP4.out.num (N + 1); push_cast at h9; exact h9), HAl.out⟩
  have z4 : w4.cell? ⟨k, 4, none⟩ = some (.int .i64 (N : Int)) := (za 4).trans y4
  go_wp2
  go_ret
  exact ⟨rfl, HI.out⟩
end
end Go.Proofs.Ytjipcdknkghoaaa
