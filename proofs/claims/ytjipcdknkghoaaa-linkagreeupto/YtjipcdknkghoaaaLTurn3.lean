
/- LinkAgree: a turn: credit is given up. -/
import Derived.Test.YtjipcdknkghoaaaLTurnM
import Derived.Deep.RegionHeld
import Derived.BigQuiet
import Derived.Deep.QuietTactic
namespace Go.Proofs.Ytjipcdknkghoaaa
open Go.RowKit Go.Maps
set_option linter.unusedVariables false
set_option linter.unusedSimpArgs false

section
variable {z : Nat} {w0 : World} {k gs gr N M : Nat} {sec : Bool} {md n0 e p L a b : Int} {s r : Lk} {Ts Tr : List (ByteArray × Dv)} {vO vB vG : Value} {O B : List Itm} {G : List ByteArray}
set_option maxRecDepth 100000 in
set_option maxHeartbeats 16000000 in
theorem turn_2n (kd n : Int) (f : Bool) (w : World) (hp : Pm z w0 w k gs gr N s r Ts Tr vO vB vG O B G) (ha : Al sec md N M n0 e p L a b s r Ts Tr O B G) (hM : M ≤ 999999999) (hk : qk kd = 2) (hd : s.dr = false ∨ s.cr = 0) :
    Calls Try.prog 7 #[.pointer (some ⟨k, 0, none⟩), .agg (tnA kd n f), .bool sec, .int .i64 md] w fun e1 w' => e1 = .returned (.bool true) ∧ ∃ N', TurnI z w0 k gs gr N' (M + 1) sec md n0 w' := by
  unfold tnA
  have hlow := qk_low kd
  obtain ⟨V, hV⟩ : ∃ V, w.alloc (.cells #[.int .i64 kd, .int .i64 n, .bool f] 35) = V := ⟨_, rfl⟩
  have hbV : Below w.heap.size w V := hV ▸ bel1 (Below.refl _ _) (Nat.le_refl _) _
  have hV0 := hp.go hbV
  have hbx : V.heap[w.heap.size]? = some (.cells #[.int .i64 kd, .int .i64 n, .bool f] 35 (0, 0)) := hV ▸ heap_alloc_last w _
  have bl : w.heap.size < V.heap.size := (Array.getElem?_eq_some_iff.1 hbx).1
  have b0 : V.cell? ⟨w.heap.size, 0, none⟩ = some (.int .i64 kd) := cellOf hbx 0 _ rfl
  have b1 : V.cell? ⟨w.heap.size, 1, none⟩ = some (.int .i64 n) := cellOf hbx 1 _ rfl
  have b2 : V.cell? ⟨w.heap.size, 2, none⟩ = some (.bool f) := cellOf hbx 2 _ rfl
  obtain ⟨c0, c1, c2, c3, c4, c5, cf, cl⟩ := hV0.facts
  have tbx : tyB V w.heap.size = some 35 := ty_cells hbx
  have tgs : tyB V gs = some 84 := ty_cells hV0.ls.lb
  have tgr : tyB V gr = some 84 := ty_cells hV0.lr.lb
  have tds : tyB V s.dm = none := hV0.ls.tb.ty
  have tdr : tyB V r.dm = none := hV0.lr.tb.ty
  have HV := hide hV
  have H0 := hide hV0
  unfold qk at hk
  have HD := hide (drained_no gs s V hV0.ls.lb ha.lf.sr hd)
  have HA := hide ha
  clear hp ha hV hV0 hbx hbV tbx tgs tgr tds tdr hd
  go_enter Try.func7, Try.ntmps7
  go_wp2_with (first | rw [HV.out] | (go_at_call 28; refine HD.out.mono ?_; rintro e2 w2 ⟨rfl, rfl⟩))
  go_ret
  exact ⟨rfl, N, s, r, Ts, Tr, vO, vB, vG, O, B, G, e, p, L, a, b, H0.out, HA.out.more (by omega)⟩
set_option maxRecDepth 100000 in
set_option maxHeartbeats 16000000 in
theorem turn_2y (kd n : Int) (f : Bool) (w : World) (hp : Pm z w0 w k gs gr N s r Ts Tr vO vB vG O B G) (ha : Al sec md N M n0 e p L a b s r Ts Tr O B G) (hM : M ≤ 999999999) (hk : qk kd = 2) (hd : s.dr = true) (hc : 0 < s.cr) :
    Calls Try.prog 7 #[.pointer (some ⟨k, 0, none⟩), .agg (tnA kd n f), .bool sec, .int .i64 md] w fun e1 w' => e1 = .returned (.bool true) ∧ ∃ N', TurnI z w0 k gs gr N' (M + 1) sec md n0 w' := by
  unfold tnA
  have hlow := qk_low kd
  obtain ⟨V, hV⟩ : ∃ V, w.alloc (.cells #[.int .i64 kd, .int .i64 n, .bool f] 35) = V := ⟨_, rfl⟩
  have hbV : Below w.heap.size w V := hV ▸ bel1 (Below.refl _ _) (Nat.le_refl _) _
  have hV0 := hp.go hbV
  have hbx : V.heap[w.heap.size]? = some (.cells #[.int .i64 kd, .int .i64 n, .bool f] 35 (0, 0)) := hV ▸ heap_alloc_last w _
  have bl : w.heap.size < V.heap.size := (Array.getElem?_eq_some_iff.1 hbx).1
  have b0 : V.cell? ⟨w.heap.size, 0, none⟩ = some (.int .i64 kd) := cellOf hbx 0 _ rfl
  have b1 : V.cell? ⟨w.heap.size, 1, none⟩ = some (.int .i64 n) := cellOf hbx 1 _ rfl
  have b2 : V.cell? ⟨w.heap.size, 2, none⟩ = some (.bool f) := cellOf hbx 2 _ rfl
  obtain ⟨c0, c1, c2, c3, c4, c5, cf, cl⟩ := hV0.facts
  have tbx : tyB V w.heap.size = some 35 := ty_cells hbx
  have tgs : tyB V gs = some 84 := ty_cells hV0.ls.lb
  have tgr : tyB V gr = some 84 := ty_cells hV0.lr.lb
  have tds : tyB V s.dm = none := hV0.ls.tb.ty
  have tdr : tyB V r.dm = none := hV0.lr.tb.ty
  have HV := hide hV
  have H0 := hide hV0
  unfold qk at hk
  have HD := hide (drained_yes gs s V hV0.ls.lb ha.lf.sr hd ⟨hc, ha.ag.scb.2⟩)
  have HAl := hide (ha.drain hc)
  obtain ⟨ao, co, hso⟩ := hp.wo.shape
  have HSo := hide hso
  have HOl : Hid (O.length ≤ 1000000000) := by show _ ≤ _; have := ha.lo; omega
  obtain ⟨s', hs'⟩ : ∃ s', s' = s.on s.cr := ⟨_, rfl⟩
  rw [← hs'] at HD HAl
  have hdm : s'.dm = s.dm := by rw [hs']; rfl
  clear hp ha hV hV0 hbx hbV tbx tgs tgr tds tdr hd hc hso hs'
  go_enter Try.func7, Try.ntmps7
  go_wp2_with (first | rw [HV.out] | (go_at_call 28; refine HD.out.mono ?_; rintro e2 w3 ⟨rfl, hl3, hk3⟩; refine Shut.out ?_))
  unfold Shut
  have h3 := H0.out.sender (H0.out.ls.turn hl3 hdm hk3) hdm (kpL hk3)
  have H3 := hide (h3.go (bel_drew w3))
  obtain ⟨d0, d1, d2, d3, d4, d5, df, dl⟩ := h3.facts
  rw [HSo.out] at d2
  have HF := hide (fields_any gs s' 5 w3.drew H3.out.ls.lb)
  have d0d : w3.drew.cell? ⟨k, 0, none⟩ = some (.pointer (some ⟨gs, 0, none⟩)) := d0
  have d2d : w3.drew.cell? ⟨k, 2, none⟩ = some (.slice ao O.length co) := d2
  clear h3 hl3 hk3 HD c0 c1 c2 c3 c4 c5 cf cl b0 b1 b2 HV H0
  go_wp2
  refine wp_region_Z (S := (fun W => W.cell? ⟨k, 0, none⟩ = some (.pointer (some ⟨gs, 0, none⟩)))) (C := (fun z W => z = 12 → W.cell? ⟨k, 2, none⟩ = some (.slice ao O.length co))) (by kernel_rfl) (kept_of _ _ d0d d2d) (fun hHeld => ?_)
  refine Z_take (i := 0) (d := 123) (v := ?_) (Zs := []) rfl rfl (by kernel_rfl) (by kernel_rfl) (by kernel_rfl) (fun _ _ _ h => h) (fun _ h => absurd h (by decide)) (by kernel_rfl) rfl ?_ (kept_of _ _ d0d d2d) ?_
  rotate_left
  · intro W hSw hC
    try dsimp only at hSw
    go_simp
    try with_reducible rfl
  try simp only [List.setIfInBounds_toArray, List.set_cons_zero, List.set_cons_succ]
  refine Z_take (i := 1) (d := 124) (v := ?_) (Zs := []) rfl rfl (by kernel_rfl) (by kernel_rfl) (by kernel_rfl) (fun _ _ _ h => h) (fun _ h => absurd h (by decide)) (by kernel_rfl) rfl ?_ (kept_of _ _ d0d d2d) ?_
  rotate_left
  · intro W hSw hC
    try dsimp only at hSw
    go_simp
    try with_reducible rfl
  try simp only [List.setIfInBounds_toArray, List.set_cons_zero, List.set_cons_succ]
  refine Z_take (i := 2) (d := 125) (v := ?_) (Zs := []) rfl rfl (by kernel_rfl) (by kernel_rfl) (by kernel_rfl) (fun _ _ _ h => h) (fun _ h => absurd h (by decide)) (by kernel_rfl) rfl ?_ (kept_of _ _ d0d d2d) ?_
  rotate_left
  · intro W hSw hC
    try dsimp only at hSw
    go_simp
    try with_reducible rfl
  try simp only [List.setIfInBounds_toArray, List.set_cons_zero, List.set_cons_succ]
  refine Z_take (i := 3) (d := 126) (v := ?_) (Zs := []) rfl rfl (by kernel_rfl) (by kernel_rfl) (by kernel_rfl) (fun _ _ _ h => h) (fun _ h => absurd h (by decide)) (by kernel_rfl) rfl ?_ (kept_of _ _ d0d d2d) ?_
  rotate_left
  · intro W hSw hC
    try dsimp only at hSw
    go_simp
    try with_reducible rfl
  try simp only [List.setIfInBounds_toArray, List.set_cons_zero, List.set_cons_succ]
  refine Z_take (i := 4) (d := 127) (v := ?_) (Zs := [12]) rfl rfl (by kernel_rfl) (by kernel_rfl) (by kernel_rfl) (fun _ _ _ h => h) (fun _ h => absurd h (by decide)) (by kernel_rfl) rfl ?_ (kept_of _ _ d0d d2d) ?_
  rotate_left
  · intro W hSw hC
    have hC12 := hC 12 (by simp) rfl; try dsimp only at hSw
    go_simp
    try with_reducible rfl
  try simp only [List.setIfInBounds_toArray, List.set_cons_zero, List.set_cons_succ]
  refine Z_take (i := 5) (d := 128) (v := ?_) (Zs := []) rfl rfl (by kernel_rfl) (by kernel_rfl) (by kernel_rfl) (fun _ _ _ h => h) (fun _ h => absurd h (by decide)) (by kernel_rfl) rfl ?_ (kept_of _ _ d0d d2d) ?_
  rotate_left
  · intro W hSw hC
    try dsimp only at hSw
    go_simp
    try with_reducible rfl
  try simp only [List.setIfInBounds_toArray, List.set_cons_zero, List.set_cons_succ]
  refine Z_take (i := 6) (d := 129) (v := ?_) (Zs := []) rfl rfl (by kernel_rfl) (by kernel_rfl) (by kernel_rfl) (fun _ _ _ h => h) (fun _ h => absurd h (by decide)) (by kernel_rfl) rfl ?_ (kept_of _ _ d0d d2d) ?_
  rotate_left
  · intro W hSw hC
    try dsimp only at hSw
    go_simp
    try with_reducible rfl
  try simp only [List.setIfInBounds_toArray, List.set_cons_zero, List.set_cons_succ]
  refine Z_take (i := 7) (d := 130) (v := ?_) (Zs := []) rfl rfl (by kernel_rfl) (by kernel_rfl) (by kernel_rfl) (fun _ _ _ h => h) (fun _ h => absurd h (by decide)) (by kernel_rfl) rfl ?_ (kept_of _ _ d0d d2d) ?_
  rotate_left
  · intro W hSw hC
    try dsimp only at hSw
    go_simp
    try with_reducible rfl
  try simp only [List.setIfInBounds_toArray, List.set_cons_zero, List.set_cons_succ]
  refine Z_take (i := 8) (d := 131) (v := ?_) (Zs := []) rfl rfl (by kernel_rfl) (by kernel_rfl) (by kernel_rfl) (fun _ _ _ h => h) (fun _ h => absurd h (by decide)) (by kernel_rfl) rfl ?_ (kept_of _ _ d0d d2d) ?_
  rotate_left
  · intro W hSw hC
    try dsimp only at hSw
    go_simp
    try with_reducible rfl
  try simp only [List.setIfInBounds_toArray, List.set_cons_zero, List.set_cons_succ]
  refine wpAnyZ_ready (rs := [9]) (by kernel_rfl) (by simp) ?_
  refine AllReadyZ.cons rfl (fun K hK => ?_) AllReadyZ.nil
  go_simp
  go_wp2_with (go_at_call 22; refine HF.out.mono ?_; rintro e5 w5 ⟨rfl, hb5⟩)
  have H5 := hide (H3.out.go hb5)
  have d05 : w5.cell? ⟨k, 0, none⟩ = some (.pointer (some ⟨gs, 0, none⟩)) := H5.out.facts.1
  have d25 : w5.cell? ⟨k, 2, none⟩ = some (.slice ao O.length co) := H5.out.facts.2.2.1.trans (congrArg some HSo.out)
  refine hK.out _ _ (kept_of _ _ d05 d25) (fun hHeld => ?_)
  clear hK K hHeld hb5 d0d d2d d0 d1 d2 d3 d4 d5 df dl HF
  try simp only [Act.put, List.setIfInBounds_toArray, List.set_cons_zero, List.set_cons_succ]
  refine Z_take (i := 10) (d := 133) (v := .agg ⟨(⟨2, some s', 5, ⟨#[]⟩, false⟩ : Itm).enc⟩) (Zs := []) rfl rfl (by kernel_rfl) (by kernel_rfl) (by kernel_rfl) (fun _ _ _ h => h) (fun _ h => absurd h (by decide)) (by kernel_rfl) rfl ?_ (kept_of _ _ d05 d25) ?_
  · intro W hSw hC
    exact built_run W 86 _ _ (by kernel_rfl)
  try simp only [List.setIfInBounds_toArray, List.set_cons_zero, List.set_cons_succ]
  refine wpAnyZ_ready (rs := [11]) (by kernel_rfl) (by simp) ?_
  refine AllReadyZ.cons rfl (fun K hK => ?_) AllReadyZ.nil
  rw [if_pos (by kernel_rfl)]
  refine wp_build_one itOk (.tmp 133) rfl ⟨2, some s', 5, ⟨#[]⟩, false⟩ rfl ?_
  obtain ⟨y0, y1, y2, y3, y4, y5, yf, yl⟩ := H5.out.facts
  have ya : ∀ (o : Obj) (q : Nat), (w5.alloc o).cell? ⟨k, q, none⟩ = w5.cell? ⟨k, q, none⟩ := fun o q => World.cell?_alloc_lt w5 o ⟨k, q, none⟩ yl
  refine hK.out _ _ (kept_of _ _ ((ya _ 0).trans y0) ((ya _ 2).trans (y2.trans (congrArg some HSo.out)))) (fun hHeld => ?_)
  clear hK K hHeld
  try simp only [Act.put, List.setIfInBounds_toArray, List.set_cons_zero, List.set_cons_succ]
  refine wpAnyZ_ready (rs := [12]) (by kernel_rfl) (by simp) ?_
  refine AllReadyZ.cons rfl (fun K hK => ?_) AllReadyZ.nil
  rw [if_pos (by kernel_rfl)]
  refine wp_append_way itOk _ (.tmp 127) (.tmp 134) rfl z vO O ⟨2, some s', 5, ⟨#[]⟩, false⟩ HSo.out.symm (H5.out.wo.at fun q e => Below.heap_alloc _ _ _ (H5.out.wo.lt e).2) w5.heap.size 1 rfl (heap_alloc_last w5 _) (by have := H5.out.zz; show z ≤ (w5.alloc _).heap.size; simp; exact Nat.le_trans this (Nat.le_succ _)) HOl.out ?_
  intro v' w4 ho hg hat
  obtain ⟨a', n', c', hv'⟩ : ∃ a' n' c', v' = Value.slice a' n' c' := by obtain ⟨a1, c1, e1⟩ := ho.shape; exact ⟨a1, _, c1, e1⟩
  subst hv'
  have hp4 := H5.out.pushO ho hg hat
  have za : ∀ q, w4.cell? ⟨k, q, none⟩ = w5.cell? ⟨k, q, none⟩ := fun q => World.cell?_of_block (a := ⟨k, q, none⟩) hp4.2.1
  have z1 : w4.cell? ⟨k, 2, none⟩ = some _ := (za 2).trans (y2.trans (congrArg some HSo.out))
  have z2 : ∀ o, w4.frozen? ⟨k, o, none⟩ = false := fun o => (World.frozen?_of_block (a := ⟨k, o, none⟩) hp4.2.1).trans (yf o)
  have z3 : k < w4.heap.size := Nat.lt_trans yl hp4.2.2
  obtain ⟨x0, x1, x2, x3, x4, x5, xf, xl⟩ := hp4.1.facts
  refine hK.out _ _ (kept_of _ _ ((za 0).trans y0) z1) (fun hHeld => ?_)
  have HP4 := hide hp4.1
  clear hK K hp4 ho hg hat hHeld ya
  try simp only [Act.put, List.setIfInBounds_toArray, List.set_cons_zero, List.set_cons_succ]
  refine Z_take (i := 13) (d := 136) (v := ?_) (Zs := []) rfl rfl (by kernel_rfl) (by kernel_rfl) (by kernel_rfl) (fun _ _ _ h => h) (fun _ h => absurd h (by decide)) (by kernel_rfl) rfl ?_ (kept_of _ _ ((za 0).trans y0) z1) ?_
  rotate_left
  · intro W hSw hC
    try dsimp only at hSw
    go_simp
    try with_reducible rfl
  try simp only [List.setIfInBounds_toArray, List.set_cons_zero, List.set_cons_succ]
  refine Z_take (i := 14) (d := 137) (v := ?_) (Zs := []) rfl rfl (by kernel_rfl) (by kernel_rfl) (by kernel_rfl) (fun _ _ _ h => h) (fun _ h => absurd h (by decide)) (by kernel_rfl) rfl ?_ (kept_of _ _ ((za 0).trans y0) z1) ?_
  rotate_left
  · intro W hSw hC
    try dsimp only at hSw
    go_simp
    try with_reducible rfl
  try simp only [List.setIfInBounds_toArray, List.set_cons_zero, List.set_cons_succ]
  refine wpAnyZ_ready (rs := [15]) (by kernel_rfl) (by simp) ?_
  refine AllReadyZ.cons rfl (fun K hK => ?_) AllReadyZ.nil
  go_simp
  try go_wp2
  refine hK.out _ _ ⟨x0, fun q hq e => by subst e; exact absurd (show (true : Bool) = false from hq) (by decide)⟩ (fun hHeld => ?_)
  clear hK K hHeld
  try simp only [Act.put, List.setIfInBounds_toArray, List.set_cons_zero, List.set_cons_succ]
  refine wpAnyZ_done (by kernel_rfl) ?_ _
  have HI : Hid (∃ N', TurnI z w0 k gs gr N' (M + 1) sec md n0 (w4.setCell ⟨k, 2, none⟩ (.slice a' n' c'))) := ⟨N, s', r, Ts, Tr, _, vB, vG, _, B, G, _, p, L, a, b, HP4.out, HAl.out⟩
  go_wp2
  go_ret
  exact ⟨rfl, HI.out⟩
end
end Go.Proofs.Ytjipcdknkghoaaa
