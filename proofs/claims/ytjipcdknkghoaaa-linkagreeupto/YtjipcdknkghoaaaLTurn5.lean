
/- LinkAgree: a turn: what the receiver has is said to be accepted. -/
import Derived.Test.YtjipcdknkghoaaaLTurnM
import Derived.Deep.RegionHeld
import Derived.BigQuiet
import Derived.Deep.QuietTactic
namespace Go.Proofs.Ytjipcdknkghoaaa
open Go.RowKit Go.Maps
set_option linter.unusedVariables false
set_option linter.unusedSimpArgs false

section
variable {z : Nat} {w0 : World} {k gs gr N M : Nat} {sec : Bool} {md n0 e p L a b : Int} {s r : Lk} {Ts Tr : List (ByteArray × Dv)} {vO vB vG : Value} {O B : List Itm} {G : List ByteArray}
set_option maxRecDepth 100000 in
set_option maxHeartbeats 16000000 in
theorem turn_5n (kd n : Int) (f : Bool) (w : World) (hp : Pm z w0 w k gs gr N s r Ts Tr vO vB vG O B G) (ha : Al sec md N M n0 e p L a b s r Ts Tr O B G) (hM : M ≤ 999999999) (hk : qk kd = 5) (hG : G = []) :
    Calls Try.prog 7 #[.pointer (some ⟨k, 0, none⟩), .agg (tnA kd n f), .bool sec, .int .i64 md] w fun e1 w' => e1 = .returned (.bool true) ∧ ∃ N', TurnI z w0 k gs gr N' (M + 1) sec md n0 w' := by
  unfold tnA
  have hlow := qk_low kd
  obtain ⟨V, hV⟩ : ∃ V, w.alloc (.cells #[.int .i64 kd, .int .i64 n, .bool f] 35) = V := ⟨_, rfl⟩
  have hbV : Below w.heap.size w V := hV ▸ bel1 (Below.refl _ _) (Nat.le_refl _) _
  have hV0 := hp.go hbV
  have hbx : V.heap[w.heap.size]? = some (.cells #[.int .i64 kd, .int .i64 n, .bool f] 35 (0, 0)) := hV ▸ heap_alloc_last w _
  have bl : w.heap.size < V.heap.size := (Array.getElem?_eq_some_iff.1 hbx).1
  have b0 : V.cell? ⟨w.heap.size, 0, none⟩ = some (.int .i64 kd) := cellOf hbx 0 _ rfl
  have b1 : V.cell? ⟨w.heap.size, 1, none⟩ = some (.int .i64 n) := cellOf hbx 1 _ rfl
  have b2 : V.cell? ⟨w.heap.size, 2, none⟩ = some (.bool f) := cellOf hbx 2 _ rfl
  obtain ⟨c0, c1, c2, c3, c4, c5, cf, cl⟩ := hV0.facts
  have tbx : tyB V w.heap.size = some 35 := ty_cells hbx
  have tgs : tyB V gs = some 84 := ty_cells hV0.ls.lb
  have tgr : tyB V gr = some 84 := ty_cells hV0.lr.lb
  have tds : tyB V s.dm = none := hV0.ls.tb.ty
  have tdr : tyB V r.dm = none := hV0.lr.tb.ty
  have HV := hide hV
  have H0 := hide hV0
  unfold qk at hk
  obtain ⟨ag, cg, hsg⟩ := hp.wg.shape
  rw [hsg, hG] at c5
  have HA := hide ha
  clear hp ha hV hV0 hbx hbV tbx tgs tgr tds tdr hsg
  go_enter Try.func7, Try.ntmps7
  go_wp2_with (first | rw [HV.out])
  go_ret
  exact ⟨rfl, N, s, r, Ts, Tr, vO, vB, vG, O, B, G, e, p, L, a, b, H0.out, HA.out.more (by omega)⟩
set_option maxRecDepth 100000 in
set_option maxHeartbeats 16000000 in
theorem turn_5s (t : ByteArray) (kd n : Int) (f : Bool) (w : World) (hp : Pm z w0 w k gs gr N s r Ts Tr vO vB vG O B (t :: G)) (ha : Al false md N M n0 e p L a b s r Ts Tr O B (t :: G)) (hM : M ≤ 999999999) (hk : qk kd = 5) :
    Calls Try.prog 7 #[.pointer (some ⟨k, 0, none⟩), .agg (tnA kd n f), .bool false, .int .i64 md] w fun e1 w' => e1 = .returned (.bool true) ∧ ∃ N', TurnI z w0 k gs gr N' (M + 1) false md n0 w' := by
  unfold tnA
  have hlow := qk_low kd
  obtain ⟨V, hV⟩ : ∃ V, w.alloc (.cells #[.int .i64 kd, .int .i64 n, .bool f] 35) = V := ⟨_, rfl⟩
  have hbV : Below w.heap.size w V := hV ▸ bel1 (Below.refl _ _) (Nat.le_refl _) _
  have hV0 := hp.go hbV
  have hbx : V.heap[w.heap.size]? = some (.cells #[.int .i64 kd, .int .i64 n, .bool f] 35 (0, 0)) := hV ▸ heap_alloc_last w _
  have bl : w.heap.size < V.heap.size := (Array.getElem?_eq_some_iff.1 hbx).1
  have b0 : V.cell? ⟨w.heap.size, 0, none⟩ = some (.int .i64 kd) := cellOf hbx 0 _ rfl
  have b1 : V.cell? ⟨w.heap.size, 1, none⟩ = some (.int .i64 n) := cellOf hbx 1 _ rfl
  have b2 : V.cell? ⟨w.heap.size, 2, none⟩ = some (.bool f) := cellOf hbx 2 _ rfl
  obtain ⟨c0, c1, c2, c3, c4, c5, cf, cl⟩ := hV0.facts
  have tbx : tyB V w.heap.size = some 35 := ty_cells hbx
  have tgs : tyB V gs = some 84 := ty_cells hV0.ls.lb
  have tgr : tyB V gr = some 84 := ty_cells hV0.lr.lb
  have tds : tyB V s.dm = none := hV0.ls.tb.ty
  have tdr : tyB V r.dm = none := hV0.lr.tb.ty
  have HV := hide hV
  have H0 := hide hV0
  unfold qk at hk
  have hft := ha.tg.first
  obtain ⟨⟨qa, qb⟩, hu⟩ : ∃ x : Dv, lu dv0 Tr t = x := ⟨_, rfl⟩
  obtain ⟨gg, go, cap, hsg, hcap, hcm, hgl, hrg, _, _⟩ := hV0.wg.head stOk
  have hgc : V.cell? ⟨gg, go, none⟩ = some (.string t) := hrg 0 _ rfl
  have hog : vG.ownBlock = some gg := by rw [hsg]; rfl
  have HSg := hide hsg
  rw [hsg] at c5
  have hRn : (keys Tr).Nodup := hp.lr.tb.nodup
  have HAl := hide (ha.setS hRn)
  have hkm : k ≠ r.dm := ne_ty hV0.ty tdr (by decide)
  have hgm : gg ≠ r.dm := ne_ty (hV0.wg.ty hog) tdr (by decide)
  have HG : Hid (Calls Try.prog 24 #[.pointer (some ⟨gr, 0, none⟩), .string t, .agg (stA 36), .bool true] V.drew fun e1 w3 => e1 = .returned (.int .i64 0) ∧ Hid (Pm z w0 w3 k gs gr N s r Ts (del Tr t) vO vB vG O B (t :: G) ∧ gg < w3.heap.size) ∧ (w3.cell? ⟨k, 1, none⟩ = some (.pointer (some ⟨gr, 0, none⟩)) ∧ w3.cell? ⟨k, 5, none⟩ = some (.slice (some ⟨gg, go, none⟩) (G.length + 1) cap) ∧ w3.cell? ⟨gg, go, none⟩ = some (.string t))) :=
    (own_settled gr r Tr t qa qb 36 V.drew (hV0.go (bel_drew V)).lr (by unfold maxLen; omega) (hasK_iff.2 hft.1) hu (by decide) (.inr (by rw [ha.lf.rq]; decide))).mono fun e1 w3 ⟨e2, s1, k1⟩ => ⟨e2, ⟨(hV0.go (bel_drew V)).recv s1 rfl (k1.mono fun _ e => .inr e), Nat.lt_of_lt_of_le hgl k1.size⟩, (k1.cell (b := k) (o := 1) cl hkm).trans c1, (k1.cell (b := k) (o := 5) cl hkm).trans c5, (k1.cell (b := gg) (o := go) hgl hgm).trans hgc⟩
  have HS2 : Hid (V.drew.cell? ⟨k, 1, none⟩ = some (.pointer (some ⟨gr, 0, none⟩)) ∧ V.drew.cell? ⟨k, 5, none⟩ = some (.slice (some ⟨gg, go, none⟩) (G.length + 1) cap) ∧ V.drew.cell? ⟨gg, go, none⟩ = some (.string t)) := ⟨c1, c5, hgc⟩
  obtain ⟨ab, cb, hsb⟩ := hp.wb.shape
  have HSb := hide hsb
  have HBl : Hid (B.length ≤ 1000000000) := by show _ ≤ _; have := ha.lb; omega
  have HOg := hide hog
  have hGl : (G.length : Int) ≤ 1000000000 := by have := ha.lo; simp at this; omega
  clear hp ha hV hV0 hbx hbV tbx tgs tgr tds tdr hft hu hcap hcm hrg hog hRn hkm hgm hsb hsg
  go_enter Try.func7, Try.ntmps7
  go_wp2_with (first | rw [HV.out])
  refine wp_region_held_drew (S := fun W => W.cell? ⟨k, 1, none⟩ = some (.pointer (some ⟨gr, 0, none⟩)) ∧ W.cell? ⟨k, 5, none⟩ = some (.slice (some ⟨gg, go, none⟩) (G.length + 1) cap) ∧ W.cell? ⟨gg, go, none⟩ = some (.string t)) (by kernel_rfl) HS2.out (fun hHeld => ?_)
  refine take_do (i := 0) (d := 158) (v := ?_) rfl rfl (by kernel_rfl) (by kernel_rfl) (by kernel_rfl) (fun _ _ _ h => h) rfl ?_ (by assumption) ?_
  rotate_left
  · intro W hSw
    try dsimp only at hSw
    go_simp
    try with_reducible rfl
  try simp only [List.setIfInBounds_toArray, List.set_cons_zero, List.set_cons_succ]
  refine take_do (i := 1) (d := 159) (v := ?_) rfl rfl (by kernel_rfl) (by kernel_rfl) (by kernel_rfl) (fun _ _ _ h => h) rfl ?_ (by assumption) ?_
  rotate_left
  · intro W hSw
    try dsimp only at hSw
    go_simp
    try with_reducible rfl
  try simp only [List.setIfInBounds_toArray, List.set_cons_zero, List.set_cons_succ]
  refine take_do (i := 2) (d := 160) (v := ?_) rfl rfl (by kernel_rfl) (by kernel_rfl) (by kernel_rfl) (fun _ _ _ h => h) rfl ?_ (by assumption) ?_
  rotate_left
  · intro W hSw
    try dsimp only at hSw
    go_simp
    try with_reducible rfl
  try simp only [List.setIfInBounds_toArray, List.set_cons_zero, List.set_cons_succ]
  refine take_do (i := 3) (d := 161) (v := ?_) rfl rfl (by kernel_rfl) (by kernel_rfl) (by kernel_rfl) (fun _ _ _ h => h) rfl ?_ (by assumption) ?_
  rotate_left
  · intro W hSw
    try dsimp only at hSw
    go_simp
    try with_reducible rfl
  try simp only [List.setIfInBounds_toArray, List.set_cons_zero, List.set_cons_succ]
  refine take_do (i := 4) (d := 162) (v := ?_) rfl rfl (by kernel_rfl) (by kernel_rfl) (by kernel_rfl) (fun _ _ _ h => h) rfl ?_ (by assumption) ?_
  rotate_left
  · intro W hSw
    try dsimp only at hSw
    go_simp
    try with_reducible rfl
  try simp only [List.setIfInBounds_toArray, List.set_cons_zero, List.set_cons_succ]
  refine take_do (i := 5) (d := 163) (v := ?_) rfl rfl (by kernel_rfl) (by kernel_rfl) (by kernel_rfl) (fun _ _ _ h => h) rfl ?_ (by assumption) ?_
  rotate_left
  · intro W hSw
    try dsimp only at hSw
    go_simp
    try with_reducible rfl
  try simp only [List.setIfInBounds_toArray, List.set_cons_zero, List.set_cons_succ]
  refine take_do (i := 6) (d := 164) (v := ?_) rfl rfl (by kernel_rfl) (by kernel_rfl) (by kernel_rfl) (fun _ _ _ h => h) rfl ?_ (by assumption) ?_
  rotate_left
  · intro W hSw
    try dsimp only at hSw
    go_simp
    try with_reducible rfl
  try simp only [List.setIfInBounds_toArray, List.set_cons_zero, List.set_cons_succ]
  refine take_do (i := 7) (d := 165) (v := ?_) rfl rfl (by kernel_rfl) (by kernel_rfl) (by kernel_rfl) (fun _ _ _ h => h) rfl ?_ (by assumption) ?_
  rotate_left
  · intro W hSw
    try dsimp only at hSw
    go_simp
    try with_reducible rfl
  try simp only [List.setIfInBounds_toArray, List.set_cons_zero, List.set_cons_succ]
  refine take_do (i := 8) (d := 166) (v := ?_) rfl rfl (by kernel_rfl) (by kernel_rfl) (by kernel_rfl) (fun _ _ _ h => h) rfl ?_ (by assumption) ?_
  rotate_left
  · intro W hSw
    try dsimp only at hSw
    go_simp
    try with_reducible rfl
  try simp only [List.setIfInBounds_toArray, List.set_cons_zero, List.set_cons_succ]
  refine take_do (i := 9) (d := 167) (v := ?_) rfl rfl (by kernel_rfl) (by kernel_rfl) (by kernel_rfl) (fun _ _ _ h => h) rfl ?_ (by assumption) ?_
  rotate_left
  · intro W hSw
    try dsimp only at hSw
    go_simp
    try with_reducible rfl
  try simp only [List.setIfInBounds_toArray, List.set_cons_zero, List.set_cons_succ]
  refine take_do (i := 10) (d := 168) (v := .agg (stA 36)) rfl rfl (by kernel_rfl) (by kernel_rfl) (by kernel_rfl) (fun _ _ _ h => h) rfl ?_ (by assumption) ?_
  · intro W hSw
    exact built_run W 53 _ _ (by kernel_rfl)
  try simp only [Act.put, List.setIfInBounds_toArray, List.set_cons_zero, List.set_cons_succ]
  refine take_do (i := 11) (d := 169) (v := ?_) rfl rfl (by kernel_rfl) (by kernel_rfl) (by kernel_rfl) (fun _ _ _ h => h) rfl ?_ (by assumption) ?_
  rotate_left
  · intro W hSw
    try dsimp only at hSw
    go_simp
    try with_reducible rfl
  try simp only [List.setIfInBounds_toArray, List.set_cons_zero, List.set_cons_succ]
  refine take_do (i := 12) (d := 170) (v := ?_) rfl rfl (by kernel_rfl) (by kernel_rfl) (by kernel_rfl) (fun _ _ _ h => h) rfl ?_ (by assumption) ?_
  rotate_left
  · intro W hSw
    try dsimp only at hSw
    go_simp
    try with_reducible rfl
  try simp only [List.setIfInBounds_toArray, List.set_cons_zero, List.set_cons_succ]
  refine wpAnyH_ready (rs := [13]) (by kernel_rfl) (by simp) ?_
  refine AllReadyH.cons rfl (fun K hK => ?_) AllReadyH.nil
  go_simp
  go_wp2_with (go_at_call 24; refine HG.out.mono ?_; rintro e3 w3 ⟨rfl, hM3, hs3⟩)
  refine hK.out _ _ hs3 (fun hHeld => ?_)
  clear hK K
  try simp only [Act.put, List.setIfInBounds_toArray, List.set_cons_zero, List.set_cons_succ]
  refine take_do (i := 14) (d := 14) (v := ?_) rfl rfl (by kernel_rfl) (by kernel_rfl) (by kernel_rfl) (fun _ _ _ h => h) rfl ?_ (by assumption) ?_
  rotate_left
  · intro W hSw
    try dsimp only at hSw
    go_simp
    try with_reducible rfl
  try simp only [List.setIfInBounds_toArray, List.set_cons_zero, List.set_cons_succ]
  refine wpAnyH_done (by kernel_rfl) ?_ _
  have H3 := hide (hM3.out.1.go (bel_drew w3))
  obtain ⟨d0, d1, d2, d3, d4, d5, df, dl⟩ := hM3.out.1.facts
  rw [HSb.out] at d3
  have hgl3 := hM3.out.2
  have d5d : w3.drew.cell? ⟨k, 5, none⟩ = some (.slice (some ⟨gg, go, none⟩) (G.length + 1) cap) ∧ w3.drew.cell? ⟨gg, go, none⟩ = some (.string t) := hs3.2
  have d3d : w3.drew.cell? ⟨k, 3, none⟩ = some (.slice ab B.length cb) := d3
  clear hM3 HG HS2 c0 c1 c2 c3 c4 c5 cf cl b0 b1 b2 HV H0 hgc hgl hs3 hHeld
  go_wp2
  refine wp_region_Z (S := (fun W => W.cell? ⟨k, 5, none⟩ = some (.slice (some ⟨gg, go, none⟩) (G.length + 1) cap) ∧ W.cell? ⟨gg, go, none⟩ = some (.string t))) (C := (fun z W => z = 15 → W.cell? ⟨k, 3, none⟩ = some (.slice ab B.length cb))) (by kernel_rfl) (kept_of _ _ d5d d3d) (fun hHeld => ?_)
  refine Z_take (i := 0) (d := 174) (v := ?_) (Zs := []) rfl rfl (by kernel_rfl) (by kernel_rfl) (by kernel_rfl) (fun _ _ _ h => h) (fun _ h => absurd h (by decide)) (by kernel_rfl) rfl ?_ (kept_of _ _ d5d d3d) ?_
  rotate_left
  · intro W hSw hC
    try dsimp only at hSw
    go_simp
    try with_reducible rfl
  try simp only [List.setIfInBounds_toArray, List.set_cons_zero, List.set_cons_succ]
  refine Z_take (i := 1) (d := 175) (v := ?_) (Zs := []) rfl rfl (by kernel_rfl) (by kernel_rfl) (by kernel_rfl) (fun _ _ _ h => h) (fun _ h => absurd h (by decide)) (by kernel_rfl) rfl ?_ (kept_of _ _ d5d d3d) ?_
  rotate_left
  · intro W hSw hC
    try dsimp only at hSw
    go_simp
    try with_reducible rfl
  try simp only [List.setIfInBounds_toArray, List.set_cons_zero, List.set_cons_succ]
  refine Z_take (i := 2) (d := 176) (v := ?_) (Zs := []) rfl rfl (by kernel_rfl) (by kernel_rfl) (by kernel_rfl) (fun _ _ _ h => h) (fun _ h => absurd h (by decide)) (by kernel_rfl) rfl ?_ (kept_of _ _ d5d d3d) ?_
  rotate_left
  · intro W hSw hC
    try dsimp only at hSw
    go_simp
    try with_reducible rfl
  try simp only [List.setIfInBounds_toArray, List.set_cons_zero, List.set_cons_succ]
  refine Z_take (i := 3) (d := 177) (v := ?_) (Zs := []) rfl rfl (by kernel_rfl) (by kernel_rfl) (by kernel_rfl) (fun _ _ _ h => h) (fun _ h => absurd h (by decide)) (by kernel_rfl) rfl ?_ (kept_of _ _ d5d d3d) ?_
  rotate_left
  · intro W hSw hC
    try dsimp only at hSw
    go_simp
    try with_reducible rfl
  try simp only [List.setIfInBounds_toArray, List.set_cons_zero, List.set_cons_succ]
  refine Z_take (i := 4) (d := 178) (v := ?_) (Zs := [15]) rfl rfl (by kernel_rfl) (by kernel_rfl) (by kernel_rfl) (fun _ _ _ h => h) (fun _ h => absurd h (by decide)) (by kernel_rfl) rfl ?_ (kept_of _ _ d5d d3d) ?_
  rotate_left
  · intro W hSw hC
    have hC15 := hC 15 (by simp) rfl; try dsimp only at hSw
    go_simp
    try with_reducible rfl
  try simp only [List.setIfInBounds_toArray, List.set_cons_zero, List.set_cons_succ]
  refine Z_take (i := 5) (d := 179) (v := ?_) (Zs := []) rfl rfl (by kernel_rfl) (by kernel_rfl) (by kernel_rfl) (fun _ _ _ h => h) (fun _ h => absurd h (by decide)) (by kernel_rfl) rfl ?_ (kept_of _ _ d5d d3d) ?_
  rotate_left
  · intro W hSw hC
    try dsimp only at hSw
    go_simp
    try with_reducible rfl
  try simp only [List.setIfInBounds_toArray, List.set_cons_zero, List.set_cons_succ]
  refine Z_take (i := 6) (d := 180) (v := ?_) (Zs := []) rfl rfl (by kernel_rfl) (by kernel_rfl) (by kernel_rfl) (fun _ _ _ h => h) (fun _ h => absurd h (by decide)) (by kernel_rfl) rfl ?_ (kept_of _ _ d5d d3d) ?_
  rotate_left
  · intro W hSw hC
    try dsimp only at hSw
    go_simp
    try with_reducible rfl
  try simp only [List.setIfInBounds_toArray, List.set_cons_zero, List.set_cons_succ]
  refine Z_take (i := 7) (d := 181) (v := ?_) (Zs := []) rfl rfl (by kernel_rfl) (by kernel_rfl) (by kernel_rfl) (fun _ _ _ h => h) (fun _ h => absurd h (by decide)) (by kernel_rfl) rfl ?_ (kept_of _ _ d5d d3d) ?_
  rotate_left
  · intro W hSw hC
    try dsimp only at hSw
    go_simp
    try with_reducible rfl
  try simp only [List.setIfInBounds_toArray, List.set_cons_zero, List.set_cons_succ]
  refine Z_take (i := 8) (d := 182) (v := ?_) (Zs := []) rfl rfl (by kernel_rfl) (by kernel_rfl) (by kernel_rfl) (fun _ _ _ h => h) (fun _ h => absurd h (by decide)) (by kernel_rfl) rfl ?_ (kept_of _ _ d5d d3d) ?_
  rotate_left
  · intro W hSw hC
    try dsimp only at hSw
    go_simp
    try with_reducible rfl
  try simp only [List.setIfInBounds_toArray, List.set_cons_zero, List.set_cons_succ]
  refine Z_take (i := 9) (d := 183) (v := ?_) (Zs := []) rfl rfl (by kernel_rfl) (by kernel_rfl) (by kernel_rfl) (fun _ _ _ h => h) (fun _ h => absurd h (by decide)) (by kernel_rfl) rfl ?_ (kept_of _ _ d5d d3d) ?_
  rotate_left
  · intro W hSw hC
    try dsimp only at hSw
    go_simp
    try with_reducible rfl
  try simp only [List.setIfInBounds_toArray, List.set_cons_zero, List.set_cons_succ]
  refine Z_take (i := 10) (d := 184) (v := ?_) (Zs := []) rfl rfl (by kernel_rfl) (by kernel_rfl) (by kernel_rfl) (fun _ _ _ h => h) (fun _ h => absurd h (by decide)) (by kernel_rfl) rfl ?_ (kept_of _ _ d5d d3d) ?_
  rotate_left
  · intro W hSw hC
    try dsimp only at hSw
    go_simp
    try with_reducible rfl
  try simp only [List.setIfInBounds_toArray, List.set_cons_zero, List.set_cons_succ]
  refine Z_take (i := 11) (d := 185) (v := ?_) (Zs := []) rfl rfl (by kernel_rfl) (by kernel_rfl) (by kernel_rfl) (fun _ _ _ h => h) (fun _ h => absurd h (by decide)) (by kernel_rfl) rfl ?_ (kept_of _ _ d5d d3d) ?_
  rotate_left
  · intro W hSw hC
    try dsimp only at hSw
    go_simp
    try with_reducible rfl
  try simp only [List.setIfInBounds_toArray, List.set_cons_zero, List.set_cons_succ]
  refine Z_take (i := 12) (d := 186) (v := ?_) (Zs := []) rfl rfl (by kernel_rfl) (by kernel_rfl) (by kernel_rfl) (fun _ _ _ h => h) (fun _ h => absurd h (by decide)) (by kernel_rfl) rfl ?_ (kept_of _ _ d5d d3d) ?_
  rotate_left
  · intro W hSw hC
    try dsimp only at hSw
    go_simp
    try with_reducible rfl
  try simp only [List.setIfInBounds_toArray, List.set_cons_zero, List.set_cons_succ]
  refine Z_take (i := 13) (d := 187) (v := .agg ⟨(⟨5, none, 0, t, true⟩ : Itm).enc⟩) (Zs := []) rfl rfl (by kernel_rfl) (by kernel_rfl) (by kernel_rfl) (fun _ _ _ h => h) (fun _ h => absurd h (by decide)) (by kernel_rfl) rfl ?_ (kept_of _ _ d5d d3d) ?_
  · intro W hSw hC
    exact built_run W 86 _ _ (by kernel_rfl)
  try simp only [List.setIfInBounds_toArray, List.set_cons_zero, List.set_cons_succ]
  refine wpAnyZ_ready (rs := [14]) (by kernel_rfl) (by simp) ?_
  refine AllReadyZ.cons rfl (fun K hK => ?_) AllReadyZ.nil
  rw [if_pos (by kernel_rfl)]
  refine wp_build_one itOk (.tmp 187) rfl ⟨5, none, 0, t, true⟩ rfl ?_
  obtain ⟨y0, y1, y2, y3, y4, y5, yf, yl⟩ := H3.out.facts
  have yt : ∀ o : Obj, (w3.drew.alloc o).cell? ⟨gg, go, none⟩ = some (.string t) := fun o => (World.cell?_alloc_lt w3.drew o ⟨gg, go, none⟩ hgl3).trans d5d.2
  have ya : ∀ (o : Obj) (q : Nat), (w3.drew.alloc o).cell? ⟨k, q, none⟩ = w3.drew.cell? ⟨k, q, none⟩ := fun o q => World.cell?_alloc_lt w3.drew o ⟨k, q, none⟩ yl
  refine hK.out _ _ (kept_of _ _ ⟨(ya _ 5).trans (y5.trans (congrArg some HSg.out)), yt _⟩ ((ya _ 3).trans (y3.trans (congrArg some HSb.out)))) (fun hHeld => ?_)
  clear hK K hHeld
  try simp only [Act.put, List.setIfInBounds_toArray, List.set_cons_zero, List.set_cons_succ]
  refine wpAnyZ_ready (rs := [15]) (by kernel_rfl) (by simp) ?_
  refine AllReadyZ.cons rfl (fun K hK => ?_) AllReadyZ.nil
  rw [if_pos (by kernel_rfl)]
  refine wp_append_way itOk _ (.tmp 178) (.tmp 188) rfl z vB B ⟨5, none, 0, t, true⟩ HSb.out.symm (H3.out.wb.at fun q e => Below.heap_alloc _ _ _ (H3.out.wb.lt e).2) w3.drew.heap.size 1 rfl (heap_alloc_last w3.drew _) (by have := H3.out.zz; show z ≤ (w3.drew.alloc _).heap.size; simp; exact Nat.le_trans this (Nat.le_succ _)) HBl.out ?_
  intro v' w4 ho hg hat
  obtain ⟨a', n', c', hv'⟩ : ∃ a' n' c', v' = Value.slice a' n' c' := by obtain ⟨a1, c1, e1⟩ := ho.shape; exact ⟨a1, _, c1, e1⟩
  subst hv'
  have hp4 := H3.out.pushB ho hg hat
  have za : ∀ q, w4.cell? ⟨k, q, none⟩ = w3.drew.cell? ⟨k, q, none⟩ := fun q => World.cell?_of_block (a := ⟨k, q, none⟩) hp4.2.1
  have z1 : w4.cell? ⟨k, 3, none⟩ = some _ := (za 3).trans (y3.trans (congrArg some HSb.out))
  have z2 : ∀ o, w4.frozen? ⟨k, o, none⟩ = false := fun o => (World.frozen?_of_block (a := ⟨k, o, none⟩) hp4.2.1).trans (yf o)
  have z3 : k < w4.heap.size := Nat.lt_trans yl hp4.2.2
  obtain ⟨x0, x1, x2, x3, x4, x5, xf, xl⟩ := hp4.1.facts
  have HNo : vB.ownBlock ≠ some gg := fun e => ne_ty (H3.out.wb.ty e) (H3.out.wg.ty HOg.out) (by decide) rfl
  have HNk : gg ≠ k := ne_ty (H3.out.wg.ty HOg.out) H3.out.ty (by decide)
  have zt : w4.cell? ⟨gg, go, none⟩ = some (.string t) := (World.cell?_of_block (a := ⟨gg, go, none⟩) (hg.block _ (by show _ < (w3.drew.alloc _).heap.size; simp; exact Nat.lt_succ_of_lt hgl3) (fun e => HNo e.symm))).trans (yt _)
  have xt : (w4.setCell ⟨k, 3, none⟩ (.slice a' n' c')).cell? ⟨gg, go, none⟩ = some (.string t) := (World.cell?_of_block (a := ⟨gg, go, none⟩) (blk_set_other _ _ _ _ HNk)).trans zt
  refine hK.out _ _ (kept_of _ _ ⟨(za 5).trans (y5.trans (congrArg some HSg.out)), zt⟩ z1) (fun hHeld => ?_)
  have HP4 := hide hp4.1
  clear hK K hp4 ho hg hat hHeld ya
  try simp only [Act.put, List.setIfInBounds_toArray, List.set_cons_zero, List.set_cons_succ]
  refine Z_take (i := 16) (d := 190) (v := ?_) (Zs := []) rfl rfl (by kernel_rfl) (by kernel_rfl) (by kernel_rfl) (fun _ _ _ h => h) (fun _ h => absurd h (by decide)) (by kernel_rfl) rfl ?_ (kept_of _ _ ⟨(za 5).trans (y5.trans (congrArg some HSg.out)), zt⟩ z1) ?_
  rotate_left
  · intro W hSw hC
    try dsimp only at hSw
    go_simp
    try with_reducible rfl
  try simp only [List.setIfInBounds_toArray, List.set_cons_zero, List.set_cons_succ]
  refine Z_take (i := 17) (d := 191) (v := ?_) (Zs := []) rfl rfl (by kernel_rfl) (by kernel_rfl) (by kernel_rfl) (fun _ _ _ h => h) (fun _ h => absurd h (by decide)) (by kernel_rfl) rfl ?_ (kept_of _ _ ⟨(za 5).trans (y5.trans (congrArg some HSg.out)), zt⟩ z1) ?_
  rotate_left
  · intro W hSw hC
    try dsimp only at hSw
    go_simp
    try with_reducible rfl
  try simp only [List.setIfInBounds_toArray, List.set_cons_zero, List.set_cons_succ]
  refine wpAnyZ_ready (rs := [18]) (by kernel_rfl) (by simp) ?_
  refine AllReadyZ.cons rfl (fun K hK => ?_) AllReadyZ.nil
  go_simp
  try go_wp2
  refine hK.out _ _ ⟨⟨x5.trans (congrArg some HSg.out), xt⟩, fun q hq e => by subst e; exact absurd (show (true : Bool) = false from hq) (by decide)⟩ (fun hHeld => ?_)
  clear hK K hHeld
  try simp only [Act.put, List.setIfInBounds_toArray, List.set_cons_zero, List.set_cons_succ]
  refine wpAnyZ_done (by kernel_rfl) ?_ _
  obtain ⟨g2, o2, cp2, av, cv, hv2, hcp2, hgl2, hrg2, hcut, hwy, hown⟩ := HP4.out.wg.cut stOk
  have z5 : w4.cell? ⟨k, 5, none⟩ = some (.slice (some ⟨gg, go, none⟩) (G.length + 1) cap) := (za 5).trans (y5.trans (congrArg some HSg.out))
  rw [HSg.out] at hcut x5
  change ∀ u, (Instr.slice 30 _ _ _ _).run Try.prog u = _ at hcut
  have HI : Hid (∃ N', TurnI z w0 k gs gr N' (M + 1) false md n0 ((w4.setCell ⟨k, 3, none⟩ (.slice a' n' c')).setCell ⟨k, 5, none⟩ (.slice av G.length cv))) := ⟨N, s, r, Ts, _, vO, _, _, O, _, G, e, p, L, a, b, HP4.out.popG hwy hown, HAl.out⟩
  clear hwy hown hrg2 hv2 hcp2 hgl2 HP4
  go_wp2
  go_ret
  exact ⟨rfl, HI.out⟩
set_option maxRecDepth 100000 in
set_option maxHeartbeats 16000000 in
theorem turn_5o (t : ByteArray) (kd n : Int) (f : Bool) (w : World) (hp : Pm z w0 w k gs gr N s r Ts Tr vO vB vG O B (t :: G)) (ha : Al true md N M n0 e p L a b s r Ts Tr O B (t :: G)) (hM : M ≤ 999999999) (hk : qk kd = 5) :
    Calls Try.prog 7 #[.pointer (some ⟨k, 0, none⟩), .agg (tnA kd n f), .bool true, .int .i64 md] w fun e1 w' => e1 = .returned (.bool true) ∧ ∃ N', TurnI z w0 k gs gr N' (M + 1) true md n0 w' := by
  unfold tnA
  have hlow := qk_low kd
  obtain ⟨V, hV⟩ : ∃ V, w.alloc (.cells #[.int .i64 kd, .int .i64 n, .bool f] 35) = V := ⟨_, rfl⟩
  have hbV : Below w.heap.size w V := hV ▸ bel1 (Below.refl _ _) (Nat.le_refl _) _
  have hV0 := hp.go hbV
  have hbx : V.heap[w.heap.size]? = some (.cells #[.int .i64 kd, .int .i64 n, .bool f] 35 (0, 0)) := hV ▸ heap_alloc_last w _
  have bl : w.heap.size < V.heap.size := (Array.getElem?_eq_some_iff.1 hbx).1
  have b0 : V.cell? ⟨w.heap.size, 0, none⟩ = some (.int .i64 kd) := cellOf hbx 0 _ rfl
  have b1 : V.cell? ⟨w.heap.size, 1, none⟩ = some (.int .i64 n) := cellOf hbx 1 _ rfl
  have b2 : V.cell? ⟨w.heap.size, 2, none⟩ = some (.bool f) := cellOf hbx 2 _ rfl
  obtain ⟨c0, c1, c2, c3, c4, c5, cf, cl⟩ := hV0.facts
  have tbx : tyB V w.heap.size = some 35 := ty_cells hbx
  have tgs : tyB V gs = some 84 := ty_cells hV0.ls.lb
  have tgr : tyB V gr = some 84 := ty_cells hV0.lr.lb
  have tds : tyB V s.dm = none := hV0.ls.tb.ty
  have tdr : tyB V r.dm = none := hV0.lr.tb.ty
  have HV := hide hV
  have H0 := hide hV0
  unfold qk at hk
  have hft := ha.tg.first
  obtain ⟨⟨qa, qb⟩, hu⟩ : ∃ x : Dv, lu dv0 Tr t = x := ⟨_, rfl⟩
  obtain ⟨gg, go, cap, hsg, hcap, hcm, hgl, hrg, _, _⟩ := hV0.wg.head stOk
  have hgc : V.cell? ⟨gg, go, none⟩ = some (.string t) := hrg 0 _ rfl
  have hog : vG.ownBlock = some gg := by rw [hsg]; rfl
  have HSg := hide hsg
  rw [hsg] at c5
  have hRn : (keys Tr).Nodup := hp.lr.tb.nodup
  have HAl := hide (ha.setO (q := (36, qb)) hRn)
  have hkm : k ≠ r.dm := ne_ty hV0.ty tdr (by decide)
  have hgm : gg ≠ r.dm := ne_ty (hV0.wg.ty hog) tdr (by decide)
  have HG : Hid (Calls Try.prog 24 #[.pointer (some ⟨gr, 0, none⟩), .string t, .agg (stA 36), .bool false] V.drew fun e1 w3 => e1 = .returned (.int .i64 0) ∧ Hid (Pm z w0 w3 k gs gr N s r Ts ((t, (36, qb)) :: del Tr t) vO vB vG O B (t :: G) ∧ gg < w3.heap.size) ∧ (w3.cell? ⟨k, 1, none⟩ = some (.pointer (some ⟨gr, 0, none⟩)) ∧ w3.cell? ⟨k, 5, none⟩ = some (.slice (some ⟨gg, go, none⟩) (G.length + 1) cap) ∧ w3.cell? ⟨gg, go, none⟩ = some (.string t))) :=
    (own_open gr r Tr t qa qb 36 V.drew (hV0.go (bel_drew V)).lr (by unfold maxLen; omega) (hasK_iff.2 hft.1) hu (by decide) (by have := ha.tg.len; have := ha.ln; unfold maxLen; omega)).mono fun e1 w3 ⟨e2, s1, k1⟩ => ⟨e2, ⟨(hV0.go (bel_drew V)).recv s1 rfl (k1.mono fun _ e => .inr e), Nat.lt_of_lt_of_le hgl k1.size⟩, (k1.cell (b := k) (o := 1) cl hkm).trans c1, (k1.cell (b := k) (o := 5) cl hkm).trans c5, (k1.cell (b := gg) (o := go) hgl hgm).trans hgc⟩
  have HS2 : Hid (V.drew.cell? ⟨k, 1, none⟩ = some (.pointer (some ⟨gr, 0, none⟩)) ∧ V.drew.cell? ⟨k, 5, none⟩ = some (.slice (some ⟨gg, go, none⟩) (G.length + 1) cap) ∧ V.drew.cell? ⟨gg, go, none⟩ = some (.string t)) := ⟨c1, c5, hgc⟩
  obtain ⟨ab, cb, hsb⟩ := hp.wb.shape
  have HSb := hide hsb
  have HBl : Hid (B.length ≤ 1000000000) := by show _ ≤ _; have := ha.lb; omega
  have HOg := hide hog
  have hGl : (G.length : Int) ≤ 1000000000 := by have := ha.lo; simp at this; omega
  clear hp ha hV hV0 hbx hbV tbx tgs tgr tds tdr hft hu hcap hcm hrg hog hRn hkm hgm hsb hsg
  go_enter Try.func7, Try.ntmps7
  go_wp2_with (first | rw [HV.out])
  refine wp_region_held_drew (S := fun W => W.cell? ⟨k, 1, none⟩ = some (.pointer (some ⟨gr, 0, none⟩)) ∧ W.cell? ⟨k, 5, none⟩ = some (.slice (some ⟨gg, go, none⟩) (G.length + 1) cap) ∧ W.cell? ⟨gg, go, none⟩ = some (.string t)) (by kernel_rfl) HS2.out (fun hHeld => ?_)
  refine take_do (i := 0) (d := 158) (v := ?_) rfl rfl (by kernel_rfl) (by kernel_rfl) (by kernel_rfl) (fun _ _ _ h => h) rfl ?_ (by assumption) ?_
  rotate_left
  · intro W hSw
    try dsimp only at hSw
    go_simp
    try with_reducible rfl
  try simp only [List.setIfInBounds_toArray, List.set_cons_zero, List.set_cons_succ]
  refine take_do (i := 1) (d := 159) (v := ?_) rfl rfl (by kernel_rfl) (by kernel_rfl) (by kernel_rfl) (fun _ _ _ h => h) rfl ?_ (by assumption) ?_
  rotate_left
  · intro W hSw
    try dsimp only at hSw
    go_simp
    try with_reducible rfl
  try simp only [List.setIfInBounds_toArray, List.set_cons_zero, List.set_cons_succ]
  refine take_do (i := 2) (d := 160) (v := ?_) rfl rfl (by kernel_rfl) (by kernel_rfl) (by kernel_rfl) (fun _ _ _ h => h) rfl ?_ (by assumption) ?_
  rotate_left
  · intro W hSw
    try dsimp only at hSw
    go_simp
    try with_reducible rfl
  try simp only [List.setIfInBounds_toArray, List.set_cons_zero, List.set_cons_succ]
  refine take_do (i := 3) (d := 161) (v := ?_) rfl rfl (by kernel_rfl) (by kernel_rfl) (by kernel_rfl) (fun _ _ _ h => h) rfl ?_ (by assumption) ?_
  rotate_left
  · intro W hSw
    try dsimp only at hSw
    go_simp
    try with_reducible rfl
  try simp only [List.setIfInBounds_toArray, List.set_cons_zero, List.set_cons_succ]
  refine take_do (i := 4) (d := 162) (v := ?_) rfl rfl (by kernel_rfl) (by kernel_rfl) (by kernel_rfl) (fun _ _ _ h => h) rfl ?_ (by assumption) ?_
  rotate_left
  · intro W hSw
    try dsimp only at hSw
    go_simp
    try with_reducible rfl
  try simp only [List.setIfInBounds_toArray, List.set_cons_zero, List.set_cons_succ]
  refine take_do (i := 5) (d := 163) (v := ?_) rfl rfl (by kernel_rfl) (by kernel_rfl) (by kernel_rfl) (fun _ _ _ h => h) rfl ?_ (by assumption) ?_
  rotate_left
  · intro W hSw
    try dsimp only at hSw
    go_simp
    try with_reducible rfl
  try simp only [List.setIfInBounds_toArray, List.set_cons_zero, List.set_cons_succ]
  refine take_do (i := 6) (d := 164) (v := ?_) rfl rfl (by kernel_rfl) (by kernel_rfl) (by kernel_rfl) (fun _ _ _ h => h) rfl ?_ (by assumption) ?_
  rotate_left
  · intro W hSw
    try dsimp only at hSw
    go_simp
    try with_reducible rfl
  try simp only [List.setIfInBounds_toArray, List.set_cons_zero, List.set_cons_succ]
  refine take_do (i := 7) (d := 165) (v := ?_) rfl rfl (by kernel_rfl) (by kernel_rfl) (by kernel_rfl) (fun _ _ _ h => h) rfl ?_ (by assumption) ?_
  rotate_left
  · intro W hSw
    try dsimp only at hSw
    go_simp
    try with_reducible rfl
  try simp only [List.setIfInBounds_toArray, List.set_cons_zero, List.set_cons_succ]
  refine take_do (i := 8) (d := 166) (v := ?_) rfl rfl (by kernel_rfl) (by kernel_rfl) (by kernel_rfl) (fun _ _ _ h => h) rfl ?_ (by assumption) ?_
  rotate_left
  · intro W hSw
    try dsimp only at hSw
    go_simp
    try with_reducible rfl
  try simp only [List.setIfInBounds_toArray, List.set_cons_zero, List.set_cons_succ]
  refine take_do (i := 9) (d := 167) (v := ?_) rfl rfl (by kernel_rfl) (by kernel_rfl) (by kernel_rfl) (fun _ _ _ h => h) rfl ?_ (by assumption) ?_
  rotate_left
  · intro W hSw
    try dsimp only at hSw
    go_simp
    try with_reducible rfl
  try simp only [List.setIfInBounds_toArray, List.set_cons_zero, List.set_cons_succ]
  refine take_do (i := 10) (d := 168) (v := .agg (stA 36)) rfl rfl (by kernel_rfl) (by kernel_rfl) (by kernel_rfl) (fun _ _ _ h => h) rfl ?_ (by assumption) ?_
  · intro W hSw
    exact built_run W 53 _ _ (by kernel_rfl)
  try simp only [Act.put, List.setIfInBounds_toArray, List.set_cons_zero, List.set_cons_succ]
  refine take_do (i := 11) (d := 169) (v := ?_) rfl rfl (by kernel_rfl) (by kernel_rfl) (by kernel_rfl) (fun _ _ _ h => h) rfl ?_ (by assumption) ?_
  rotate_left
  · intro W hSw
    try dsimp only at hSw
    go_simp
    try with_reducible rfl
  try simp only [List.setIfInBounds_toArray, List.set_cons_zero, List.set_cons_succ]
  refine take_do (i := 12) (d := 170) (v := ?_) rfl rfl (by kernel_rfl) (by kernel_rfl) (by kernel_rfl) (fun _ _ _ h => h) rfl ?_ (by assumption) ?_
  rotate_left
  · intro W hSw
    try dsimp only at hSw
    go_simp
    try with_reducible rfl
  try simp only [List.setIfInBounds_toArray, List.set_cons_zero, List.set_cons_succ]
  refine wpAnyH_ready (rs := [13]) (by kernel_rfl) (by simp) ?_
  refine AllReadyH.cons rfl (fun K hK => ?_) AllReadyH.nil
  go_simp
  go_wp2_with (go_at_call 24; refine HG.out.mono ?_; rintro e3 w3 ⟨rfl, hM3, hs3⟩)
  refine hK.out _ _ hs3 (fun hHeld => ?_)
  clear hK K
  try simp only [Act.put, List.setIfInBounds_toArray, List.set_cons_zero, List.set_cons_succ]
  refine take_do (i := 14) (d := 14) (v := ?_) rfl rfl (by kernel_rfl) (by kernel_rfl) (by kernel_rfl) (fun _ _ _ h => h) rfl ?_ (by assumption) ?_
  rotate_left
  · intro W hSw
    try dsimp only at hSw
    go_simp
    try with_reducible rfl
  try simp only [List.setIfInBounds_toArray, List.set_cons_zero, List.set_cons_succ]
  refine wpAnyH_done (by kernel_rfl) ?_ _
  have H3 := hide (hM3.out.1.go (bel_drew w3))
  obtain ⟨d0, d1, d2, d3, d4, d5, df, dl⟩ := hM3.out.1.facts
  rw [HSb.out] at d3
  have hgl3 := hM3.out.2
  have d5d : w3.drew.cell? ⟨k, 5, none⟩ = some (.slice (some ⟨gg, go, none⟩) (G.length + 1) cap) ∧ w3.drew.cell? ⟨gg, go, none⟩ = some (.string t) := hs3.2
  have d3d : w3.drew.cell? ⟨k, 3, none⟩ = some (.slice ab B.length cb) := d3
  clear hM3 HG HS2 c0 c1 c2 c3 c4 c5 cf cl b0 b1 b2 HV H0 hgc hgl hs3 hHeld
  go_wp2
  refine wp_region_Z (S := (fun W => W.cell? ⟨k, 5, none⟩ = some (.slice (some ⟨gg, go, none⟩) (G.length + 1) cap) ∧ W.cell? ⟨gg, go, none⟩ = some (.string t))) (C := (fun z W => z = 15 → W.cell? ⟨k, 3, none⟩ = some (.slice ab B.length cb))) (by kernel_rfl) (kept_of _ _ d5d d3d) (fun hHeld => ?_)
  refine Z_take (i := 0) (d := 174) (v := ?_) (Zs := []) rfl rfl (by kernel_rfl) (by kernel_rfl) (by kernel_rfl) (fun _ _ _ h => h) (fun _ h => absurd h (by decide)) (by kernel_rfl) rfl ?_ (kept_of _ _ d5d d3d) ?_
  rotate_left
  · intro W hSw hC
    try dsimp only at hSw
    go_simp
    try with_reducible rfl
  try simp only [List.setIfInBounds_toArray, List.set_cons_zero, List.set_cons_succ]
  refine Z_take (i := 1) (d := 175) (v := ?_) (Zs := []) rfl rfl (by kernel_rfl) (by kernel_rfl) (by kernel_rfl) (fun _ _ _ h => h) (fun _ h => absurd h (by decide)) (by kernel_rfl) rfl ?_ (kept_of _ _ d5d d3d) ?_
  rotate_left
  · intro W hSw hC
    try dsimp only at hSw
    go_simp
    try with_reducible rfl
  try simp only [List.setIfInBounds_toArray, List.set_cons_zero, List.set_cons_succ]
  refine Z_take (i := 2) (d := 176) (v := ?_) (Zs := []) rfl rfl (by kernel_rfl) (by kernel_rfl) (by kernel_rfl) (fun _ _ _ h => h) (fun _ h => absurd h (by decide)) (by kernel_rfl) rfl ?_ (kept_of _ _ d5d d3d) ?_
  rotate_left
  · intro W hSw hC
    try dsimp only at hSw
    go_simp
    try with_reducible rfl
  try simp only [List.setIfInBounds_toArray, List.set_cons_zero, List.set_cons_succ]
  refine Z_take (i := 3) (d := 177) (v := ?_) (Zs := []) rfl rfl (by kernel_rfl) (by kernel_rfl) (by kernel_rfl) (fun _ _ _ h => h) (fun _ h => absurd h (by decide)) (by kernel_rfl) rfl ?_ (kept_of _ _ d5d d3d) ?_
  rotate_left
  · intro W hSw hC
    try dsimp only at hSw
    go_simp
    try with_reducible rfl
  try simp only [List.setIfInBounds_toArray, List.set_cons_zero, List.set_cons_succ]
  refine Z_take (i := 4) (d := 178) (v := ?_) (Zs := [15]) rfl rfl (by kernel_rfl) (by kernel_rfl) (by kernel_rfl) (fun _ _ _ h => h) (fun _ h => absurd h (by decide)) (by kernel_rfl) rfl ?_ (kept_of _ _ d5d d3d) ?_
  rotate_left
  · intro W hSw hC
    have hC15 := hC 15 (by simp) rfl; try dsimp only at hSw
    go_simp
    try with_reducible rfl
  try simp only [List.setIfInBounds_toArray, List.set_cons_zero, List.set_cons_succ]
  refine Z_take (i := 5) (d := 179) (v := ?_) (Zs := []) rfl rfl (by kernel_rfl) (by kernel_rfl) (by kernel_rfl) (fun _ _ _ h => h) (fun _ h => absurd h (by decide)) (by kernel_rfl) rfl ?_ (kept_of _ _ d5d d3d) ?_
  rotate_left
  · intro W hSw hC
    try dsimp only at hSw
    go_simp
    try with_reducible rfl
  try simp only [List.setIfInBounds_toArray, List.set_cons_zero, List.set_cons_succ]
  refine Z_take (i := 6) (d := 180) (v := ?_) (Zs := []) rfl rfl (by kernel_rfl) (by kernel_rfl) (by kernel_rfl) (fun _ _ _ h => h) (fun _ h => absurd h (by decide)) (by kernel_rfl) rfl ?_ (kept_of _ _ d5d d3d) ?_
  rotate_left
  · intro W hSw hC
    try dsimp only at hSw
    go_simp
    try with_reducible rfl
  try simp only [List.setIfInBounds_toArray, List.set_cons_zero, List.set_cons_succ]
  refine Z_take (i := 7) (d := 181) (v := ?_) (Zs := []) rfl rfl (by kernel_rfl) (by kernel_rfl) (by kernel_rfl) (fun _ _ _ h => h) (fun _ h => absurd h (by decide)) (by kernel_rfl) rfl ?_ (kept_of _ _ d5d d3d) ?_
  rotate_left
  · intro W hSw hC
    try dsimp only at hSw
    go_simp
    try with_reducible rfl
  try simp only [List.setIfInBounds_toArray, List.set_cons_zero, List.set_cons_succ]
  refine Z_take (i := 8) (d := 182) (v := ?_) (Zs := []) rfl rfl (by kernel_rfl) (by kernel_rfl) (by kernel_rfl) (fun _ _ _ h => h) (fun _ h => absurd h (by decide)) (by kernel_rfl) rfl ?_ (kept_of _ _ d5d d3d) ?_
  rotate_left
  · intro W hSw hC
    try dsimp only at hSw
    go_simp
    try with_reducible rfl
  try simp only [List.setIfInBounds_toArray, List.set_cons_zero, List.set_cons_succ]
  refine Z_take (i := 9) (d := 183) (v := ?_) (Zs := []) rfl rfl (by kernel_rfl) (by kernel_rfl) (by kernel_rfl) (fun _ _ _ h => h) (fun _ h => absurd h (by decide)) (by kernel_rfl) rfl ?_ (kept_of _ _ d5d d3d) ?_
  rotate_left
  · intro W hSw hC
    try dsimp only at hSw
    go_simp
    try with_reducible rfl
  try simp only [List.setIfInBounds_toArray, List.set_cons_zero, List.set_cons_succ]
  refine Z_take (i := 10) (d := 184) (v := ?_) (Zs := []) rfl rfl (by kernel_rfl) (by kernel_rfl) (by kernel_rfl) (fun _ _ _ h => h) (fun _ h => absurd h (by decide)) (by kernel_rfl) rfl ?_ (kept_of _ _ d5d d3d) ?_
  rotate_left
  · intro W hSw hC
    try dsimp only at hSw
    go_simp
    try with_reducible rfl
  try simp only [List.setIfInBounds_toArray, List.set_cons_zero, List.set_cons_succ]
  refine Z_take (i := 11) (d := 185) (v := ?_) (Zs := []) rfl rfl (by kernel_rfl) (by kernel_rfl) (by kernel_rfl) (fun _ _ _ h => h) (fun _ h => absurd h (by decide)) (by kernel_rfl) rfl ?_ (kept_of _ _ d5d d3d) ?_
  rotate_left
  · intro W hSw hC
    try dsimp only at hSw
    go_simp
    try with_reducible rfl
  try simp only [List.setIfInBounds_toArray, List.set_cons_zero, List.set_cons_succ]
  refine Z_take (i := 12) (d := 186) (v := ?_) (Zs := []) rfl rfl (by kernel_rfl) (by kernel_rfl) (by kernel_rfl) (fun _ _ _ h => h) (fun _ h => absurd h (by decide)) (by kernel_rfl) rfl ?_ (kept_of _ _ d5d d3d) ?_
  rotate_left
  · intro W hSw hC
    try dsimp only at hSw
    go_simp
    try with_reducible rfl
  try simp only [List.setIfInBounds_toArray, List.set_cons_zero, List.set_cons_succ]
  refine Z_take (i := 13) (d := 187) (v := .agg ⟨(⟨5, none, 0, t, false⟩ : Itm).enc⟩) (Zs := []) rfl rfl (by kernel_rfl) (by kernel_rfl) (by kernel_rfl) (fun _ _ _ h => h) (fun _ h => absurd h (by decide)) (by kernel_rfl) rfl ?_ (kept_of _ _ d5d d3d) ?_
  · intro W hSw hC
    exact built_run W 86 _ _ (by kernel_rfl)
  try simp only [List.setIfInBounds_toArray, List.set_cons_zero, List.set_cons_succ]
  refine wpAnyZ_ready (rs := [14]) (by kernel_rfl) (by simp) ?_
  refine AllReadyZ.cons rfl (fun K hK => ?_) AllReadyZ.nil
  rw [if_pos (by kernel_rfl)]
  refine wp_build_one itOk (.tmp 187) rfl ⟨5, none, 0, t, false⟩ rfl ?_
  obtain ⟨y0, y1, y2, y3, y4, y5, yf, yl⟩ := H3.out.facts
  have yt : ∀ o : Obj, (w3.drew.alloc o).cell? ⟨gg, go, none⟩ = some (.string t) := fun o => (World.cell?_alloc_lt w3.drew o ⟨gg, go, none⟩ hgl3).trans d5d.2
  have ya : ∀ (o : Obj) (q : Nat), (w3.drew.alloc o).cell? ⟨k, q, none⟩ = w3.drew.cell? ⟨k, q, none⟩ := fun o q => World.cell?_alloc_lt w3.drew o ⟨k, q, none⟩ yl
  refine hK.out _ _ (kept_of _ _ ⟨(ya _ 5).trans (y5.trans (congrArg some HSg.out)), yt _⟩ ((ya _ 3).trans (y3.trans (congrArg some HSb.out)))) (fun hHeld => ?_)
  clear hK K hHeld
  try simp only [Act.put, List.setIfInBounds_toArray, List.set_cons_zero, List.set_cons_succ]
  refine wpAnyZ_ready (rs := [15]) (by kernel_rfl) (by simp) ?_
  refine AllReadyZ.cons rfl (fun K hK => ?_) AllReadyZ.nil
  rw [if_pos (by kernel_rfl)]
  refine wp_append_way itOk _ (.tmp 178) (.tmp 188) rfl z vB B ⟨5, none, 0, t, false⟩ HSb.out.symm (H3.out.wb.at fun q e => Below.heap_alloc _ _ _ (H3.out.wb.lt e).2) w3.drew.heap.size 1 rfl (heap_alloc_last w3.drew _) (by have := H3.out.zz; show z ≤ (w3.drew.alloc _).heap.size; simp; exact Nat.le_trans this (Nat.le_succ _)) HBl.out ?_
  intro v' w4 ho hg hat
  obtain ⟨a', n', c', hv'⟩ : ∃ a' n' c', v' = Value.slice a' n' c' := by obtain ⟨a1, c1, e1⟩ := ho.shape; exact ⟨a1, _, c1, e1⟩
  subst hv'
  have hp4 := H3.out.pushB ho hg hat
  have za : ∀ q, w4.cell? ⟨k, q, none⟩ = w3.drew.cell? ⟨k, q, none⟩ := fun q => World.cell?_of_block (a := ⟨k, q, none⟩) hp4.2.1
  have z1 : w4.cell? ⟨k, 3, none⟩ = some _ := (za 3).trans (y3.trans (congrArg some HSb.out))
  have z2 : ∀ o, w4.frozen? ⟨k, o, none⟩ = false := fun o => (World.frozen?_of_block (a := ⟨k, o, none⟩) hp4.2.1).trans (yf o)
  have z3 : k < w4.heap.size := Nat.lt_trans yl hp4.2.2
  obtain ⟨x0, x1, x2, x3, x4, x5, xf, xl⟩ := hp4.1.facts
  have HNo : vB.ownBlock ≠ some gg := fun e => ne_ty (H3.out.wb.ty e) (H3.out.wg.ty HOg.out) (by decide) rfl
  have HNk : gg ≠ k := ne_ty (H3.out.wg.ty HOg.out) H3.out.ty (by decide)
  have zt : w4.cell? ⟨gg, go, none⟩ = some (.string t) := (World.cell?_of_block (a := ⟨gg, go, none⟩) (hg.block _ (by show _ < (w3.drew.alloc _).heap.size; simp; exact Nat.lt_succ_of_lt hgl3) (fun e => HNo e.symm))).trans (yt _)
  have xt : (w4.setCell ⟨k, 3, none⟩ (.slice a' n' c')).cell? ⟨gg, go, none⟩ = some (.string t) := (World.cell?_of_block (a := ⟨gg, go, none⟩) (blk_set_other _ _ _ _ HNk)).trans zt
  refine hK.out _ _ (kept_of _ _ ⟨(za 5).trans (y5.trans (congrArg some HSg.out)), zt⟩ z1) (fun hHeld => ?_)
  have HP4 := hide hp4.1
  clear hK K hp4 ho hg hat hHeld ya
  try simp only [Act.put, List.setIfInBounds_toArray, List.set_cons_zero, List.set_cons_succ]
  refine Z_take (i := 16) (d := 190) (v := ?_) (Zs := []) rfl rfl (by kernel_rfl) (by kernel_rfl) (by kernel_rfl) (fun _ _ _ h => h) (fun _ h => absurd h (by decide)) (by kernel_rfl) rfl ?_ (kept_of _ _ ⟨(za 5).trans (y5.trans (congrArg some HSg.out)), zt⟩ z1) ?_
  rotate_left
  · intro W hSw hC
    try dsimp only at hSw
    go_simp
    try with_reducible rfl
  try simp only [List.setIfInBounds_toArray, List.set_cons_zero, List.set_cons_succ]
  refine Z_take (i := 17) (d := 191) (v := ?_) (Zs := []) rfl rfl (by kernel_rfl) (by kernel_rfl) (by kernel_rfl) (fun _ _ _ h => h) (fun _ h => absurd h (by decide)) (by kernel_rfl) rfl ?_ (kept_of _ _ ⟨(za 5).trans (y5.trans (congrArg some HSg.out)), zt⟩ z1) ?_
  rotate_left
  · intro W hSw hC
    try dsimp only at hSw
    go_simp
    try with_reducible rfl
  try simp only [List.setIfInBounds_toArray, List.set_cons_zero, List.set_cons_succ]
  refine wpAnyZ_ready (rs := [18]) (by kernel_rfl) (by simp) ?_
  refine AllReadyZ.cons rfl (fun K hK => ?_) AllReadyZ.nil
  go_simp
  try go_wp2
  refine hK.out _ _ ⟨⟨x5.trans (congrArg some HSg.out), xt⟩, fun q hq e => by subst e; exact absurd (show (true : Bool) = false from hq) (by decide)⟩ (fun hHeld => ?_)
  clear hK K hHeld
  try simp only [Act.put, List.setIfInBounds_toArray, List.set_cons_zero, List.set_cons_succ]
  refine wpAnyZ_done (by kernel_rfl) ?_ _
  obtain ⟨g2, o2, cp2, av, cv, hv2, hcp2, hgl2, hrg2, hcut, hwy, hown⟩ := HP4.out.wg.cut stOk
  have z5 : w4.cell? ⟨k, 5, none⟩ = some (.slice (some ⟨gg, go, none⟩) (G.length + 1) cap) := (za 5).trans (y5.trans (congrArg some HSg.out))
  rw [HSg.out] at hcut x5
  change ∀ u, (Instr.slice 30 _ _ _ _).run Try.prog u = _ at hcut
  have HI : Hid (∃ N', TurnI z w0 k gs gr N' (M + 1) true md n0 ((w4.setCell ⟨k, 3, none⟩ (.slice a' n' c')).setCell ⟨k, 5, none⟩ (.slice av G.length cv))) := ⟨N, s, r, Ts, _, vO, _, _, O, _, G, e, p, L, a, b, HP4.out.popG hwy hown, HAl.out⟩
  clear hwy hown hrg2 hv2 hcp2 hgl2 HP4
  go_wp2
  go_ret
  exact ⟨rfl, HI.out⟩
end
end Go.Proofs.Ytjipcdknkghoaaa
