
/- LinkAgree: a turn: a grant. -/
import Derived.Test.YtjipcdknkghoaaaLTurnM
import Derived.Deep.RegionHeld
import Derived.BigQuiet
import Derived.Deep.QuietTactic
namespace Go.Proofs.Ytjipcdknkghoaaa
open Go.RowKit Go.Maps
set_option linter.unusedVariables false
set_option linter.unusedSimpArgs false

section
variable {z : Nat} {w0 : World} {k gs gr N M : Nat} {sec : Bool} {md n0 e p L a b : Int} {s r : Lk} {Ts Tr : List (ByteArray × Dv)} {vO vB vG : Value} {O B : List Itm} {G : List ByteArray}
set_option maxRecDepth 100000 in
set_option maxHeartbeats 16000000 in
theorem turn_0n (kd n : Int) (f : Bool) (w : World) (hp : Pm z w0 w k gs gr N s r Ts Tr vO vB vG O B G) (ha : Al sec md N M n0 e p L a b s r Ts Tr O B G) (hM : M ≤ 999999999) (hk : qk kd = 0) (hn : isIn n 2147483647 = false) :
    Calls Try.prog 7 #[.pointer (some ⟨k, 0, none⟩), .agg (tnA kd n f), .bool sec, .int .i64 md] w fun e1 w' => e1 = .returned (.bool true) ∧ ∃ N', TurnI z w0 k gs gr N' (M + 1) sec md n0 w' := by
  unfold tnA
  have hlow := qk_low kd
  obtain ⟨V, hV⟩ : ∃ V, w.alloc (.cells #[.int .i64 kd, .int .i64 n, .bool f] 35) = V := ⟨_, rfl⟩
  have hbV : Below w.heap.size w V := hV ▸ bel1 (Below.refl _ _) (Nat.le_refl _) _
  have hV0 := hp.go hbV
  have hbx : V.heap[w.heap.size]? = some (.cells #[.int .i64 kd, .int .i64 n, .bool f] 35 (0, 0)) := hV ▸ heap_alloc_last w _
  have bl : w.heap.size < V.heap.size := (Array.getElem?_eq_some_iff.1 hbx).1
  have b0 : V.cell? ⟨w.heap.size, 0, none⟩ = some (.int .i64 kd) := cellOf hbx 0 _ rfl
  have b1 : V.cell? ⟨w.heap.size, 1, none⟩ = some (.int .i64 n) := cellOf hbx 1 _ rfl
  have b2 : V.cell? ⟨w.heap.size, 2, none⟩ = some (.bool f) := cellOf hbx 2 _ rfl
  obtain ⟨c0, c1, c2, c3, c4, c5, cf, cl⟩ := hV0.facts
  have tbx : tyB V w.heap.size = some 35 := ty_cells hbx
  have tgs : tyB V gs = some 84 := ty_cells hV0.ls.lb
  have tgr : tyB V gr = some 84 := ty_cells hV0.lr.lb
  have tds : tyB V s.dm = none := hV0.ls.tb.ty
  have tdr : tyB V r.dm = none := hV0.lr.tb.ty
  have HV := hide hV
  have H0 := hide hV0
  unfold qk at hk
  have hnn : n < 0 ∨ 2147483647 < n := by
    simp [isIn] at hn
    omega
  have HG : Hid (Calls Try.prog 20 #[.pointer (some ⟨gr, 0, none⟩), .int .i64 n, .bool f] V.drew fun e1 w3 => e1 = .returned (.int .i64 1) ∧ Hid (V.drew = w3) ∧ (w3.cell? ⟨k, 1, none⟩ = some (.pointer (some ⟨gr, 0, none⟩)) ∧ w3.cell? ⟨w.heap.size, 1, none⟩ = some (.int .i64 n) ∧ w3.cell? ⟨w.heap.size, 2, none⟩ = some (.bool f))) :=
    (grant_arg gr r n f V.drew hV0.lr.lb ha.lf.rr hn).mono fun e1 w3 ⟨e2, e3⟩ => ⟨e2, e3, by rw [← e3]; exact ⟨c1, b1, b2⟩⟩
  have HA := hide ha
  clear hp ha hV hV0 hbx hbV tbx tgs tgr tds tdr hn
  rcases hnn with hn | hn
  · go_enter Try.func7, Try.ntmps7
    go_wp2_with (rw [HV.out])
    go_region_held (fun W => W.cell? ⟨k, 1, none⟩ = some (.pointer (some ⟨gr, 0, none⟩)) ∧ W.cell? ⟨w.heap.size, 1, none⟩ = some (.int .i64 n) ∧ W.cell? ⟨w.heap.size, 2, none⟩ = some (.bool f)) (first | assumption | go_keep) (first | (go_at_call 20; refine Calls.mono HG.out ?_; rintro e3 w3 ⟨rfl, hM3, hs3⟩))
    have q1 := hs3.2.1
    have q2 : w.heap.size < w3.heap.size := hM3.out ▸ bl
    have H3 : Hid (Pm z w0 w3 k gs gr N s r Ts Tr vO vB vG O B G) := hM3.out ▸ H0.out.go (bel_drew V)
    clear hs3 hM3

    go_wp2
    go_ret
    exact ⟨by first | rfl | simp [hn] | (simp; omega), N, s, r, Ts, Tr, vO, vB, vG, O, B, G, e, p, L, a, b, H3.out, HA.out.more (by omega)⟩
  · go_enter Try.func7, Try.ntmps7
    go_wp2_with (rw [HV.out])
    go_region_held (fun W => W.cell? ⟨k, 1, none⟩ = some (.pointer (some ⟨gr, 0, none⟩)) ∧ W.cell? ⟨w.heap.size, 1, none⟩ = some (.int .i64 n) ∧ W.cell? ⟨w.heap.size, 2, none⟩ = some (.bool f)) (first | assumption | go_keep) (first | (go_at_call 20; refine Calls.mono HG.out ?_; rintro e3 w3 ⟨rfl, hM3, hs3⟩))
    have q1 := hs3.2.1
    have q2 : w.heap.size < w3.heap.size := hM3.out ▸ bl
    have H3 : Hid (Pm z w0 w3 k gs gr N s r Ts Tr vO vB vG O B G) := hM3.out ▸ H0.out.go (bel_drew V)
    clear hs3 hM3
    have hn0 : ¬ n < 0 := by omega
    go_wp2
    go_ret
    exact ⟨by first | rfl | simp [hn] | (simp; omega), N, s, r, Ts, Tr, vO, vB, vG, O, B, G, e, p, L, a, b, H3.out, HA.out.more (by omega)⟩
set_option maxRecDepth 100000 in
set_option maxHeartbeats 16000000 in
theorem turn_0y (kd n : Int) (f : Bool) (w : World) (hp : Pm z w0 w k gs gr N s r Ts Tr vO vB vG O B G) (ha : Al sec md N M n0 e p L a b s r Ts Tr O B G) (hM : M ≤ 999999999) (hk : qk kd = 0) (hn : isIn n 2147483647 = true) :
    Calls Try.prog 7 #[.pointer (some ⟨k, 0, none⟩), .agg (tnA kd n f), .bool sec, .int .i64 md] w fun e1 w' => e1 = .returned (.bool true) ∧ ∃ N', TurnI z w0 k gs gr N' (M + 1) sec md n0 w' := by
  unfold tnA
  have hlow := qk_low kd
  obtain ⟨V, hV⟩ : ∃ V, w.alloc (.cells #[.int .i64 kd, .int .i64 n, .bool f] 35) = V := ⟨_, rfl⟩
  have hbV : Below w.heap.size w V := hV ▸ bel1 (Below.refl _ _) (Nat.le_refl _) _
  have hV0 := hp.go hbV
  have hbx : V.heap[w.heap.size]? = some (.cells #[.int .i64 kd, .int .i64 n, .bool f] 35 (0, 0)) := hV ▸ heap_alloc_last w _
  have bl : w.heap.size < V.heap.size := (Array.getElem?_eq_some_iff.1 hbx).1
  have b0 : V.cell? ⟨w.heap.size, 0, none⟩ = some (.int .i64 kd) := cellOf hbx 0 _ rfl
  have b1 : V.cell? ⟨w.heap.size, 1, none⟩ = some (.int .i64 n) := cellOf hbx 1 _ rfl
  have b2 : V.cell? ⟨w.heap.size, 2, none⟩ = some (.bool f) := cellOf hbx 2 _ rfl
  obtain ⟨c0, c1, c2, c3, c4, c5, cf, cl⟩ := hV0.facts
  have tbx : tyB V w.heap.size = some 35 := ty_cells hbx
  have tgs : tyB V gs = some 84 := ty_cells hV0.ls.lb
  have tgr : tyB V gr = some 84 := ty_cells hV0.lr.lb
  have tds : tyB V s.dm = none := hV0.ls.tb.ty
  have tdr : tyB V r.dm = none := hV0.lr.tb.ty
  have HV := hide hV
  have H0 := hide hV0
  unfold qk at hk
  have hnn : 0 ≤ n ∧ n ≤ 2147483647 := by
    simp [isIn] at hn
    omega
  obtain ⟨L', b', hAl⟩ := ha.grant hnn f
  obtain ⟨ab, cb, hsb⟩ := hp.wb.shape
  have HSb := hide hsb
  have hng : w.heap.size ≠ gr := ne_ty tbx tgr (by decide)
  have hkg : k ≠ gr := ne_ty hV0.ty tgr (by decide)
  have HG : Hid (Calls Try.prog 20 #[.pointer (some ⟨gr, 0, none⟩), .int .i64 n, .bool f] V.drew fun e1 w3 => e1 = .returned (.int .i64 0) ∧ Hid (LB w3 gr (r.grant n f) ∧ Kp (fun q => q = gr) V.drew w3) ∧ (w3.cell? ⟨k, 1, none⟩ = some (.pointer (some ⟨gr, 0, none⟩)) ∧ w3.cell? ⟨w.heap.size, 1, none⟩ = some (.int .i64 n) ∧ w3.cell? ⟨w.heap.size, 2, none⟩ = some (.bool f))) :=
    (grant_any gr r n f V.drew hV0.lr.lb ha.lf.rr hn).mono fun e1 w3 ⟨e2, s1, k1⟩ => ⟨e2, ⟨s1, k1⟩, (k1.cell (b := k) (o := 1) cl hkg).trans c1, (k1.cell (b := w.heap.size) (o := 1) bl hng).trans b1, (k1.cell (b := w.heap.size) (o := 2) bl hng).trans b2⟩
  have HAl := hide hAl
  have HBl : Hid (B.length ≤ 1000000000) := by show _ ≤ _; have := ha.lb; omega
  clear hp ha hV hV0 hbx hbV tbx tgs tgr tds tdr hn hnn hAl hsb hng hkg
  go_enter Try.func7, Try.ntmps7
  go_wp2_with (rw [HV.out])
  go_region_held (fun W => W.cell? ⟨k, 1, none⟩ = some (.pointer (some ⟨gr, 0, none⟩)) ∧ W.cell? ⟨w.heap.size, 1, none⟩ = some (.int .i64 n) ∧ W.cell? ⟨w.heap.size, 2, none⟩ = some (.bool f)) (first | assumption | go_keep) (first | (go_at_call 20; refine Calls.mono HG.out ?_; rintro e3 w3 ⟨rfl, hM3, hs3⟩))
  have hd := H0.out.go (bel_drew V)
  have h3 := hd.recv (hd.lr.turn hM3.out.1 rfl hM3.out.2) rfl (kpL hM3.out.2)
  have H3 := hide (h3.go (bel_drew w3))
  obtain ⟨d0, d1, d2, d3, d4, d5, df, dl⟩ := h3.facts
  rw [HSb.out] at d3
  have HF := hide (fields_any gr (r.grant n f) 3 w3.drew H3.out.lr.lb)
  have d1d : w3.drew.cell? ⟨k, 1, none⟩ = some (.pointer (some ⟨gr, 0, none⟩)) := d1
  have d3d : w3.drew.cell? ⟨k, 3, none⟩ = some (.slice ab B.length cb) := d3
  clear hd h3 hM3 hs3 HG c0 c1 c2 c3 c4 c5 cf cl b0 b1 b2 HV H0
  go_wp2
  refine wp_region_Z (S := (fun W => W.cell? ⟨k, 1, none⟩ = some (.pointer (some ⟨gr, 0, none⟩)))) (C := (fun z W => z = 12 → W.cell? ⟨k, 3, none⟩ = some (.slice ab B.length cb))) (by kernel_rfl) (kept_of _ _ d1d d3d) (fun hHeld => ?_)
  refine Z_take (i := 0) (d := 41) (v := ?_) (Zs := []) rfl rfl (by kernel_rfl) (by kernel_rfl) (by kernel_rfl) (fun _ _ _ h => h) (fun _ h => absurd h (by decide)) (by kernel_rfl) rfl ?_ (kept_of _ _ d1d d3d) ?_
  rotate_left
  · intro W hSw hC
    try dsimp only at hSw
    go_simp
    try with_reducible rfl
  try simp only [List.setIfInBounds_toArray, List.set_cons_zero, List.set_cons_succ]
  refine Z_take (i := 1) (d := 42) (v := ?_) (Zs := []) rfl rfl (by kernel_rfl) (by kernel_rfl) (by kernel_rfl) (fun _ _ _ h => h) (fun _ h => absurd h (by decide)) (by kernel_rfl) rfl ?_ (kept_of _ _ d1d d3d) ?_
  rotate_left
  · intro W hSw hC
    try dsimp only at hSw
    go_simp
    try with_reducible rfl
  try simp only [List.setIfInBounds_toArray, List.set_cons_zero, List.set_cons_succ]
  refine Z_take (i := 2) (d := 43) (v := ?_) (Zs := []) rfl rfl (by kernel_rfl) (by kernel_rfl) (by kernel_rfl) (fun _ _ _ h => h) (fun _ h => absurd h (by decide)) (by kernel_rfl) rfl ?_ (kept_of _ _ d1d d3d) ?_
  rotate_left
  · intro W hSw hC
    try dsimp only at hSw
    go_simp
    try with_reducible rfl
  try simp only [List.setIfInBounds_toArray, List.set_cons_zero, List.set_cons_succ]
  refine Z_take (i := 3) (d := 44) (v := ?_) (Zs := []) rfl rfl (by kernel_rfl) (by kernel_rfl) (by kernel_rfl) (fun _ _ _ h => h) (fun _ h => absurd h (by decide)) (by kernel_rfl) rfl ?_ (kept_of _ _ d1d d3d) ?_
  rotate_left
  · intro W hSw hC
    try dsimp only at hSw
    go_simp
    try with_reducible rfl
  try simp only [List.setIfInBounds_toArray, List.set_cons_zero, List.set_cons_succ]
  refine Z_take (i := 4) (d := 45) (v := ?_) (Zs := [12]) rfl rfl (by kernel_rfl) (by kernel_rfl) (by kernel_rfl) (fun _ _ _ h => h) (fun _ h => absurd h (by decide)) (by kernel_rfl) rfl ?_ (kept_of _ _ d1d d3d) ?_
  rotate_left
  · intro W hSw hC
    have hC12 := hC 12 (by simp) rfl; try dsimp only at hSw
    go_simp
    try with_reducible rfl
  try simp only [List.setIfInBounds_toArray, List.set_cons_zero, List.set_cons_succ]
  refine Z_take (i := 5) (d := 46) (v := ?_) (Zs := []) rfl rfl (by kernel_rfl) (by kernel_rfl) (by kernel_rfl) (fun _ _ _ h => h) (fun _ h => absurd h (by decide)) (by kernel_rfl) rfl ?_ (kept_of _ _ d1d d3d) ?_
  rotate_left
  · intro W hSw hC
    try dsimp only at hSw
    go_simp
    try with_reducible rfl
  try simp only [List.setIfInBounds_toArray, List.set_cons_zero, List.set_cons_succ]
  refine Z_take (i := 6) (d := 47) (v := ?_) (Zs := []) rfl rfl (by kernel_rfl) (by kernel_rfl) (by kernel_rfl) (fun _ _ _ h => h) (fun _ h => absurd h (by decide)) (by kernel_rfl) rfl ?_ (kept_of _ _ d1d d3d) ?_
  rotate_left
  · intro W hSw hC
    try dsimp only at hSw
    go_simp
    try with_reducible rfl
  try simp only [List.setIfInBounds_toArray, List.set_cons_zero, List.set_cons_succ]
  refine Z_take (i := 7) (d := 48) (v := ?_) (Zs := []) rfl rfl (by kernel_rfl) (by kernel_rfl) (by kernel_rfl) (fun _ _ _ h => h) (fun _ h => absurd h (by decide)) (by kernel_rfl) rfl ?_ (kept_of _ _ d1d d3d) ?_
  rotate_left
  · intro W hSw hC
    try dsimp only at hSw
    go_simp
    try with_reducible rfl
  try simp only [List.setIfInBounds_toArray, List.set_cons_zero, List.set_cons_succ]
  refine Z_take (i := 8) (d := 49) (v := ?_) (Zs := []) rfl rfl (by kernel_rfl) (by kernel_rfl) (by kernel_rfl) (fun _ _ _ h => h) (fun _ h => absurd h (by decide)) (by kernel_rfl) rfl ?_ (kept_of _ _ d1d d3d) ?_
  rotate_left
  · intro W hSw hC
    try dsimp only at hSw
    go_simp
    try with_reducible rfl
  try simp only [List.setIfInBounds_toArray, List.set_cons_zero, List.set_cons_succ]
  refine wpAnyZ_ready (rs := [9]) (by kernel_rfl) (by simp) ?_
  refine AllReadyZ.cons rfl (fun K hK => ?_) AllReadyZ.nil
  go_simp
  go_wp2_with (go_at_call 22; refine HF.out.mono ?_; rintro e5 w5 ⟨rfl, hb5⟩)
  have H5 := hide (H3.out.go hb5)
  have d15 : w5.cell? ⟨k, 1, none⟩ = some (.pointer (some ⟨gr, 0, none⟩)) := H5.out.facts.2.1
  have d35 : w5.cell? ⟨k, 3, none⟩ = some (.slice ab B.length cb) := H5.out.facts.2.2.2.1.trans (congrArg some HSb.out)
  refine hK.out _ _ (kept_of _ _ d15 d35) (fun hHeld => ?_)
  clear hK K hHeld hb5 d1d d3d d0 d1 d2 d3 d4 d5 df dl HF
  try simp only [Act.put, List.setIfInBounds_toArray, List.set_cons_zero, List.set_cons_succ]
  refine Z_take (i := 10) (d := 51) (v := .agg ⟨(⟨0, some (r.grant n f), 3, ⟨#[]⟩, false⟩ : Itm).enc⟩) (Zs := []) rfl rfl (by kernel_rfl) (by kernel_rfl) (by kernel_rfl) (fun _ _ _ h => h) (fun _ h => absurd h (by decide)) (by kernel_rfl) rfl ?_ (kept_of _ _ d15 d35) ?_
  · intro W hSw hC
    exact built_run W 86 _ _ (by kernel_rfl)
  try simp only [List.setIfInBounds_toArray, List.set_cons_zero, List.set_cons_succ]
  refine wpAnyZ_ready (rs := [11]) (by kernel_rfl) (by simp) ?_
  refine AllReadyZ.cons rfl (fun K hK => ?_) AllReadyZ.nil
  rw [if_pos (by kernel_rfl)]
  refine wp_build_one itOk (.tmp 51) rfl ⟨0, some (r.grant n f), 3, ⟨#[]⟩, false⟩ rfl ?_
  obtain ⟨y0, y1, y2, y3, y4, y5, yf, yl⟩ := H5.out.facts
  have ya : ∀ (o : Obj) (q : Nat), (w5.alloc o).cell? ⟨k, q, none⟩ = w5.cell? ⟨k, q, none⟩ := fun o q => World.cell?_alloc_lt w5 o ⟨k, q, none⟩ yl
  refine hK.out _ _ (kept_of _ _ ((ya _ 1).trans y1) ((ya _ 3).trans (y3.trans (congrArg some HSb.out)))) (fun hHeld => ?_)
  clear hK K hHeld
  try simp only [Act.put, List.setIfInBounds_toArray, List.set_cons_zero, List.set_cons_succ]
  refine wpAnyZ_ready (rs := [12]) (by kernel_rfl) (by simp) ?_
  refine AllReadyZ.cons rfl (fun K hK => ?_) AllReadyZ.nil
  rw [if_pos (by kernel_rfl)]
  refine wp_append_way itOk _ (.tmp 45) (.tmp 52) rfl z vB B ⟨0, some (r.grant n f), 3, ⟨#[]⟩, false⟩ HSb.out.symm (H5.out.wb.at fun q e => Below.heap_alloc _ _ _ (H5.out.wb.lt e).2) w5.heap.size 1 rfl (heap_alloc_last w5 _) (by have := H5.out.zz; show z ≤ (w5.alloc _).heap.size; simp; exact Nat.le_trans this (Nat.le_succ _)) HBl.out ?_
  intro v' w4 ho hg hat
  obtain ⟨a', n', c', hv'⟩ : ∃ a' n' c', v' = Value.slice a' n' c' := by obtain ⟨a1, c1, e1⟩ := ho.shape; exact ⟨a1, _, c1, e1⟩
  subst hv'
  have hp4 := H5.out.pushB ho hg hat
  have za : ∀ q, w4.cell? ⟨k, q, none⟩ = w5.cell? ⟨k, q, none⟩ := fun q => World.cell?_of_block (a := ⟨k, q, none⟩) hp4.2.1
  have z1 : w4.cell? ⟨k, 3, none⟩ = some _ := (za 3).trans (y3.trans (congrArg some HSb.out))
  have z2 : ∀ o, w4.frozen? ⟨k, o, none⟩ = false := fun o => (World.frozen?_of_block (a := ⟨k, o, none⟩) hp4.2.1).trans (yf o)
  have z3 : k < w4.heap.size := Nat.lt_trans yl hp4.2.2
  obtain ⟨x0, x1, x2, x3, x4, x5, xf, xl⟩ := hp4.1.facts
  refine hK.out _ _ (kept_of _ _ ((za 1).trans y1) z1) (fun hHeld => ?_)
  have HP4 := hide hp4.1
  clear hK K hp4 ho hg hat hHeld ya
  try simp only [Act.put, List.setIfInBounds_toArray, List.set_cons_zero, List.set_cons_succ]
  refine Z_take (i := 13) (d := 54) (v := ?_) (Zs := []) rfl rfl (by kernel_rfl) (by kernel_rfl) (by kernel_rfl) (fun _ _ _ h => h) (fun _ h => absurd h (by decide)) (by kernel_rfl) rfl ?_ (kept_of _ _ ((za 1).trans y1) z1) ?_
  rotate_left
  · intro W hSw hC
    try dsimp only at hSw
    go_simp
    try with_reducible rfl
  try simp only [List.setIfInBounds_toArray, List.set_cons_zero, List.set_cons_succ]
  refine Z_take (i := 14) (d := 55) (v := ?_) (Zs := []) rfl rfl (by kernel_rfl) (by kernel_rfl) (by kernel_rfl) (fun _ _ _ h => h) (fun _ h => absurd h (by decide)) (by kernel_rfl) rfl ?_ (kept_of _ _ ((za 1).trans y1) z1) ?_
  rotate_left
  · intro W hSw hC
    try dsimp only at hSw
    go_simp
    try with_reducible rfl
  try simp only [List.setIfInBounds_toArray, List.set_cons_zero, List.set_cons_succ]
  refine wpAnyZ_ready (rs := [15]) (by kernel_rfl) (by simp) ?_
  refine AllReadyZ.cons rfl (fun K hK => ?_) AllReadyZ.nil
  go_simp
  try go_wp2
  refine hK.out _ _ ⟨x1, fun q hq e => by subst e; exact absurd (show (true : Bool) = false from hq) (by decide)⟩ (fun hHeld => ?_)
  clear hK K hHeld
  try simp only [Act.put, List.setIfInBounds_toArray, List.set_cons_zero, List.set_cons_succ]
  refine wpAnyZ_done (by kernel_rfl) ?_ _
  have HI : Hid (∃ N', TurnI z w0 k gs gr N' (M + 1) sec md n0 (w4.setCell ⟨k, 3, none⟩ (.slice a' n' c'))) := ⟨N, s, _, Ts, Tr, vO, _, vG, O, _, G, e, p, L', a, b', HP4.out, HAl.out⟩
  go_wp2
  go_ret
  exact ⟨rfl, HI.out⟩
end
end Go.Proofs.Ytjipcdknkghoaaa
