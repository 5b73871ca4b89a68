
/- LinkAgree: a turn: a delivery is sent. -/
import Derived.Test.YtjipcdknkghoaaaLTurnM
import Derived.Deep.RegionHeld
import Derived.BigQuiet
import Derived.Deep.QuietTactic
namespace Go.Proofs.Ytjipcdknkghoaaa
open Go.RowKit Go.Maps
set_option linter.unusedVariables false
set_option linter.unusedSimpArgs false

section
variable {z : Nat} {w0 : World} {k gs gr N M : Nat} {sec : Bool} {md n0 e p L a b : Int} {s r : Lk} {Ts Tr : List (ByteArray × Dv)} {vO vB vG : Value} {O B : List Itm} {G : List ByteArray}
set_option maxRecDepth 100000 in
set_option maxHeartbeats 16000000 in
theorem turn_1na (kd n : Int) (f : Bool) (w : World) (hp : Pm z w0 w k gs gr N s r Ts Tr vO vB vG O B G) (ha : Al sec 0 N M n0 e p L a b s r Ts Tr O B G) (hM : M ≤ 999999999) (hk : qk kd = 1) (hc : s.cr = 0) :
    Calls Try.prog 7 #[.pointer (some ⟨k, 0, none⟩), .agg (tnA kd n f), .bool sec, .int .i64 0] w fun e1 w' => e1 = .returned (.bool true) ∧ ∃ N', TurnI z w0 k gs gr N' (M + 1) sec 0 n0 w' := by
  unfold tnA
  have hlow := qk_low kd
  obtain ⟨V, hV⟩ : ∃ V, w.alloc (.cells #[.int .i64 kd, .int .i64 n, .bool f] 35) = V := ⟨_, rfl⟩
  have hbV : Below w.heap.size w V := hV ▸ bel1 (Below.refl _ _) (Nat.le_refl _) _
  have hV0 := hp.go hbV
  have hbx : V.heap[w.heap.size]? = some (.cells #[.int .i64 kd, .int .i64 n, .bool f] 35 (0, 0)) := hV ▸ heap_alloc_last w _
  have bl : w.heap.size < V.heap.size := (Array.getElem?_eq_some_iff.1 hbx).1
  have b0 : V.cell? ⟨w.heap.size, 0, none⟩ = some (.int .i64 kd) := cellOf hbx 0 _ rfl
  have b1 : V.cell? ⟨w.heap.size, 1, none⟩ = some (.int .i64 n) := cellOf hbx 1 _ rfl
  have b2 : V.cell? ⟨w.heap.size, 2, none⟩ = some (.bool f) := cellOf hbx 2 _ rfl
  obtain ⟨c0, c1, c2, c3, c4, c5, cf, cl⟩ := hV0.facts
  have tbx : tyB V w.heap.size = some 35 := ty_cells hbx
  have tgs : tyB V gs = some 84 := ty_cells hV0.ls.lb
  have tgr : tyB V gr = some 84 := ty_cells hV0.lr.lb
  have tds : tyB V s.dm = none := hV0.ls.tb.ty
  have tdr : tyB V r.dm = none := hV0.lr.tb.ty
  have HV := hide hV
  have H0 := hide hV0
  unfold qk at hk
  have hNb : N ≤ 999999999 := Nat.le_trans ha.ln hM
  have hNi : (N : Int) ≤ 999999999 := by omega
  have hkg : k ≠ gs := ne_ty hV0.ty tgs (by decide)
  have hkm : k ≠ s.dm := ne_ty hV0.ty tds (by decide)
  have HSee := hide (see_any gs s Ts V hV0.ls)
  unfold Lk.see at HSee
  rw [hc] at HSee
  have HSd : Hid (∀ W, Pm z w0 W k gs gr N s r Ts Tr vO vB vG O B G → Calls Try.prog 19 #[.pointer (some ⟨gs, 0, none⟩), .string (tagB N), .bool false] W fun e1 w3 => e1 = .returned (.int .i64 140) ∧ Hid (Pm z w0 w3 k gs gr N s r Ts Tr vO vB vG O B G) ∧ (w3.cell? ⟨k, 0, none⟩ = some (.pointer (some ⟨gs, 0, none⟩)) ∧ w3.cell? ⟨k, 4, none⟩ = some (.int .i64 (N : Int)))) := fun W hW =>
    (send_no gs s (tagB N) false W hW.ls.lb ha.lf.sr hc (by rw [tagB_size]; decide) (by rw [tagB_size]; decide)).mono fun e1 w3 ⟨e2, e3⟩ => by
      subst e3
      exact ⟨e2, hW, hW.facts.1, hW.facts.2.2.2.2.1⟩
  have HAl := hide ha
  clear hp ha hV hV0 hbx hbV tbx tgs tgr tds tdr hc hkg hkm hNb
  go_enter Try.func7, Try.ntmps7
  go_wp2_with (first | rw [HV.out] | (go_at_call 9; refine HSee.out.mono ?_; rintro e2 w2 ⟨rfl, hb2⟩; refine Shut.out ?_))
  unfold Shut
  have h2 := H0.out.go hb2
  have H2 := hide (h2.go (bel_drew w2))
  clear HSee hb2 b0 b1 b2 bl c0 c1 c2 c3 c4 c5 cf cl H0 HV
  obtain ⟨c0, c1, c2, c3, c4, c5, cf, cl⟩ := h2.facts
  have HS2 : Hid (w2.drew.cell? ⟨k, 0, none⟩ = some (.pointer (some ⟨gs, 0, none⟩)) ∧ w2.drew.cell? ⟨k, 4, none⟩ = some (.int .i64 (N : Int))) := ⟨c0, c4⟩
  have HTg := hide (tags_any N w2.drew (by omega))
  clear h2
  have hrs := run_seeCr
  go_wp2
  clear hrs
  refine wp_region_held_drew (S := fun W => W.cell? ⟨k, 0, none⟩ = some (.pointer (some ⟨gs, 0, none⟩)) ∧ W.cell? ⟨k, 4, none⟩ = some (.int .i64 (N : Int))) (by kernel_rfl) HS2.out (fun hHeld => ?_)
  refine take_do (i := 0) (d := 74) (v := ?_) rfl rfl (by kernel_rfl) (by kernel_rfl) (by kernel_rfl) (fun _ _ _ h => h) rfl ?_ (by assumption) ?_
  rotate_left
  · intro W hSw
    try dsimp only at hSw
    go_simp
    try with_reducible rfl
  try simp only [List.setIfInBounds_toArray, List.set_cons_zero, List.set_cons_succ]
  refine take_do (i := 1) (d := 75) (v := ?_) rfl rfl (by kernel_rfl) (by kernel_rfl) (by kernel_rfl) (fun _ _ _ h => h) rfl ?_ (by assumption) ?_
  rotate_left
  · intro W hSw
    try dsimp only at hSw
    go_simp
    try with_reducible rfl
  try simp only [List.setIfInBounds_toArray, List.set_cons_zero, List.set_cons_succ]
  refine take_do (i := 2) (d := 76) (v := ?_) rfl rfl (by kernel_rfl) (by kernel_rfl) (by kernel_rfl) (fun _ _ _ h => h) rfl ?_ (by assumption) ?_
  rotate_left
  · intro W hSw
    try dsimp only at hSw
    go_simp
    try with_reducible rfl
  try simp only [List.setIfInBounds_toArray, List.set_cons_zero, List.set_cons_succ]
  refine take_do (i := 3) (d := 77) (v := ?_) rfl rfl (by kernel_rfl) (by kernel_rfl) (by kernel_rfl) (fun _ _ _ h => h) rfl ?_ (by assumption) ?_
  rotate_left
  · intro W hSw
    try dsimp only at hSw
    go_simp
    try with_reducible rfl
  try simp only [List.setIfInBounds_toArray, List.set_cons_zero, List.set_cons_succ]
  refine take_do (i := 4) (d := 78) (v := ?_) rfl rfl (by kernel_rfl) (by kernel_rfl) (by kernel_rfl) (fun _ _ _ h => h) rfl ?_ (by assumption) ?_
  rotate_left
  · intro W hSw
    try dsimp only at hSw
    go_simp
    try with_reducible rfl
  try simp only [List.setIfInBounds_toArray, List.set_cons_zero, List.set_cons_succ]
  refine take_do (i := 5) (d := 79) (v := ?_) rfl rfl (by kernel_rfl) (by kernel_rfl) (by kernel_rfl) (fun _ _ _ h => h) rfl ?_ (by assumption) ?_
  rotate_left
  · intro W hSw
    try dsimp only at hSw
    go_simp
    try with_reducible rfl
  try simp only [List.setIfInBounds_toArray, List.set_cons_zero, List.set_cons_succ]
  refine take_do (i := 6) (d := 80) (v := ?_) rfl rfl (by kernel_rfl) (by kernel_rfl) (by kernel_rfl) (fun _ _ _ h => h) rfl ?_ (by assumption) ?_
  rotate_left
  · intro W hSw
    try dsimp only at hSw
    go_simp
    try with_reducible rfl
  try simp only [List.setIfInBounds_toArray, List.set_cons_zero, List.set_cons_succ]
  refine take_do (i := 7) (d := 81) (v := ?_) rfl rfl (by kernel_rfl) (by kernel_rfl) (by kernel_rfl) (fun _ _ _ h => h) rfl ?_ (by assumption) ?_
  rotate_left
  · intro W hSw
    try dsimp only at hSw
    go_simp
    try with_reducible rfl
  try simp only [List.setIfInBounds_toArray, List.set_cons_zero, List.set_cons_succ]
  refine take_do (i := 9) (d := 83) (v := ?_) rfl rfl (by kernel_rfl) (by kernel_rfl) (by kernel_rfl) (fun _ _ _ h => h) rfl ?_ (by assumption) ?_
  rotate_left
  · intro W hSw
    try dsimp only at hSw
    go_simp
    try with_reducible rfl
  try simp only [List.setIfInBounds_toArray, List.set_cons_zero, List.set_cons_succ]
  refine wpAnyH_ready (rs := [8]) (by kernel_rfl) (by simp) ?_
  refine AllReadyH.cons rfl (fun K hK => ?_) AllReadyH.nil
  go_simp
  go_wp2_with (go_at_call 27; refine HTg.out.mono ?_; rintro e5 w5 ⟨rfl, hb5⟩)
  have h5 := H2.out.go hb5
  have HSd5 := hide (HSd.out w5 h5)
  refine hK.out _ _ ⟨h5.facts.1, h5.facts.2.2.2.2.1⟩ (fun hHeld => ?_)
  clear hK K hb5 HTg HSd h5 H2 HS2
  try simp only [Act.put, List.setIfInBounds_toArray, List.set_cons_zero, List.set_cons_succ]
  refine wpAnyH_ready (rs := [10]) (by kernel_rfl) (by simp) ?_
  refine AllReadyH.cons rfl (fun K hK => ?_) AllReadyH.nil
  go_simp
  go_wp2_with (go_at_call 19; refine HSd5.out.mono ?_; rintro e6 w6 ⟨rfl, hM6, hs6⟩)
  refine hK.out _ _ hs6 (fun hHeld => ?_)
  clear hK K
  try simp only [Act.put, List.setIfInBounds_toArray, List.set_cons_zero, List.set_cons_succ]
  refine take_do (i := 11) (d := 12) (v := ?_) rfl rfl (by kernel_rfl) (by kernel_rfl) (by kernel_rfl) (fun _ _ _ h => h) rfl ?_ (by assumption) ?_
  rotate_left
  · intro W hSw
    try dsimp only at hSw
    go_simp
    try with_reducible rfl
  try simp only [List.setIfInBounds_toArray, List.set_cons_zero, List.set_cons_succ]
  refine wpAnyH_done (by kernel_rfl) ?_ _
  clear hs6 HSd5 c0 c1 c2 c3 c4 c5 cf cl hHeld
  go_wp2
  go_ret
  exact ⟨rfl, N, s, r, Ts, Tr, vO, vB, vG, O, B, G, e, p, L, a, b, hM6.out, HAl.out.more (by omega)⟩
set_option maxRecDepth 100000 in
set_option maxHeartbeats 16000000 in
theorem turn_1nb (kd n : Int) (f : Bool) (w : World) (hp : Pm z w0 w k gs gr N s r Ts Tr vO vB vG O B G) (ha : Al sec 1 N M n0 e p L a b s r Ts Tr O B G) (hM : M ≤ 999999999) (hk : qk kd = 1) (hc : s.cr = 0) :
    Calls Try.prog 7 #[.pointer (some ⟨k, 0, none⟩), .agg (tnA kd n f), .bool sec, .int .i64 1] w fun e1 w' => e1 = .returned (.bool true) ∧ ∃ N', TurnI z w0 k gs gr N' (M + 1) sec 1 n0 w' := by
  unfold tnA
  have hlow := qk_low kd
  obtain ⟨V, hV⟩ : ∃ V, w.alloc (.cells #[.int .i64 kd, .int .i64 n, .bool f] 35) = V := ⟨_, rfl⟩
  have hbV : Below w.heap.size w V := hV ▸ bel1 (Below.refl _ _) (Nat.le_refl _) _
  have hV0 := hp.go hbV
  have hbx : V.heap[w.heap.size]? = some (.cells #[.int .i64 kd, .int .i64 n, .bool f] 35 (0, 0)) := hV ▸ heap_alloc_last w _
  have bl : w.heap.size < V.heap.size := (Array.getElem?_eq_some_iff.1 hbx).1
  have b0 : V.cell? ⟨w.heap.size, 0, none⟩ = some (.int .i64 kd) := cellOf hbx 0 _ rfl
  have b1 : V.cell? ⟨w.heap.size, 1, none⟩ = some (.int .i64 n) := cellOf hbx 1 _ rfl
  have b2 : V.cell? ⟨w.heap.size, 2, none⟩ = some (.bool f) := cellOf hbx 2 _ rfl
  obtain ⟨c0, c1, c2, c3, c4, c5, cf, cl⟩ := hV0.facts
  have tbx : tyB V w.heap.size = some 35 := ty_cells hbx
  have tgs : tyB V gs = some 84 := ty_cells hV0.ls.lb
  have tgr : tyB V gr = some 84 := ty_cells hV0.lr.lb
  have tds : tyB V s.dm = none := hV0.ls.tb.ty
  have tdr : tyB V r.dm = none := hV0.lr.tb.ty
  have HV := hide hV
  have H0 := hide hV0
  unfold qk at hk
  have hNb : N ≤ 999999999 := Nat.le_trans ha.ln hM
  have hNi : (N : Int) ≤ 999999999 := by omega
  have hkg : k ≠ gs := ne_ty hV0.ty tgs (by decide)
  have hkm : k ≠ s.dm := ne_ty hV0.ty tds (by decide)
  have HSee := hide (see_any gs s Ts V hV0.ls)
  unfold Lk.see at HSee
  rw [hc] at HSee
  have HSd : Hid (∀ W, Pm z w0 W k gs gr N s r Ts Tr vO vB vG O B G → Calls Try.prog 19 #[.pointer (some ⟨gs, 0, none⟩), .string (tagB N), .bool true] W fun e1 w3 => e1 = .returned (.int .i64 140) ∧ Hid (Pm z w0 w3 k gs gr N s r Ts Tr vO vB vG O B G) ∧ (w3.cell? ⟨k, 0, none⟩ = some (.pointer (some ⟨gs, 0, none⟩)) ∧ w3.cell? ⟨k, 4, none⟩ = some (.int .i64 (N : Int)))) := fun W hW =>
    (send_no gs s (tagB N) true W hW.ls.lb ha.lf.sr hc (by rw [tagB_size]; decide) (by rw [tagB_size]; decide)).mono fun e1 w3 ⟨e2, e3⟩ => by
      subst e3
      exact ⟨e2, hW, hW.facts.1, hW.facts.2.2.2.2.1⟩
  have HAl := hide ha
  clear hp ha hV hV0 hbx hbV tbx tgs tgr tds tdr hc hkg hkm hNb
  go_enter Try.func7, Try.ntmps7
  go_wp2_with (first | rw [HV.out] | (go_at_call 9; refine HSee.out.mono ?_; rintro e2 w2 ⟨rfl, hb2⟩; refine Shut.out ?_))
  unfold Shut
  have h2 := H0.out.go hb2
  have H2 := hide (h2.go (bel_drew w2))
  clear HSee hb2 b0 b1 b2 bl c0 c1 c2 c3 c4 c5 cf cl H0 HV
  obtain ⟨c0, c1, c2, c3, c4, c5, cf, cl⟩ := h2.facts
  have HS2 : Hid (w2.drew.cell? ⟨k, 0, none⟩ = some (.pointer (some ⟨gs, 0, none⟩)) ∧ w2.drew.cell? ⟨k, 4, none⟩ = some (.int .i64 (N : Int))) := ⟨c0, c4⟩
  have HTg := hide (tags_any N w2.drew (by omega))
  clear h2
  have hrs := run_seeCr
  go_wp2
  clear hrs
  refine wp_region_held_drew (S := fun W => W.cell? ⟨k, 0, none⟩ = some (.pointer (some ⟨gs, 0, none⟩)) ∧ W.cell? ⟨k, 4, none⟩ = some (.int .i64 (N : Int))) (by kernel_rfl) HS2.out (fun hHeld => ?_)
  refine take_do (i := 0) (d := 74) (v := ?_) rfl rfl (by kernel_rfl) (by kernel_rfl) (by kernel_rfl) (fun _ _ _ h => h) rfl ?_ (by assumption) ?_
  rotate_left
  · intro W hSw
    try dsimp only at hSw
    go_simp
    try with_reducible rfl
  try simp only [List.setIfInBounds_toArray, List.set_cons_zero, List.set_cons_succ]
  refine take_do (i := 1) (d := 75) (v := ?_) rfl rfl (by kernel_rfl) (by kernel_rfl) (by kernel_rfl) (fun _ _ _ h => h) rfl ?_ (by assumption) ?_
  rotate_left
  · intro W hSw
    try dsimp only at hSw
    go_simp
    try with_reducible rfl
  try simp only [List.setIfInBounds_toArray, List.set_cons_zero, List.set_cons_succ]
  refine take_do (i := 2) (d := 76) (v := ?_) rfl rfl (by kernel_rfl) (by kernel_rfl) (by kernel_rfl) (fun _ _ _ h => h) rfl ?_ (by assumption) ?_
  rotate_left
  · intro W hSw
    try dsimp only at hSw
    go_simp
    try with_reducible rfl
  try simp only [List.setIfInBounds_toArray, List.set_cons_zero, List.set_cons_succ]
  refine take_do (i := 3) (d := 77) (v := ?_) rfl rfl (by kernel_rfl) (by kernel_rfl) (by kernel_rfl) (fun _ _ _ h => h) rfl ?_ (by assumption) ?_
  rotate_left
  · intro W hSw
    try dsimp only at hSw
    go_simp
    try with_reducible rfl
  try simp only [List.setIfInBounds_toArray, List.set_cons_zero, List.set_cons_succ]
  refine take_do (i := 4) (d := 78) (v := ?_) rfl rfl (by kernel_rfl) (by kernel_rfl) (by kernel_rfl) (fun _ _ _ h => h) rfl ?_ (by assumption) ?_
  rotate_left
  · intro W hSw
    try dsimp only at hSw
    go_simp
    try with_reducible rfl
  try simp only [List.setIfInBounds_toArray, List.set_cons_zero, List.set_cons_succ]
  refine take_do (i := 5) (d := 79) (v := ?_) rfl rfl (by kernel_rfl) (by kernel_rfl) (by kernel_rfl) (fun _ _ _ h => h) rfl ?_ (by assumption) ?_
  rotate_left
  · intro W hSw
    try dsimp only at hSw
    go_simp
    try with_reducible rfl
  try simp only [List.setIfInBounds_toArray, List.set_cons_zero, List.set_cons_succ]
  refine take_do (i := 6) (d := 80) (v := ?_) rfl rfl (by kernel_rfl) (by kernel_rfl) (by kernel_rfl) (fun _ _ _ h => h) rfl ?_ (by assumption) ?_
  rotate_left
  · intro W hSw
    try dsimp only at hSw
    go_simp
    try with_reducible rfl
  try simp only [List.setIfInBounds_toArray, List.set_cons_zero, List.set_cons_succ]
  refine take_do (i := 7) (d := 81) (v := ?_) rfl rfl (by kernel_rfl) (by kernel_rfl) (by kernel_rfl) (fun _ _ _ h => h) rfl ?_ (by assumption) ?_
  rotate_left
  · intro W hSw
    try dsimp only at hSw
    go_simp
    try with_reducible rfl
  try simp only [List.setIfInBounds_toArray, List.set_cons_zero, List.set_cons_succ]
  refine take_do (i := 9) (d := 83) (v := ?_) rfl rfl (by kernel_rfl) (by kernel_rfl) (by kernel_rfl) (fun _ _ _ h => h) rfl ?_ (by assumption) ?_
  rotate_left
  · intro W hSw
    try dsimp only at hSw
    go_simp
    try with_reducible rfl
  try simp only [List.setIfInBounds_toArray, List.set_cons_zero, List.set_cons_succ]
  refine wpAnyH_ready (rs := [8]) (by kernel_rfl) (by simp) ?_
  refine AllReadyH.cons rfl (fun K hK => ?_) AllReadyH.nil
  go_simp
  go_wp2_with (go_at_call 27; refine HTg.out.mono ?_; rintro e5 w5 ⟨rfl, hb5⟩)
  have h5 := H2.out.go hb5
  have HSd5 := hide (HSd.out w5 h5)
  refine hK.out _ _ ⟨h5.facts.1, h5.facts.2.2.2.2.1⟩ (fun hHeld => ?_)
  clear hK K hb5 HTg HSd h5 H2 HS2
  try simp only [Act.put, List.setIfInBounds_toArray, List.set_cons_zero, List.set_cons_succ]
  refine wpAnyH_ready (rs := [10]) (by kernel_rfl) (by simp) ?_
  refine AllReadyH.cons rfl (fun K hK => ?_) AllReadyH.nil
  go_simp
  go_wp2_with (go_at_call 19; refine HSd5.out.mono ?_; rintro e6 w6 ⟨rfl, hM6, hs6⟩)
  refine hK.out _ _ hs6 (fun hHeld => ?_)
  clear hK K
  try simp only [Act.put, List.setIfInBounds_toArray, List.set_cons_zero, List.set_cons_succ]
  refine take_do (i := 11) (d := 12) (v := ?_) rfl rfl (by kernel_rfl) (by kernel_rfl) (by kernel_rfl) (fun _ _ _ h => h) rfl ?_ (by assumption) ?_
  rotate_left
  · intro W hSw
    try dsimp only at hSw
    go_simp
    try with_reducible rfl
  try simp only [List.setIfInBounds_toArray, List.set_cons_zero, List.set_cons_succ]
  refine wpAnyH_done (by kernel_rfl) ?_ _
  clear hs6 HSd5 c0 c1 c2 c3 c4 c5 cf cl hHeld
  go_wp2
  go_ret
  exact ⟨rfl, N, s, r, Ts, Tr, vO, vB, vG, O, B, G, e, p, L, a, b, hM6.out, HAl.out.more (by omega)⟩
set_option maxRecDepth 100000 in
set_option maxHeartbeats 16000000 in
theorem turn_1nc (kd n : Int) (f : Bool) (w : World) (hp : Pm z w0 w k gs gr N s r Ts Tr vO vB vG O B G) (ha : Al sec 2 N M n0 e p L a b s r Ts Tr O B G) (hM : M ≤ 999999999) (hk : qk kd = 1) (hf : f = true) (hc : s.cr = 0) :
    Calls Try.prog 7 #[.pointer (some ⟨k, 0, none⟩), .agg (tnA kd n f), .bool sec, .int .i64 2] w fun e1 w' => e1 = .returned (.bool true) ∧ ∃ N', TurnI z w0 k gs gr N' (M + 1) sec 2 n0 w' := by
  subst hf
  unfold tnA
  have hlow := qk_low kd
  obtain ⟨V, hV⟩ : ∃ V, w.alloc (.cells #[.int .i64 kd, .int .i64 n, .bool true] 35) = V := ⟨_, rfl⟩
  have hbV : Below w.heap.size w V := hV ▸ bel1 (Below.refl _ _) (Nat.le_refl _) _
  have hV0 := hp.go hbV
  have hbx : V.heap[w.heap.size]? = some (.cells #[.int .i64 kd, .int .i64 n, .bool true] 35 (0, 0)) := hV ▸ heap_alloc_last w _
  have bl : w.heap.size < V.heap.size := (Array.getElem?_eq_some_iff.1 hbx).1
  have b0 : V.cell? ⟨w.heap.size, 0, none⟩ = some (.int .i64 kd) := cellOf hbx 0 _ rfl
  have b1 : V.cell? ⟨w.heap.size, 1, none⟩ = some (.int .i64 n) := cellOf hbx 1 _ rfl
  have b2 : V.cell? ⟨w.heap.size, 2, none⟩ = some (.bool true) := cellOf hbx 2 _ rfl
  obtain ⟨c0, c1, c2, c3, c4, c5, cf, cl⟩ := hV0.facts
  have tbx : tyB V w.heap.size = some 35 := ty_cells hbx
  have tgs : tyB V gs = some 84 := ty_cells hV0.ls.lb
  have tgr : tyB V gr = some 84 := ty_cells hV0.lr.lb
  have tds : tyB V s.dm = none := hV0.ls.tb.ty
  have tdr : tyB V r.dm = none := hV0.lr.tb.ty
  have HV := hide hV
  have H0 := hide hV0
  unfold qk at hk
  have hNb : N ≤ 999999999 := Nat.le_trans ha.ln hM
  have hNi : (N : Int) ≤ 999999999 := by omega
  have hkg : k ≠ gs := ne_ty hV0.ty tgs (by decide)
  have hkm : k ≠ s.dm := ne_ty hV0.ty tds (by decide)
  have HSee := hide (see_any gs s Ts V hV0.ls)
  unfold Lk.see at HSee
  rw [hc] at HSee
  have HSd : Hid (∀ W, Pm z w0 W k gs gr N s r Ts Tr vO vB vG O B G → Calls Try.prog 19 #[.pointer (some ⟨gs, 0, none⟩), .string (tagB N), .bool true] W fun e1 w3 => e1 = .returned (.int .i64 140) ∧ Hid (Pm z w0 w3 k gs gr N s r Ts Tr vO vB vG O B G) ∧ (w3.cell? ⟨k, 0, none⟩ = some (.pointer (some ⟨gs, 0, none⟩)) ∧ w3.cell? ⟨k, 4, none⟩ = some (.int .i64 (N : Int)))) := fun W hW =>
    (send_no gs s (tagB N) true W hW.ls.lb ha.lf.sr hc (by rw [tagB_size]; decide) (by rw [tagB_size]; decide)).mono fun e1 w3 ⟨e2, e3⟩ => by
      subst e3
      exact ⟨e2, hW, hW.facts.1, hW.facts.2.2.2.2.1⟩
  have HAl := hide ha
  clear hp ha hV hV0 hbx hbV tbx tgs tgr tds tdr hc hkg hkm hNb
  go_enter Try.func7, Try.ntmps7
  go_wp2_with (first | rw [HV.out] | (go_at_call 9; refine HSee.out.mono ?_; rintro e2 w2 ⟨rfl, hb2⟩; refine Shut.out ?_))
  unfold Shut
  have h2 := H0.out.go hb2
  have H2 := hide (h2.go (bel_drew w2))
  clear HSee hb2 b0 b1 b2 bl c0 c1 c2 c3 c4 c5 cf cl H0 HV
  obtain ⟨c0, c1, c2, c3, c4, c5, cf, cl⟩ := h2.facts
  have HS2 : Hid (w2.drew.cell? ⟨k, 0, none⟩ = some (.pointer (some ⟨gs, 0, none⟩)) ∧ w2.drew.cell? ⟨k, 4, none⟩ = some (.int .i64 (N : Int))) := ⟨c0, c4⟩
  have HTg := hide (tags_any N w2.drew (by omega))
  clear h2
  have hrs := run_seeCr
  go_wp2
  clear hrs
  refine wp_region_held_drew (S := fun W => W.cell? ⟨k, 0, none⟩ = some (.pointer (some ⟨gs, 0, none⟩)) ∧ W.cell? ⟨k, 4, none⟩ = some (.int .i64 (N : Int))) (by kernel_rfl) HS2.out (fun hHeld => ?_)
  refine take_do (i := 0) (d := 74) (v := ?_) rfl rfl (by kernel_rfl) (by kernel_rfl) (by kernel_rfl) (fun _ _ _ h => h) rfl ?_ (by assumption) ?_
  rotate_left
  · intro W hSw
    try dsimp only at hSw
    go_simp
    try with_reducible rfl
  try simp only [List.setIfInBounds_toArray, List.set_cons_zero, List.set_cons_succ]
  refine take_do (i := 1) (d := 75) (v := ?_) rfl rfl (by kernel_rfl) (by kernel_rfl) (by kernel_rfl) (fun _ _ _ h => h) rfl ?_ (by assumption) ?_
  rotate_left
  · intro W hSw
    try dsimp only at hSw
    go_simp
    try with_reducible rfl
  try simp only [List.setIfInBounds_toArray, List.set_cons_zero, List.set_cons_succ]
  refine take_do (i := 2) (d := 76) (v := ?_) rfl rfl (by kernel_rfl) (by kernel_rfl) (by kernel_rfl) (fun _ _ _ h => h) rfl ?_ (by assumption) ?_
  rotate_left
  · intro W hSw
    try dsimp only at hSw
    go_simp
    try with_reducible rfl
  try simp only [List.setIfInBounds_toArray, List.set_cons_zero, List.set_cons_succ]
  refine take_do (i := 3) (d := 77) (v := ?_) rfl rfl (by kernel_rfl) (by kernel_rfl) (by kernel_rfl) (fun _ _ _ h => h) rfl ?_ (by assumption) ?_
  rotate_left
  · intro W hSw
    try dsimp only at hSw
    go_simp
    try with_reducible rfl
  try simp only [List.setIfInBounds_toArray, List.set_cons_zero, List.set_cons_succ]
  refine take_do (i := 4) (d := 78) (v := ?_) rfl rfl (by kernel_rfl) (by kernel_rfl) (by kernel_rfl) (fun _ _ _ h => h) rfl ?_ (by assumption) ?_
  rotate_left
  · intro W hSw
    try dsimp only at hSw
    go_simp
    try with_reducible rfl
  try simp only [List.setIfInBounds_toArray, List.set_cons_zero, List.set_cons_succ]
  refine take_do (i := 5) (d := 79) (v := ?_) rfl rfl (by kernel_rfl) (by kernel_rfl) (by kernel_rfl) (fun _ _ _ h => h) rfl ?_ (by assumption) ?_
  rotate_left
  · intro W hSw
    try dsimp only at hSw
    go_simp
    try with_reducible rfl
  try simp only [List.setIfInBounds_toArray, List.set_cons_zero, List.set_cons_succ]
  refine take_do (i := 6) (d := 80) (v := ?_) rfl rfl (by kernel_rfl) (by kernel_rfl) (by kernel_rfl) (fun _ _ _ h => h) rfl ?_ (by assumption) ?_
  rotate_left
  · intro W hSw
    try dsimp only at hSw
    go_simp
    try with_reducible rfl
  try simp only [List.setIfInBounds_toArray, List.set_cons_zero, List.set_cons_succ]
  refine take_do (i := 7) (d := 81) (v := ?_) rfl rfl (by kernel_rfl) (by kernel_rfl) (by kernel_rfl) (fun _ _ _ h => h) rfl ?_ (by assumption) ?_
  rotate_left
  · intro W hSw
    try dsimp only at hSw
    go_simp
    try with_reducible rfl
  try simp only [List.setIfInBounds_toArray, List.set_cons_zero, List.set_cons_succ]
  refine take_do (i := 9) (d := 83) (v := ?_) rfl rfl (by kernel_rfl) (by kernel_rfl) (by kernel_rfl) (fun _ _ _ h => h) rfl ?_ (by assumption) ?_
  rotate_left
  · intro W hSw
    try dsimp only at hSw
    go_simp
    try with_reducible rfl
  try simp only [List.setIfInBounds_toArray, List.set_cons_zero, List.set_cons_succ]
  refine wpAnyH_ready (rs := [8]) (by kernel_rfl) (by simp) ?_
  refine AllReadyH.cons rfl (fun K hK => ?_) AllReadyH.nil
  go_simp
  go_wp2_with (go_at_call 27; refine HTg.out.mono ?_; rintro e5 w5 ⟨rfl, hb5⟩)
  have h5 := H2.out.go hb5
  have HSd5 := hide (HSd.out w5 h5)
  refine hK.out _ _ ⟨h5.facts.1, h5.facts.2.2.2.2.1⟩ (fun hHeld => ?_)
  clear hK K hb5 HTg HSd h5 H2 HS2
  try simp only [Act.put, List.setIfInBounds_toArray, List.set_cons_zero, List.set_cons_succ]
  refine wpAnyH_ready (rs := [10]) (by kernel_rfl) (by simp) ?_
  refine AllReadyH.cons rfl (fun K hK => ?_) AllReadyH.nil
  go_simp
  go_wp2_with (go_at_call 19; refine HSd5.out.mono ?_; rintro e6 w6 ⟨rfl, hM6, hs6⟩)
  refine hK.out _ _ hs6 (fun hHeld => ?_)
  clear hK K
  try simp only [Act.put, List.setIfInBounds_toArray, List.set_cons_zero, List.set_cons_succ]
  refine take_do (i := 11) (d := 12) (v := ?_) rfl rfl (by kernel_rfl) (by kernel_rfl) (by kernel_rfl) (fun _ _ _ h => h) rfl ?_ (by assumption) ?_
  rotate_left
  · intro W hSw
    try dsimp only at hSw
    go_simp
    try with_reducible rfl
  try simp only [List.setIfInBounds_toArray, List.set_cons_zero, List.set_cons_succ]
  refine wpAnyH_done (by kernel_rfl) ?_ _
  clear hs6 HSd5 c0 c1 c2 c3 c4 c5 cf cl hHeld
  go_wp2
  go_ret
  exact ⟨rfl, N, s, r, Ts, Tr, vO, vB, vG, O, B, G, e, p, L, a, b, hM6.out, HAl.out.more (by omega)⟩
set_option maxRecDepth 100000 in
set_option maxHeartbeats 16000000 in
theorem turn_1nd (kd n : Int) (f : Bool) (w : World) (hp : Pm z w0 w k gs gr N s r Ts Tr vO vB vG O B G) (ha : Al sec 2 N M n0 e p L a b s r Ts Tr O B G) (hM : M ≤ 999999999) (hk : qk kd = 1) (hf : f = false) (hc : s.cr = 0) :
    Calls Try.prog 7 #[.pointer (some ⟨k, 0, none⟩), .agg (tnA kd n f), .bool sec, .int .i64 2] w fun e1 w' => e1 = .returned (.bool true) ∧ ∃ N', TurnI z w0 k gs gr N' (M + 1) sec 2 n0 w' := by
  subst hf
  unfold tnA
  have hlow := qk_low kd
  obtain ⟨V, hV⟩ : ∃ V, w.alloc (.cells #[.int .i64 kd, .int .i64 n, .bool false] 35) = V := ⟨_, rfl⟩
  have hbV : Below w.heap.size w V := hV ▸ bel1 (Below.refl _ _) (Nat.le_refl _) _
  have hV0 := hp.go hbV
  have hbx : V.heap[w.heap.size]? = some (.cells #[.int .i64 kd, .int .i64 n, .bool false] 35 (0, 0)) := hV ▸ heap_alloc_last w _
  have bl : w.heap.size < V.heap.size := (Array.getElem?_eq_some_iff.1 hbx).1
  have b0 : V.cell? ⟨w.heap.size, 0, none⟩ = some (.int .i64 kd) := cellOf hbx 0 _ rfl
  have b1 : V.cell? ⟨w.heap.size, 1, none⟩ = some (.int .i64 n) := cellOf hbx 1 _ rfl
  have b2 : V.cell? ⟨w.heap.size, 2, none⟩ = some (.bool false) := cellOf hbx 2 _ rfl
  obtain ⟨c0, c1, c2, c3, c4, c5, cf, cl⟩ := hV0.facts
  have tbx : tyB V w.heap.size = some 35 := ty_cells hbx
  have tgs : tyB V gs = some 84 := ty_cells hV0.ls.lb
  have tgr : tyB V gr = some 84 := ty_cells hV0.lr.lb
  have tds : tyB V s.dm = none := hV0.ls.tb.ty
  have tdr : tyB V r.dm = none := hV0.lr.tb.ty
  have HV := hide hV
  have H0 := hide hV0
  unfold qk at hk
  have hNb : N ≤ 999999999 := Nat.le_trans ha.ln hM
  have hNi : (N : Int) ≤ 999999999 := by omega
  have hkg : k ≠ gs := ne_ty hV0.ty tgs (by decide)
  have hkm : k ≠ s.dm := ne_ty hV0.ty tds (by decide)
  have HSee := hide (see_any gs s Ts V hV0.ls)
  unfold Lk.see at HSee
  rw [hc] at HSee
  have HSd : Hid (∀ W, Pm z w0 W k gs gr N s r Ts Tr vO vB vG O B G → Calls Try.prog 19 #[.pointer (some ⟨gs, 0, none⟩), .string (tagB N), .bool false] W fun e1 w3 => e1 = .returned (.int .i64 140) ∧ Hid (Pm z w0 w3 k gs gr N s r Ts Tr vO vB vG O B G) ∧ (w3.cell? ⟨k, 0, none⟩ = some (.pointer (some ⟨gs, 0, none⟩)) ∧ w3.cell? ⟨k, 4, none⟩ = some (.int .i64 (N : Int)))) := fun W hW =>
    (send_no gs s (tagB N) false W hW.ls.lb ha.lf.sr hc (by rw [tagB_size]; decide) (by rw [tagB_size]; decide)).mono fun e1 w3 ⟨e2, e3⟩ => by
      subst e3
      exact ⟨e2, hW, hW.facts.1, hW.facts.2.2.2.2.1⟩
  have HAl := hide ha
  clear hp ha hV hV0 hbx hbV tbx tgs tgr tds tdr hc hkg hkm hNb
  go_enter Try.func7, Try.ntmps7
  go_wp2_with (first | rw [HV.out] | (go_at_call 9; refine HSee.out.mono ?_; rintro e2 w2 ⟨rfl, hb2⟩; refine Shut.out ?_))
  unfold Shut
  have h2 := H0.out.go hb2
  have H2 := hide (h2.go (bel_drew w2))
  clear HSee hb2 b0 b1 b2 bl c0 c1 c2 c3 c4 c5 cf cl H0 HV
  obtain ⟨c0, c1, c2, c3, c4, c5, cf, cl⟩ := h2.facts
  have HS2 : Hid (w2.drew.cell? ⟨k, 0, none⟩ = some (.pointer (some ⟨gs, 0, none⟩)) ∧ w2.drew.cell? ⟨k, 4, none⟩ = some (.int .i64 (N : Int))) := ⟨c0, c4⟩
  have HTg := hide (tags_any N w2.drew (by omega))
  clear h2
  have hrs := run_seeCr
  go_wp2
  clear hrs
  refine wp_region_held_drew (S := fun W => W.cell? ⟨k, 0, none⟩ = some (.pointer (some ⟨gs, 0, none⟩)) ∧ W.cell? ⟨k, 4, none⟩ = some (.int .i64 (N : Int))) (by kernel_rfl) HS2.out (fun hHeld => ?_)
  refine take_do (i := 0) (d := 74) (v := ?_) rfl rfl (by kernel_rfl) (by kernel_rfl) (by kernel_rfl) (fun _ _ _ h => h) rfl ?_ (by assumption) ?_
  rotate_left
  · intro W hSw
    try dsimp only at hSw
    go_simp
    try with_reducible rfl
  try simp only [List.setIfInBounds_toArray, List.set_cons_zero, List.set_cons_succ]
  refine take_do (i := 1) (d := 75) (v := ?_) rfl rfl (by kernel_rfl) (by kernel_rfl) (by kernel_rfl) (fun _ _ _ h => h) rfl ?_ (by assumption) ?_
  rotate_left
  · intro W hSw
    try dsimp only at hSw
    go_simp
    try with_reducible rfl
  try simp only [List.setIfInBounds_toArray, List.set_cons_zero, List.set_cons_succ]
  refine take_do (i := 2) (d := 76) (v := ?_) rfl rfl (by kernel_rfl) (by kernel_rfl) (by kernel_rfl) (fun _ _ _ h => h) rfl ?_ (by assumption) ?_
  rotate_left
  · intro W hSw
    try dsimp only at hSw
    go_simp
    try with_reducible rfl
  try simp only [List.setIfInBounds_toArray, List.set_cons_zero, List.set_cons_succ]
  refine take_do (i := 3) (d := 77) (v := ?_) rfl rfl (by kernel_rfl) (by kernel_rfl) (by kernel_rfl) (fun _ _ _ h => h) rfl ?_ (by assumption) ?_
  rotate_left
  · intro W hSw
    try dsimp only at hSw
    go_simp
    try with_reducible rfl
  try simp only [List.setIfInBounds_toArray, List.set_cons_zero, List.set_cons_succ]
  refine take_do (i := 4) (d := 78) (v := ?_) rfl rfl (by kernel_rfl) (by kernel_rfl) (by kernel_rfl) (fun _ _ _ h => h) rfl ?_ (by assumption) ?_
  rotate_left
  · intro W hSw
    try dsimp only at hSw
    go_simp
    try with_reducible rfl
  try simp only [List.setIfInBounds_toArray, List.set_cons_zero, List.set_cons_succ]
  refine take_do (i := 5) (d := 79) (v := ?_) rfl rfl (by kernel_rfl) (by kernel_rfl) (by kernel_rfl) (fun _ _ _ h => h) rfl ?_ (by assumption) ?_
  rotate_left
  · intro W hSw
    try dsimp only at hSw
    go_simp
    try with_reducible rfl
  try simp only [List.setIfInBounds_toArray, List.set_cons_zero, List.set_cons_succ]
  refine take_do (i := 6) (d := 80) (v := ?_) rfl rfl (by kernel_rfl) (by kernel_rfl) (by kernel_rfl) (fun _ _ _ h => h) rfl ?_ (by assumption) ?_
  rotate_left
  · intro W hSw
    try dsimp only at hSw
    go_simp
    try with_reducible rfl
  try simp only [List.setIfInBounds_toArray, List.set_cons_zero, List.set_cons_succ]
  refine take_do (i := 7) (d := 81) (v := ?_) rfl rfl (by kernel_rfl) (by kernel_rfl) (by kernel_rfl) (fun _ _ _ h => h) rfl ?_ (by assumption) ?_
  rotate_left
  · intro W hSw
    try dsimp only at hSw
    go_simp
    try with_reducible rfl
  try simp only [List.setIfInBounds_toArray, List.set_cons_zero, List.set_cons_succ]
  refine take_do (i := 9) (d := 83) (v := ?_) rfl rfl (by kernel_rfl) (by kernel_rfl) (by kernel_rfl) (fun _ _ _ h => h) rfl ?_ (by assumption) ?_
  rotate_left
  · intro W hSw
    try dsimp only at hSw
    go_simp
    try with_reducible rfl
  try simp only [List.setIfInBounds_toArray, List.set_cons_zero, List.set_cons_succ]
  refine wpAnyH_ready (rs := [8]) (by kernel_rfl) (by simp) ?_
  refine AllReadyH.cons rfl (fun K hK => ?_) AllReadyH.nil
  go_simp
  go_wp2_with (go_at_call 27; refine HTg.out.mono ?_; rintro e5 w5 ⟨rfl, hb5⟩)
  have h5 := H2.out.go hb5
  have HSd5 := hide (HSd.out w5 h5)
  refine hK.out _ _ ⟨h5.facts.1, h5.facts.2.2.2.2.1⟩ (fun hHeld => ?_)
  clear hK K hb5 HTg HSd h5 H2 HS2
  try simp only [Act.put, List.setIfInBounds_toArray, List.set_cons_zero, List.set_cons_succ]
  refine wpAnyH_ready (rs := [10]) (by kernel_rfl) (by simp) ?_
  refine AllReadyH.cons rfl (fun K hK => ?_) AllReadyH.nil
  go_simp
  go_wp2_with (go_at_call 19; refine HSd5.out.mono ?_; rintro e6 w6 ⟨rfl, hM6, hs6⟩)
  refine hK.out _ _ hs6 (fun hHeld => ?_)
  clear hK K
  try simp only [Act.put, List.setIfInBounds_toArray, List.set_cons_zero, List.set_cons_succ]
  refine take_do (i := 11) (d := 12) (v := ?_) rfl rfl (by kernel_rfl) (by kernel_rfl) (by kernel_rfl) (fun _ _ _ h => h) rfl ?_ (by assumption) ?_
  rotate_left
  · intro W hSw
    try dsimp only at hSw
    go_simp
    try with_reducible rfl
  try simp only [List.setIfInBounds_toArray, List.set_cons_zero, List.set_cons_succ]
  refine wpAnyH_done (by kernel_rfl) ?_ _
  clear hs6 HSd5 c0 c1 c2 c3 c4 c5 cf cl hHeld
  go_wp2
  go_ret
  exact ⟨rfl, N, s, r, Ts, Tr, vO, vB, vG, O, B, G, e, p, L, a, b, hM6.out, HAl.out.more (by omega)⟩
end
end Go.Proofs.Ytjipcdknkghoaaa
