import Derived.Test.YtknkmamjdmadcaaGLookM9
import Derived.Test.YtknkmamjdmadcaaUVWeighM9
import Derived.Test.YtknkmamjdmadcaaGResMM9
import Derived.Maps.RangeWalk
import Derived.StringKeys
import Derived.OwnWalk
import Derived.Test.YtknkmamjdmadcaaGLaw1M9

/- Stage 14: what the law weighs. -/
namespace Go.Proofs.Ytknkmamjdmadcaa.G
open Go.RowKit Go.Maps
set_option linter.unusedVariables false
set_option linter.unusedSimpArgs false

/-- Great -/
theorem great_any (x : U.V) (n₀ : Nat) (w : World) (hn : n₀ ≤ w.heap.size) (hx : U.Lies n₀ w x) :
    Calls Try.prog 56 #[x.val] w fun e w' => (e = .returned (.bool true) ∧ Below w.heap.size w w') ∨ (e = .returned (.bool false) ∧ U.T.wt x.t ≤ 100000 ∧ Below w.heap.size w w') := by
  rw [U.V.val_eq]
  have HW : Hid (∀ w1, Below w.heap.size w w1 → Calls Try.prog 74 #[.agg #[.int .i64 x.k, .int .u64 x.n, .string x.s, .slice x.a x.l.length x.c, .int .i64 x.e], .int .i64 0] w1 fun e w' => ∃ z, e = .returned (.int .i64 z) ∧ Hid (0 ≤ z ∧ z ≤ 35184372088832 ∧ (z ≤ 100000 → z = 0 + U.T.wt x.t)) ∧ Below w1.heap.size w1 w') := by
    intro w1 hb
    have := U.weigh_any x 0 n₀ w1 (by have := hb.size; omega) (hx.keep hb hn) (by omega) (by omega)
    rwa [U.V.val_eq] at this
  clear hx
  go_enter Try.func56, Try.ntmps56
  go_wp2_with fail
  refine Calls.mono (HW.out _ (bel1 (Below.refl _ _) (Nat.le_refl _) _)) ?_
  rintro e w1 ⟨z, rfl, HZ, hb1⟩
  have hbw := belOn (bel1 (Below.refl w.heap.size w) (Nat.le_refl _) _) (by simp) hb1
  by_cases hz : z ≤ 100000
  · go_wp2
    go_ret
    exact .inr ⟨by first | rfl | (simp; omega), by have := HZ.out.2.2 hz; omega, hbw⟩
  · go_wp2
    go_ret
    exact .inl ⟨by first | rfl | (simp; omega), hbw⟩

theorem great_b (x : U.V) (n₀ : Nat) (w : World) (hn : n₀ ≤ w.heap.size) (hx : U.Lies n₀ w x) :
    Calls Try.prog 56 #[.agg (wA x)] w fun e w' => ∃ q : Bool, e = .returned (.bool q) ∧ Below w.heap.size w w' :=
  (great_any x n₀ w hn hx).mono fun e w' h => h.elim (fun h => ⟨true, h.1, h.2⟩) (fun h => ⟨false, h.1, h.2.2⟩)
set_option maxRecDepth 100000 in
set_option maxHeartbeats 1000000 in
theorem props_any (x : U.V) (n₀ : Nat) (w : World) (hn : n₀ ≤ w.heap.size) (hx : U.Lies n₀ w x) :
    Calls Try.prog 34 #[.agg (wA x)] w fun e w' => ∃ z : Int, e = .returned (.int .i64 z) ∧ Hid (0 ≤ z ∧ z ≤ 200000) ∧ Below w.heap.size w w' := by
  obtain ⟨V, hV⟩ : ∃ V, w.alloc (.cells (wA x) 48) = V := ⟨_, rfl⟩
  have b0 : V.heap[w.heap.size]? = some (.cells (wA x) 48 (0, 0)) := hV ▸ heap_alloc_last w _
  have HB : Hid (Below w.heap.size w V) := hV ▸ bel1 (Below.refl _ _) (Nat.le_refl _) _
  have HG := hide (great_b x n₀ V (Nat.le_trans hn HB.out.size) (hx.keep HB.out hn))
  have HV := hide hV
  have Hb0 := hide b0
  clear hV b0 hx
  go_enter Try.func34, Try.ntmps34
  go_wp2_with (first | (rw [HV.out]; refine Shut.out ?_))
  unfold Shut
  go_wp2_with (first | (refine wpList_load_row rfl 48 (.tmp 1) rfl w.heap.size rfl 48 (wA x) (0, 0) _ Hb0.out Try.underlying48 rfl Try.infoVa ?_) | (go_at_call 56; refine HG.out.mono ?_; rintro e1 w1 ⟨q, rfl, hb1⟩; refine Shut.out ?_))
  unfold Shut
  have HB9 := hide (HB.out.trans (hb1.mono HB.out.size))
  clear hb1 HG
  cases q
  · go_wp2
    go_ret
    exact ⟨_, rfl, ⟨by decide, by decide⟩, HB9.out⟩
  · go_wp2
    go_ret
    exact ⟨_, rfl, ⟨by decide, by decide⟩, HB9.out⟩
def WsOk (d : Nat) : Prop := ∀ (s : Sw) (n : Int) (n₀ : Nat) (w : World), n₀ ≤ w.heap.size → StIn (fun b => b < n₀) w d s → 0 ≤ n → n ≤ 100001 →
  Calls Try.prog 33 #[.agg s.A, .int .i64 n] w fun e w' => ∃ z : Int, e = .returned (.int .i64 z) ∧ Hid (n + 1 ≤ z ∧ z ≤ 500002) ∧ Below w.heap.size w w'
set_option maxRecDepth 100000 in
set_option maxHeartbeats 2000000 in
theorem weigh_step (s : Sw) (n : Int) (n₀ : Nat) (w : World) (hn : n₀ ≤ w.heap.size) (h1 : U.LiesIn (fun b => b < n₀) w s.inf) (h2 : U.LiesIn (fun b => b < n₀) w s.an) (d : Nat) (fs : Nat → Sw) (h3 : Inn (fun b => b < n₀) w d s.ia s.il s.ic fs) (ih : 0 < s.il → WsOk d) (hz0 : 0 ≤ n) (hz1 : n ≤ 100001) :
    Calls Try.prog 33 #[.agg s.A, .int .i64 n] w fun e w' => ∃ z : Int, e = .returned (.int .i64 z) ∧ Hid (n + 1 ≤ z ∧ z ≤ 500002) ∧ Below w.heap.size w w' := by
  obtain ⟨V, hV⟩ : ∃ V, w.alloc (.cells s.A 53) = V := ⟨_, rfl⟩
  have hbV : Below w.heap.size w V := hV ▸ bel1 (Below.refl _ _) (Nat.le_refl _) _
  have b0 : V.heap[w.heap.size]? = some (.cells s.A 53 (0, 0)) := hV ▸ heap_alloc_last w _
  have z0 : V.heap.size = w.heap.size + 1 := by rw [← hV]; simp
  have HK : Hid (∀ w1, Below V.drew.heap.size V.drew w1 → (w1.rangeAt w.heap.size 12 (wL s.an) ∧ w1.rangeAt w.heap.size 5 (wL s.inf)) ∧ Below w.heap.size w w1 ∧ w1.heap[w.heap.size]? = some (.cells s.A 53 (0, 0)) ∧ w.heap.size < w1.heap.size) := fun w1 hb => by
    have hs := hb.size
    change V.heap.size ≤ _ at hs
    have e := (hb.block w.heap.size (show w.heap.size < V.heap.size by omega)).trans b0
    have hri : w1.rangeAt w.heap.size 5 (wL s.inf) := range_at e ([Value.int .i64 s.k, Value.int .i64 s.se, Value.int .i64 s.ofs, Value.string s.co, Value.string s.tx] : List Value) (wL s.inf) ([Value.bool s.fa, Value.bool s.el] ++ wL s.an ++ [Value.string s.tn, Value.slice s.ia s.il s.ic]) rfl
    exact ⟨⟨range_at e s.pre (wL s.an) _ s.ann, hri⟩, (hbV.trans ((bel_drew V).mono hbV.size)).trans (hb.mono (by show w.heap.size ≤ V.heap.size; omega)), e, by omega⟩
  have HPa : Hid (∀ w1, Below w.heap.size w w1 → Calls Try.prog 34 #[.agg (wL s.an).toArray] w1 fun e w' => ∃ z : Int, e = .returned (.int .i64 z) ∧ Hid (0 ≤ z ∧ z ≤ 200000) ∧ Below w1.heap.size w1 w') := fun w1 hb => props_any s.an n₀ w1 (Nat.le_trans hn hb.size) (lies_keep h2 (fun b h => hb.block b (Nat.lt_of_lt_of_le h hn)) (fun _ h => h))
  have HPi : Hid (∀ w1, Below w.heap.size w w1 → Calls Try.prog 34 #[.agg (wL s.inf).toArray] w1 fun e w' => ∃ z : Int, e = .returned (.int .i64 z) ∧ Hid (0 ≤ z ∧ z ≤ 200000) ∧ Below w1.heap.size w1 w') := fun w1 hb => props_any s.inf n₀ w1 (Nat.le_trans hn hb.size) (lies_keep h1 (fun b h => hb.block b (Nat.lt_of_lt_of_le h hn)) (fun _ h => h))
  have HIn : Hid (∀ w1, Below w.heap.size w w1 → Inn (fun b => b < n₀) w1 d s.ia s.il s.ic fs) := fun w1 hb => h3.keep (fun b h => hb.block b (Nat.lt_of_lt_of_le h hn)) (fun _ h => h)
  have HR : Hid (Below V.drew.heap.size V.drew V.drew) := Below.refl _ _
  have hsm := h3.sm
  have HV := hide hV
  clear hV hbV b0 h1 h2 h3
  go_enter Try.func33, Try.ntmps33
  go_wp2_with (first | rw [HV.out])
  refine wp_region_held_drew (S := fun W => W.rangeAt w.heap.size 12 (wL s.an) ∧ W.rangeAt w.heap.size 5 (wL s.inf)) (by kernel_rfl) (HK.out _ HR.out).1 (fun hHeld => ?_)
  refine take_do (i := 0) (d := 6) (v := ?_) rfl rfl (by kernel_rfl) (by kernel_rfl) (by kernel_rfl) (fun _ _ _ h => h) rfl ?_ (by assumption) ?_
  rotate_left
  · intro W hSw
    try dsimp only at hSw
    go_simp
    try with_reducible rfl
  try simp only [List.setIfInBounds_toArray, List.set_cons_zero, List.set_cons_succ]
  refine take_do (i := 1) (d := 7) (v := .int .i64 (n + 1)) rfl rfl (by kernel_rfl) (by kernel_rfl) (by kernel_rfl) (fun _ _ _ h => h) rfl ?_ (by assumption) ?_
  · intro W hSw
    go_simp; rw [IntKind.wrap_i64]; omega
  try simp only [List.setIfInBounds_toArray, List.set_cons_zero, List.set_cons_succ]
  refine take_do (i := 2) (d := 8) (v := ?_) rfl rfl (by kernel_rfl) (by kernel_rfl) (by kernel_rfl) (fun _ _ _ h => h) rfl ?_ (by assumption) ?_
  rotate_left
  · intro W hSw
    try dsimp only at hSw
    go_simp
    try with_reducible rfl
  try simp only [List.setIfInBounds_toArray, List.set_cons_zero, List.set_cons_succ]
  refine take_do (i := 3) (d := 9) (v := .agg (wL s.an).toArray) rfl rfl (by kernel_rfl) (by kernel_rfl) (by kernel_rfl) (fun _ _ _ h => h) rfl ?_ (by assumption) ?_
  · intro W hSw
    exact mid_run W _ 48 (.tmp 8) rfl w.heap.size 12 (wL s.an) rfl hSw.1 _ Try.underlying48 rfl Try.infoVa
  try simp only [List.setIfInBounds_toArray, List.set_cons_zero, List.set_cons_succ]
  refine take_do (i := 6) (d := 12) (v := ?_) rfl rfl (by kernel_rfl) (by kernel_rfl) (by kernel_rfl) (fun _ _ _ h => h) rfl ?_ (by assumption) ?_
  rotate_left
  · intro W hSw
    try dsimp only at hSw
    go_simp
    try with_reducible rfl
  try simp only [List.setIfInBounds_toArray, List.set_cons_zero, List.set_cons_succ]
  refine take_do (i := 7) (d := 13) (v := ?_) rfl rfl (by kernel_rfl) (by kernel_rfl) (by kernel_rfl) (fun _ _ _ h => h) rfl ?_ (by assumption) ?_
  rotate_left
  · intro W hSw
    try dsimp only at hSw
    go_simp
    try with_reducible rfl
  try simp only [List.setIfInBounds_toArray, List.set_cons_zero, List.set_cons_succ]
  refine take_do (i := 8) (d := 14) (v := .agg (wL s.inf).toArray) rfl rfl (by kernel_rfl) (by kernel_rfl) (by kernel_rfl) (fun _ _ _ h => h) rfl ?_ (by assumption) ?_
  · intro W hSw
    exact mid_run W _ 48 (.tmp 13) rfl w.heap.size 5 (wL s.inf) rfl hSw.2 _ Try.underlying48 rfl Try.infoVa
  try simp only [List.setIfInBounds_toArray, List.set_cons_zero, List.set_cons_succ]
  refine wpAnyH_ready (rs := [4]) (by kernel_rfl) (by simp) ?_
  refine AllReadyH.cons rfl (fun K hK => ?_) AllReadyH.nil
  go_simp
  go_wp2_with (go_at_call 34; refine (HPa.out _ (HK.out _ HR.out).2.1).mono ?_; rintro e3 w3 ⟨z1, rfl, hz3, hb3⟩)
  refine hK.out _ _ (HK.out w3 hb3).1 (fun hHeld => ?_)
  clear hK K
  try simp only [Act.put, List.setIfInBounds_toArray, List.set_cons_zero, List.set_cons_succ]
  have HH3 := hide (HK.out w3 hb3)
  obtain ⟨hz3a, hz3b⟩ := hz3.out
  refine take_do (i := 5) (d := 11) (v := .int .i64 (n + 1 + z1)) rfl rfl (by kernel_rfl) (by kernel_rfl) (by kernel_rfl) (fun _ _ _ h => h) rfl ?_ (by assumption) ?_
  · intro W hSw
    go_simp; rw [IntKind.wrap_i64]; omega
  try simp only [List.setIfInBounds_toArray, List.set_cons_zero, List.set_cons_succ]
  refine wpAnyH_ready (rs := [9]) (by kernel_rfl) (by simp) ?_
  refine AllReadyH.cons rfl (fun K hK => ?_) AllReadyH.nil
  go_simp
  go_wp2_with (go_at_call 34; refine (HPi.out _ HH3.out.2.1).mono ?_; rintro e4 w4 ⟨z2, rfl, hz4, hb4⟩)
  refine hK.out _ _ (HK.out w4 (hb3.trans (hb4.mono hb3.size))).1 (fun hHeld => ?_)
  clear hK K
  try simp only [Act.put, List.setIfInBounds_toArray, List.set_cons_zero, List.set_cons_succ]
  have HH4 := hide (HK.out w4 (hb3.trans (hb4.mono hb3.size)))
  obtain ⟨hz4a, hz4b⟩ := hz4.out
  refine take_do (i := 10) (d := 16) (v := .int .i64 (n + 1 + z1 + z2)) rfl rfl (by kernel_rfl) (by kernel_rfl) (by kernel_rfl) (fun _ _ _ h => h) rfl ?_ (by assumption) ?_
  · intro W hSw
    go_simp; rw [IntKind.wrap_i64]; omega
  try simp only [List.setIfInBounds_toArray, List.set_cons_zero, List.set_cons_succ]
  refine take_do (i := 11) (d := 1) (v := ?_) rfl rfl (by kernel_rfl) (by kernel_rfl) (by kernel_rfl) (fun _ _ _ h => h) rfl ?_ (by assumption) ?_
  rotate_left
  · intro W hSw
    try dsimp only at hSw
    go_simp
    try with_reducible rfl
  try simp only [List.setIfInBounds_toArray, List.set_cons_zero, List.set_cons_succ]
  refine wpAnyH_done (by kernel_rfl) ?_ _
  clear HK HPa HPi HR HH3 hb3 hb4 hz3 hz4
  go_wp2
  go_loopw [1, 5] (fun u v wr => ∃ (z : Int) (j : Nat), u = .int .i64 z ∧ v = .int .i64 j ∧ n + 1 ≤ z ∧ z ≤ 500002 ∧ j ≤ s.il ∧ Below w.heap.size w wr ∧ wr.heap[w.heap.size]? = some (.cells s.A 53 (0, 0)) ∧ w.heap.size < wr.heap.size) (fun _ v _ => s.il + 1 - (intOf v).toNat)
  case atStart => exact ⟨n + 1 + z1 + z2, 0, by go_num, rfl, by omega, by omega, by omega, HH4.out.2.1, HH4.out.2.2.1, HH4.out.2.2.2⟩
  case round =>
    clear HH4
    obtain ⟨z, j, rfl, rfl, hza, hzb, hj, hb, hblk, hlt⟩ := hrel
    have hc : wr.cell? ⟨w.heap.size, 18, none⟩ = some (.slice s.ia s.il s.ic) := cellOf hblk 18 (.slice s.ia s.il s.ic) rfl
    have HBk := hide hblk
    have HB := hide hb
    clear hblk hb
    by_cases hjl : j < s.il
    · by_cases hzl : z ≤ 100000
      · obtain ⟨b, o, hia, hbq, hrow⟩ := (HIn.out wr HB.out).row (by omega)
        rw [hia] at hc
        have HRw := hide (hrow j hjl)
        have HW := hide (ih (by omega) (fs j) z n₀ wr (Nat.le_trans hn HB.out.size) ((HIn.out wr HB.out).sub j hjl) (by omega) (by omega))
        have hbl : b < wr.heap.size := Nat.lt_of_lt_of_le hbq (Nat.le_trans hn HB.out.size)
        clear hrow hia
        go_wp2_with (first | (refine wpList_load_mid rfl 53 (.tmp 31) rfl b (o + j * 19) rfl (fs j).L _ HRw.out Try.underlying53 rfl Try.infoSt ?_) | (go_at_call 33; refine HW.out.mono ?_; rintro e5 w5 ⟨z5, rfl, hz5, hb5⟩; refine Shut.out ?_))
        unfold Shut
        obtain ⟨hz5a, hz5b⟩ := hz5.out
        have HB5 := hide (HB.out.trans (hb5.mono HB.out.size))
        have HK5 := hide ((hb5.block _ hlt).trans HBk.out)
        have hl5 : w.heap.size < w5.heap.size := Nat.lt_of_lt_of_le hlt hb5.size
        clear hb5 hz5 HW HRw
        go_wp2
        go_roundw
        case rel => exact ⟨z5, j + 1, rfl, by go_num, by omega, hz5b, by omega, HB5.out, HK5.out, hl5⟩
        case measure => simp [intOf]; omega
      · have hd : decide (z ≤ 100000) = false := by simpa using hzl
        go_wp2
        go_ret
        exact ⟨_, rfl, ⟨hza, hzb⟩, HB.out⟩
    · go_wp2
      go_ret
      exact ⟨_, rfl, ⟨hza, hzb⟩, HB.out⟩
theorem weighS_any : ∀ d, WsOk d
  | 0 => fun s n n₀ w hn h h0 h1 => weigh_step s n n₀ w hn h.vals.1 h.vals.2 0 (fun _ => s) ⟨h.2.2.1, by have := h.2.2.2; omega, fun h0 => by have := h.2.2.2; omega, fun i hi => by have := h.2.2.2; omega⟩ (fun h0 => absurd h0 (by have := h.2.2.2; omega)) h0 h1
  | d + 1 => fun s n n₀ w hn h h0 h1 => by
    obtain ⟨fs, hi⟩ := inn_of h
    exact weigh_step s n n₀ w hn h.vals.1 h.vals.2 d fs hi (fun _ => weighS_any d) h0 h1
end Go.Proofs.Ytknkmamjdmadcaa.G


/- Stage 14: the law's great. -/
namespace Go.Proofs.Ytknkmamjdmadcaa.G
open Go.RowKit Go.Maps
set_option linter.unusedVariables false
set_option linter.unusedSimpArgs false

/-- an Op of which Left alone is said -/
def opA (v : Value) : Array Value := ⟨[.int .i64 0, .bool false, .int .i64 0, .bool false, .string ⟨#[]⟩] ++ sw0.L ++ (pfA 0 0 0 0 0 0 0 0 0 0 0 false).toList ++ [v]⟩
theorem op_state {w : World} {N : Nat} {v : Value} {t : TypeId} {fr : Nat × Nat} (h : w.heap[N]? = some (.cells (opA v) t fr)) : w.rangeAt N 5 sw0.L := range_at h [.int .i64 0, .bool false, .int .i64 0, .bool false, .string ⟨#[]⟩] sw0.L ((pfA 0 0 0 0 0 0 0 0 0 0 0 false).toList ++ [v]) (by simp)
theorem op_props {w : World} {N : Nat} {v : Value} {t : TypeId} {fr : Nat × Nat} (h : w.heap[N]? = some (.cells (opA v) t fr)) : w.rangeAt N 30 (wL nul) := range_at h ((([Value.int .i64 0, Value.bool false, Value.int .i64 0, Value.bool false, Value.string ⟨#[]⟩] : List Value) ++ sw0.L) ++ ([Value.int .i64 0, Value.string ⟨#[]⟩, Value.string ⟨#[]⟩, Value.int .i64 0, Value.int .i64 0, Value.int .i64 0] : List Value)) (wL nul) (((pfA 0 0 0 0 0 0 0 0 0 0 0 false).toList.drop 11) ++ [v]) rfl
/-- what is not great is short -/
def GrP (ps : List Un) (w w' : World) (v : Value) : Prop := ∃ q : Bool, v = .bool q ∧ (q = false → ps.length ≤ 100000) ∧ Below w.heap.size w w'
set_option maxRecDepth 100000 in
set_option maxHeartbeats 2000000 in
theorem lawGreat_any (d : Nat) (ps : List Un) (pa : Option Addr) (pc : Nat) (w : World) (hP : RdP w pa ps) (hS : ∀ x ∈ ps, StIn (fun b => b < w.heap.size) w d x.2) (hl : ps.length ≤ 140737488355328) :
    Calls Try.prog 12 #[.agg (opA (.slice pa ps.length pc))] w fun e w' => ∃ v, e = .returned v ∧ GrP ps w w' v := by
  obtain ⟨V, hV⟩ : ∃ V, w.alloc (.cells (opA (.slice pa ps.length pc)) 59) = V := ⟨_, rfl⟩
  have hbV : Below w.heap.size w V := hV ▸ bel1 (Below.refl _ _) (Nat.le_refl _) _
  have b0 : V.heap[w.heap.size]? = some (.cells (opA (.slice pa ps.length pc)) 59 (0, 0)) := hV ▸ heap_alloc_last w _
  have z0 : w.heap.size < V.heap.size := by rw [← hV]; simp
  have HK : Hid (∀ w1, Below V.heap.size V w1 → Below w.heap.size w w1 ∧ w1.heap[w.heap.size]? = some (.cells (opA (.slice pa ps.length pc)) 59 (0, 0)) ∧ w.heap.size < w1.heap.size) := fun w1 hb => ⟨hbV.trans (hb.mono hbV.size), (hb.block _ z0).trans b0, Nat.lt_of_lt_of_le z0 hb.size⟩
  have HS0 := hide (op_state b0)
  have HW0 := hide (weighS_any d sw0 0 w.heap.size V hbV.size (sw0_in _ _ d) (by omega) (by omega))
  have HPr : Hid (∀ w1, Calls Try.prog 34 #[.agg (wL nul).toArray] w1 fun e w' => ∃ z : Int, e = .returned (.int .i64 z) ∧ Hid (0 ≤ z ∧ z ≤ 200000) ∧ Below w1.heap.size w1 w') := fun w1 => props_any nul 0 w1 (Nat.zero_le _) (nul_in _ _)
  have HP := hide hP
  have HSt := hide hS
  have HV := hide hV
  clear hV hbV b0 hP hS
  go_enter Try.func12, Try.ntmps12
  go_wp2_with (first | (rw [HV.out]; refine Shut.out ?_))
  unfold Shut
  go_wp2_with (first | (refine wpList_load_mid rfl 53 (.tmp 5) rfl w.heap.size 5 rfl sw0.L _ HS0.out Try.underlying53 rfl Try.infoSt ?_) | (go_at_call 33; refine HW0.out.mono ?_; rintro e1 w1 ⟨z1, rfl, hz1, hb1⟩; refine Shut.out ?_))
  unfold Shut
  have HH1 := hide (HK.out w1 hb1)
  have HS1 := hide (op_props HH1.out.2.1)
  obtain ⟨hz1a, hz1b⟩ := hz1.out
  have hl1 := HH1.out.2.2
  clear hz1 HW0 HS0
  go_wp2_with (first | (refine wpList_load_mid rfl 48 (.tmp 10) rfl w.heap.size 30 rfl (wL nul) _ HS1.out Try.underlying48 rfl Try.infoVa ?_) | (go_at_call 34; refine (HPr.out _).mono ?_; rintro e2 w2 ⟨z2, rfl, hz2, hb2⟩; refine Shut.out ?_))
  unfold Shut
  obtain ⟨hz2a, hz2b⟩ := hz2.out
  have HH2 := hide (HK.out w2 (hb1.trans (hb2.mono hb1.size)))
  have hw12 : IntKind.i64.wrap (z1 + z2) = z1 + z2 := by rw [IntKind.wrap_i64]; omega
  clear hz2 HPr HH1 HS1 hb1 hb2 HK
  go_wp2
  go_loopw [3, 4] (fun u v wr => ∃ (z : Int) (j : Nat), u = .int .i64 z ∧ v = .int .i64 j ∧ (j : Int) ≤ z ∧ z ≤ 1000000 ∧ j ≤ ps.length ∧ Below w.heap.size w wr ∧ wr.heap[w.heap.size]? = some (.cells (opA (.slice pa ps.length pc)) 59 (0, 0)) ∧ w.heap.size < wr.heap.size) (fun _ v _ => ps.length + 1 - (intOf v).toNat)
  case atStart => exact ⟨z1 + z2, 0, by go_num, rfl, by omega, by omega, by omega, HH2.out.1, HH2.out.2.1, HH2.out.2.2⟩
  case round =>
    clear HH2
    obtain ⟨z, j, rfl, rfl, hza, hzb, hj, hb, hblk, hlt⟩ := hrel
    have hc : wr.cell? ⟨w.heap.size, 152, none⟩ = some (.slice pa ps.length pc) := cellOf hblk 152 (.slice pa ps.length pc) rfl
    have HBk := hide hblk
    have HB := hide hb
    clear hblk hb
    by_cases hjl : j < ps.length
    · by_cases hzl : z ≤ 100000
      · obtain ⟨b, off, hia, hbl, hrg⟩ := (HP.out.below HB.out) j hjl
        obtain ⟨x, hx⟩ : ∃ x, ps[j] = x := ⟨_, rfl⟩
        rw [hx] at hrg
        have HRw : Hid (wr.rangeAt b (off + j * 20 + 1) x.2.L) := fun i v hv => by
          have := hrg (i + 1) v (by simpa [Un.enc] using hv)
          rwa [show off + j * 20 + (i + 1) = off + j * 20 + 1 + i by omega] at this
        have HW := hide (weighS_any d x.2 (z + 1) w.heap.size wr HB.out.size (StIn.keep (fun q h => HB.out.block q h) (fun _ h => h) (HSt.out x (hx ▸ List.getElem_mem hjl))) (by omega) (by omega))
        have hwz : IntKind.i64.wrap (z + 1) = z + 1 := by rw [IntKind.wrap_i64]; omega
        rw [hia] at hc
        clear hrg hx hia
        go_wp2_with (first | (refine wpList_load_mid rfl 53 (.tmp 29) rfl b (off + j * 20 + 1) rfl x.2.L _ HRw.out Try.underlying53 rfl Try.infoSt ?_) | (go_at_call 33; refine HW.out.mono ?_; rintro e5 w5 ⟨z5, rfl, hz5, hb5⟩; refine Shut.out ?_))
        unfold Shut
        obtain ⟨hz5a, hz5b⟩ := hz5.out
        have HB5 := hide (HB.out.trans (hb5.mono HB.out.size))
        have HK5 := hide ((hb5.block _ hlt).trans HBk.out)
        have hl5 : w.heap.size < w5.heap.size := Nat.lt_of_lt_of_le hlt hb5.size
        clear hb5 hz5 HW HRw
        go_wp2
        go_roundw
        case rel => exact ⟨z5, j + 1, rfl, by go_num, by omega, by omega, by omega, HB5.out, HK5.out, hl5⟩
        case measure => simp [intOf]; omega
      · have hd : decide (z ≤ 100000) = false := by simpa using hzl
        go_wp2
        go_ret
        exact ⟨_, rfl, _, rfl, by first | (intro h; omega) | (intro h; cases h), HB.out⟩
    · by_cases hzl : z ≤ 100000
      · have hd : decide (100000 < z) = false := by simp; omega
        go_wp2
        go_ret
        exact ⟨_, rfl, _, rfl, by first | (intro h; omega) | (intro h; cases h), HB.out⟩
      · have hd : decide (100000 < z) = true := by simp; omega
        go_wp2
        go_ret
        exact ⟨_, rfl, _, rfl, by first | (intro h; omega) | (intro h; cases h), HB.out⟩
end Go.Proofs.Ytknkmamjdmadcaa.G
