import Derived.Test.YtondbhdlccpklaaQWiYM9

/- SessionWindows: act. -/
namespace Go.Proofs.Ytondbhdlccpklaa
open Go.RowKit Go.Maps
set_option linter.unusedVariables false
set_option linter.unusedSimpArgs false

theorem one_fill (x : It) (z : Value) (hz : z.cells.size = 128) : Instr.fill (fun i => some (i * 128, 128)) ((Array.range (1 * 128)).map (z.cells[· % z.cells.size]!)) [(0, .agg (itA x))] = some (itA x) := by
  have := Great.fill_whole (s := 128) (by decide) [.agg (itA x)] ((Array.range (1 * 128)).map (z.cells[· % z.cells.size]!)) (fun v hv => by rw [List.mem_singleton] at hv; subst hv; exact it_128 x) (by simp)
  simpa [Value.cells] using this
theorem wp_build_one {o : Oper} {a : Act} {w : World} {K : Act → World → Prop} {Q : Exit → Act → World → Prop} (y : Operand) (ho : o.op = .buildSlice 60 1 #[(0, y)]) (x : It) (hx : a.eval y = .agg (itA x)) (h : K (a.put o.dst (.slice (some ⟨w.heap.size, 0, none⟩) 1 1)) (w.alloc (.cells (itA x) 39))) : o.wp Try.prog a w K Q := by
  obtain ⟨i, z, hi, hz, hzs, his, hib⟩ := info_pe
  refine wp_buildSlice 60 39 1 #[(0, y)] ho (itA x) i z Try.underlying60 hi hz (by rw [his]; decide) (by rw [his]; decide) ?_ h
  rw [his]
  simp only [List.map_toArray, List.map_cons, List.map_nil, hx]
  exact one_fill x z hzs
theorem wpList_build_one {ops : Array Oper} {rest : List Oper} {o : Oper} {a : Act} {w : World} {Q : Exit → Act → World → Prop} (hg : o.guard = none) (y : Operand) (ho : o.op = .buildSlice 60 1 #[(0, y)]) (x : It) (hx : a.eval y = .agg (itA x)) (h : wpList Try.prog ops Q rest (a.put o.dst (.slice (some ⟨w.heap.size, 0, none⟩) 1 1)) (w.alloc (.cells (itA x) 39))) : wpList Try.prog ops Q (o :: rest) a w :=
  wpList_plain hg fun _ hK => wp_build_one y ho x hx (hK _ _ h)
/-- behind a step -/
def WN (z : Nat) (w0 w : World) (kx gx ky gy N : Nat) : Prop := ∃ sx sy vx vy X Y, Wn z w kx gx ky gy N sx sy vx vy X Y ∧ Win (N : Int) sx sy X Y ∧ Below z w0 w ∧ z ≤ w.heap.size
theorem WN.swap {z : Nat} {w w0 : World} {kx gx ky gy N : Nat} (h : WN z w0 w kx gx ky gy N) : WN z w0 w ky gy kx gx N := by
  obtain ⟨sx, sy, vx, vy, X, Y, h1, h2, h3, h4⟩ := h
  exact ⟨sy, sx, vy, vx, Y, X, h1.swap, h2.swap, h3, h4⟩
theorem Sde.facts {z : Nat} {w : World} {k g : Nat} {s : Sn} {v : Value} {W : List It} (h : Sde z w k g s v W) : w.cell? ⟨k, 0, none⟩ = some (.pointer (some ⟨g, 0, none⟩)) ∧ w.cell? ⟨k, 1, none⟩ = some v ∧ w.frozen? ⟨k, 1, none⟩ = false ∧ k < w.heap.size :=
  ⟨cellOf h.b 0 _ rfl, cellOf h.b 1 _ rfl, by simp [World.frozen?, h.b], h.lt⟩
theorem room_pos {s : Sn} (h : s.ok) (hr : s.room ≠ 0) : 0 < s.room := by
  have h1 := h.ri
  have h2 := h.ow
  unfold Sn.room lesser at *
  split at hr
  · rename_i hp
    rw [if_pos hp]
    split at hr <;> rename_i hq <;> simp only [hq, if_true, if_false] <;> omega
  · omega
section
variable {z : Nat} {w w0 : World} {kx gx ky gy N : Nat} {sx sy : Sn} {vx vy : Value} {X Y : List It}
set_option maxRecDepth 100000 in
set_option maxHeartbeats 8000000 in
theorem act_none (o : Opd) (h : Wn z w kx gx ky gy N sx sy vx vy X Y) (hw : Win (N : Int) sx sy X Y) (hb : Below z w0 w) (hz : z ≤ w.heap.size) (hN : N ≤ 1000000000) (hk : Int.tmod o.k 5 = 0) (hr : sx.room = 0) :
    Calls Try.prog 22 #[.pointer (some ⟨kx, 0, none⟩), .pointer (some ⟨ky, 0, none⟩), .agg o.cells] w fun e w' => e = .returned (.bool true) ∧ WN z w0 w' kx gx ky gy (N + 1) := by
  unfold Opd.cells
  obtain ⟨k, a, b, c, d, e, t, f⟩ := o
  dsimp only at *
  obtain ⟨V, hV⟩ : ∃ V, w.alloc (.cells #[.int .i64 k, .int .i64 a, .int .i64 b, .int .i64 c, .int .i64 d, .int .i64 e, .string t, .bool f] 24) = V := ⟨_, rfl⟩
  have hbV : Below w.heap.size w V := hV ▸ bel1 (Below.refl _ _) (Nat.le_refl _) _
  have HV := hide hV
  have hW := h.below hbV
  have HW := hide hW
  have HWin := hide hw
  have HB0 : Hid (Below z w0 V) := hb.trans (hbV.mono hz)
  have HZ0 : Hid (z ≤ V.heap.size) := Nat.le_trans hz hbV.size
  have hl0 : w.heap.size < V.heap.size := by rw [← hV]; simp
  have ck : V.cell? ⟨w.heap.size, 0, none⟩ = some (.int .i64 k) := by rw [← hV]; exact cellOf (heap_alloc_last w _) 0 _ rfl
  have ca : V.cell? ⟨w.heap.size, 1, none⟩ = some (.int .i64 a) := by rw [← hV]; exact cellOf (heap_alloc_last w _) 1 _ rfl
  obtain ⟨c0, c1, c2, c3⟩ := hW.x.facts
  have HR : Hid (Calls Try.prog 17 #[.pointer (some ⟨gx, 0, none⟩)] V fun e w' => e = .returned (.int .i64 0) ∧ Below V.heap.size V w') := by
    have := room_any gx sx V hW.x.sb
    rw [hr] at this
    exact this
  clear hV hbV hW h hw hb hz ca
  go_enter Try.func22, Try.ntmps22
  go_wp2_with (rw [HV.out])
  refine HR.out.mono ?_
  rintro e1 w1 ⟨rfl, b1⟩
  have h1 := HW.out.below b1
  obtain ⟨d0, d1, d2, d3⟩ := h1.x.facts
  have HS := hide (sent_no gx sx w1 h1.x.sb hr)
  have H1 := hide h1
  have HB1 := hide b1
  clear h1 b1 c0 c1 c2 ck
  go_wp2_with fail
  refine HS.out.mono ?_
  rintro e2 w2 ⟨rfl, b2⟩
  have HB2 := hide b2
  clear b2
  go_wp2
  go_ret
  exact ⟨rfl, sx, sy, vx, vy, X, Y, (H1.out.below HB2.out).more (by omega), by have := HWin.out.more; push_cast; exact this, (HB0.out.trans (HB1.out.mono HZ0.out)).trans (HB2.out.mono (by have := HZ0.out; have := HB1.out.size; omega)), by have := HZ0.out; have := HB1.out.size; have := HB2.out.size; omega⟩
set_option maxRecDepth 100000 in
set_option maxHeartbeats 8000000 in
theorem act_send (o : Opd) (h : Wn z w kx gx ky gy N sx sy vx vy X Y) (hw : Win (N : Int) sx sy X Y) (hb : Below z w0 w) (hz : z ≤ w.heap.size) (hN : N ≤ 1000000000) (hk : Int.tmod o.k 5 = 0) (hr : sx.room ≠ 0) :
    Calls Try.prog 22 #[.pointer (some ⟨kx, 0, none⟩), .pointer (some ⟨ky, 0, none⟩), .agg o.cells] w fun e w' => e = .returned (.bool true) ∧ WN z w0 w' kx gx ky gy (N + 1) := by
  unfold Opd.cells
  obtain ⟨k, a, b, c, d, e, t, f⟩ := o
  dsimp only at *
  obtain ⟨V, hV⟩ : ∃ V, w.alloc (.cells #[.int .i64 k, .int .i64 a, .int .i64 b, .int .i64 c, .int .i64 d, .int .i64 e, .string t, .bool f] 24) = V := ⟨_, rfl⟩
  have hbV : Below w.heap.size w V := hV ▸ bel1 (Below.refl _ _) (Nat.le_refl _) _
  have HV := hide hV
  have hW := h.below hbV
  have HW := hide hW
  have HWin := hide hw
  have HB0 : Hid (Below z w0 V) := hb.trans (hbV.mono hz)
  have HZ0 : Hid (z ≤ V.heap.size) := Nat.le_trans hz hbV.size
  have hl0 : w.heap.size < V.heap.size := by rw [← hV]; simp
  have ck : V.cell? ⟨w.heap.size, 0, none⟩ = some (.int .i64 k) := by rw [← hV]; exact cellOf (heap_alloc_last w _) 0 _ rfl
  have ca : V.cell? ⟨w.heap.size, 1, none⟩ = some (.int .i64 a) := by rw [← hV]; exact cellOf (heap_alloc_last w _) 1 _ rfl
  obtain ⟨c0, c1, c2, c3⟩ := hW.x.facts
  obtain ⟨ay, cy, hsh⟩ := h.y.wy.shape
  have HSh := hide hsh
  have hpos := room_pos hw.oa.1 hr
  obtain ⟨r, hr'⟩ : ∃ r, r = sx.room := ⟨_, rfl⟩
  have HR : Hid (Calls Try.prog 17 #[.pointer (some ⟨gx, 0, none⟩)] V fun e w' => e = .returned (.int .i64 r) ∧ Below V.heap.size V w') := by
    rw [hr']
    exact room_any gx sx V hW.x.sb
  have hrp : ¬ r ≤ 0 := by omega
  have HRm := hide hr
  have Hly := hide h.ly
  clear hV hbV hW h hw hb hz ca hr' hpos hr hsh
  go_enter Try.func22, Try.ntmps22
  go_wp2_with (rw [HV.out])
  refine HR.out.mono ?_
  rintro e1 w1 ⟨rfl, b1⟩
  have h1 := HW.out.below b1
  obtain ⟨d0, d1, d2, d3⟩ := h1.x.facts
  have HS := hide (sent_yes gx sx w1 h1.x.sb HWin.out.oa.1 HRm.out)
  have H1 := hide h1
  have HB1 : Hid (Below z w0 w1) := HB0.out.trans (b1.mono HZ0.out)
  have HZ1 : Hid (z ≤ w1.heap.size) := Nat.le_trans HZ0.out b1.size
  clear h1 b1 c0 c1 c2 ck
  go_wp2_with fail
  refine HS.out.mono ?_
  rintro e2 w2 ⟨rfl, s2, k2⟩
  have h2 := H1.out.turn s2 k2 rfl rfl
  have HB2 := hide (h2.2 w0 HB1.out HZ1.out)
  have HZ2 : Hid (z ≤ w2.heap.size) := Nat.le_trans HZ1.out k2.size
  have H2 := hide h2.1
  obtain ⟨f0, f1, f2, f3⟩ := h2.1.y.facts
  rw [HSh.out] at f1
  clear h2 s2 k2 d0 d1 d2 HS HR
  go_wp2_with (first | (refine wpList_buildTo rfl 39 _ rfl (some 46) rfl trA (by kernel_rfl) ?_) | (refine wpList_build_one rfl (.tmp 46) rfl none rfl ?_) | (at_builtin; refine wpList_append_way _ rfl (.tmp 45) (.tmp 47) rfl z vy Y none HSh.out.symm (H2.out.y.wy.at fun j e => heap_alloc_old _ _ j (H2.out.y.wy.lt e).2) w2.heap.size 1 rfl (heap_alloc_last w2 _) (by have := HZ2.out; simp; omega) (by have := Hly.out; omega) ?_; intro v' w3 ho hg hat; refine Shut.out ?_))
  obtain ⟨a', n', c', hv'⟩ : ∃ a' n' c', v' = Value.slice a' n' c' := by obtain ⟨a1, c1, e1⟩ := ho.shape; exact ⟨a1, _, c1, e1⟩
  subst hv'
  have hp := H2.out.swap.push (M := N + 1) ho hg hat (Nat.le_refl _)
  have z1 : w3.cell? ⟨ky, 1, none⟩ = some (.slice ay Y.length cy) := (World.cell?_of_block (a := ⟨ky, 1, none⟩) hp.2.2.1).trans f1
  have z2 : w3.frozen? ⟨ky, 1, none⟩ = false := (World.frozen?_of_block (a := ⟨ky, 1, none⟩) hp.2.2.1).trans f2
  have z3 : ky < w3.heap.size := by have := hp.2.2.2; omega
  have HP := hide hp.1.swap
  have HBP := hide (hp.2.1 w0 HB2.out HZ2.out)
  have HZP : Hid (z ≤ w3.heap.size) := by show _ ≤ _; have := hp.2.2.2; have := HZ2.out; omega
  clear hp ho hg hat f0 f1 f2
  unfold Shut
  go_wp2
  go_ret
  exact ⟨rfl, sx.sent, sy, vx, _, X, Y ++ [none], HP.out, by have := HWin.out.sent HRm.out; push_cast; exact this, HBP.out, by have := HZP.out; simpa using this⟩
set_option maxRecDepth 100000 in
set_option maxHeartbeats 8000000 in
theorem act_fields (o : Opd) (h : Wn z w kx gx ky gy N sx sy vx vy X Y) (hw : Win (N : Int) sx sy X Y) (hb : Below z w0 w) (hz : z ≤ w.heap.size) (hN : N ≤ 1000000000) (hk : Int.tmod o.k 5 = 1) :
    Calls Try.prog 22 #[.pointer (some ⟨kx, 0, none⟩), .pointer (some ⟨ky, 0, none⟩), .agg o.cells] w fun e w' => e = .returned (.bool true) ∧ WN z w0 w' kx gx ky gy (N + 1) := by
  unfold Opd.cells
  obtain ⟨k, a, b, c, d, e, t, f⟩ := o
  dsimp only at *
  obtain ⟨V, hV⟩ : ∃ V, w.alloc (.cells #[.int .i64 k, .int .i64 a, .int .i64 b, .int .i64 c, .int .i64 d, .int .i64 e, .string t, .bool f] 24) = V := ⟨_, rfl⟩
  have hbV : Below w.heap.size w V := hV ▸ bel1 (Below.refl _ _) (Nat.le_refl _) _
  have HV := hide hV
  have hW := h.below hbV
  have HW := hide hW
  have HWin := hide hw
  have HB0 : Hid (Below z w0 V) := hb.trans (hbV.mono hz)
  have HZ0 : Hid (z ≤ V.heap.size) := Nat.le_trans hz hbV.size
  have hl0 : w.heap.size < V.heap.size := by rw [← hV]; simp
  have ck : V.cell? ⟨w.heap.size, 0, none⟩ = some (.int .i64 k) := by rw [← hV]; exact cellOf (heap_alloc_last w _) 0 _ rfl
  have ca : V.cell? ⟨w.heap.size, 1, none⟩ = some (.int .i64 a) := by rw [← hV]; exact cellOf (heap_alloc_last w _) 1 _ rfl
  obtain ⟨c0, c1, c2, c3⟩ := hW.x.facts
  obtain ⟨ay, cy, hsh⟩ := h.y.wy.shape
  have HSh := hide hsh
  have HF := hide (fields_any gx sx V hW.x.sb)
  have Hly := hide h.ly
  clear hV hbV hW h hw hb hz ca hsh
  go_enter Try.func22, Try.ntmps22
  go_wp2_with (rw [HV.out])
  refine HF.out.mono ?_
  rintro e1 w1 ⟨rfl, b1⟩
  obtain ⟨V1, hV1⟩ : ∃ V1, w1.alloc (.cells sx.flow 39) = V1 := ⟨_, rfl⟩
  have hb1 : Below V.heap.size V V1 := hV1 ▸ bel1 b1 b1.size _
  have HV1 := hide hV1
  have HN1 : Hid (V1.drew.heap[w1.heap.size]? = some (.cells sx.flow 39 (0, 0))) := hV1 ▸ heap_alloc_last w1 _
  have hPl : w1.heap.size < V1.drew.heap.size := (Array.getElem?_eq_some_iff.1 HN1.out).1
  have hbd : Below V.heap.size V V1.drew := ⟨hb1.os, hb1.tape, hb1.output, hb1.size, hb1.block⟩
  have h1 : Wn z V1.drew kx gx ky gy N sx sy vx vy X Y := HW.out.below hbd
  have HB1 : Hid (Below z w0 V1.drew) := HB0.out.trans (hbd.mono HZ0.out)
  have HZ1 : Hid (z ≤ V1.heap.size) := Nat.le_trans HZ0.out hbd.size
  obtain ⟨f0, f1, f2, f3⟩ := h1.y.facts
  rw [HSh.out] at f1
  have HPy : Hid (vy.ownBlock ≠ some w1.heap.size) := fun e => by
    have := (HW.out.y.wy.lt e).2
    have := b1.size
    omega
  have HPk : Hid (w1.heap.size ≠ ky) := fun e => by
    have := HW.out.y.lt
    have := b1.size
    omega
  have H1 := hide h1
  have f1' : V1.cell? ⟨ky, 1, none⟩ = some (.slice ay Y.length cy) := f1
  have f3' : ky < V1.heap.size := f3
  clear h1 b1 hb1 hbd hV1 c0 c1 c2 ck HF f0
  go_wp2_with (refine wpList_store_row rfl 39 (.tmp 11) (.tmp 60) rfl w1.heap.size sx.flow rfl rfl 39 _ (heap_alloc_last w1 _) (sflow_size ..) (sflow_zero ..) (sflow_one ..) ?_; rw [World.setRow_alloc_new, HV1.out])
  refine wp_region_held_drew (S := fun W => W.heap[w1.heap.size]? = some (.cells sx.flow 39 (0, 0))) (by kernel_rfl) HN1.out (fun hHeld => ?_)
  refine take_do (i := 0) (d := 61) (v := ?_) rfl rfl (by kernel_rfl) (by kernel_rfl) (by kernel_rfl) (fun _ _ _ h => h) rfl ?_ (by assumption) ?_
  rotate_left
  · intro W hSw
    try dsimp only at hSw
    go_simp
    try with_reducible rfl
  try simp only [List.setIfInBounds_toArray, List.set_cons_zero, List.set_cons_succ]
  refine take_do (i := 1) (d := 62) (v := ?_) rfl rfl (by kernel_rfl) (by kernel_rfl) (by kernel_rfl) (fun _ _ _ h => h) rfl ?_ (by assumption) ?_
  rotate_left
  · intro W hSw
    try dsimp only at hSw
    go_simp
    try with_reducible rfl
  try simp only [List.setIfInBounds_toArray, List.set_cons_zero, List.set_cons_succ]
  refine take_do (i := 2) (d := 63) (v := ?_) rfl rfl (by kernel_rfl) (by kernel_rfl) (by kernel_rfl) (fun _ _ _ h => h) rfl ?_ (by assumption) ?_
  rotate_left
  · intro W hSw
    try dsimp only at hSw
    go_simp
    try with_reducible rfl
  try simp only [List.setIfInBounds_toArray, List.set_cons_zero, List.set_cons_succ]
  refine take_do (i := 3) (d := 64) (v := ?_) rfl rfl (by kernel_rfl) (by kernel_rfl) (by kernel_rfl) (fun _ _ _ h => h) rfl ?_ (by assumption) ?_
  rotate_left
  · intro W hSw
    try dsimp only at hSw
    go_simp
    try with_reducible rfl
  try simp only [List.setIfInBounds_toArray, List.set_cons_zero, List.set_cons_succ]
  refine take_do (i := 5) (d := 66) (v := ?_) rfl rfl (by kernel_rfl) (by kernel_rfl) (by kernel_rfl) (fun _ _ _ h => h) rfl ?_ (by assumption) ?_
  rotate_left
  · intro W hSw
    refine row_run W _ 39 (.tmp 11) ?_ w1.heap.size sx.flow 39 (0, 0) ?_ hSw _ Try.underlying39 rfl (sflow_size sx) <;> rfl
  try simp only [List.setIfInBounds_toArray, List.set_cons_zero, List.set_cons_succ]
  refine wpAnyH_ready (rs := [4, 6]) (by kernel_rfl) (by simp) ?_
  refine AllReadyH.cons rfl (fun K hK => ?_) (AllReadyH.cons rfl (fun K hK => ?_) AllReadyH.nil)
  · go_simp
    try go_wp2
    refine hK.out _ _ HN1.out (fun hHeld => ?_)
    clear hK K
    try simp only [Act.put, List.setIfInBounds_toArray, List.set_cons_zero, List.set_cons_succ]
    refine wpAnyH_ready (rs := [6]) (by kernel_rfl) (by simp) ?_
    refine AllReadyH.cons rfl (fun K hK => ?_) AllReadyH.nil
    rw [if_pos (by kernel_rfl)]
    refine wp_build_one (.tmp 66) rfl (some sx) rfl ?_
    refine hK.out _ _ ((heap_alloc_old V1.drew _ _ hPl).trans HN1.out) (fun hHeld => ?_)
    clear hK K
    try simp only [Act.put, List.setIfInBounds_toArray, List.set_cons_zero, List.set_cons_succ]
    refine wpAnyH_ready (rs := [7]) (by kernel_rfl) (by simp) ?_
    refine AllReadyH.cons rfl (fun K hK => ?_) AllReadyH.nil
    rw [if_pos (by kernel_rfl)]
    refine wp_append_way _ (.tmp 65) (.tmp 67) rfl z vy Y (some sx) HSh.out.symm (H1.out.y.wy.at fun j e => heap_alloc_old _ _ j (H1.out.y.wy.lt e).2) V1.heap.size 1 rfl (heap_alloc_last V1.drew _) (by have := HZ1.out; show z ≤ (V1.drew.alloc _).heap.size; simp; omega) (by have := Hly.out; omega) ?_
    intro v' w3 ho hg hat
    obtain ⟨a', n', c', hv'⟩ : ∃ a' n' c', v' = Value.slice a' n' c' := by obtain ⟨a1, c1, e1⟩ := ho.shape; exact ⟨a1, _, c1, e1⟩
    subst hv'
    have hp := H1.out.swap.push (M := N + 1) ho hg hat (Nat.le_refl _)
    have z1 : w3.cell? ⟨ky, 1, none⟩ = some (.slice ay Y.length cy) := (World.cell?_of_block (a := ⟨ky, 1, none⟩) hp.2.2.1).trans f1
    have z2 : w3.frozen? ⟨ky, 1, none⟩ = false := (World.frozen?_of_block (a := ⟨ky, 1, none⟩) hp.2.2.1).trans f2
    have z3 : ky < w3.heap.size := by have := hp.2.2.2; omega
    have HP := hide hp.1.swap
    have HBP := hide (hp.2.1 w0 HB1.out HZ1.out)
    have HZP : Hid (z ≤ w3.heap.size) := by show _ ≤ _; have := hp.2.2.2; have := HZ1.out; have hds : V1.drew.heap.size = V1.heap.size := rfl; omega
    have hS3 : w3.heap[w1.heap.size]? = some (.cells sx.flow 39 (0, 0)) := (hg.block _ (by show _ < (V1.drew.alloc _).heap.size; have hds : V1.drew.heap.size = V1.heap.size := rfl; simp; omega) (fun e => by have := (H1.out.y.wy.lt e.symm).2; exact HPy.out e.symm)).trans ((heap_alloc_old V1.drew _ _ hPl).trans HN1.out)
    have hS4 : (w3.setCell ⟨ky, 1, none⟩ (.slice a' n' c')).heap[w1.heap.size]? = some (.cells sx.flow 39 (0, 0)) := (blk_set_other _ _ _ _ HPk.out).trans hS3
    refine hK.out _ _ hS3 (fun hHeld => ?_)
    clear hK K hp ho hg hat
    try simp only [Act.put, List.setIfInBounds_toArray, List.set_cons_zero, List.set_cons_succ]
    refine take_do (i := 8) (d := 69) (v := ?_) rfl rfl (by kernel_rfl) (by kernel_rfl) (by kernel_rfl) (fun _ _ _ h => h) rfl ?_ (by assumption) ?_
    rotate_left
    · intro W hSw
      try dsimp only at hSw
      go_simp
      try with_reducible rfl
    try simp only [List.setIfInBounds_toArray, List.set_cons_zero, List.set_cons_succ]
    refine take_do (i := 9) (d := 70) (v := ?_) rfl rfl (by kernel_rfl) (by kernel_rfl) (by kernel_rfl) (fun _ _ _ h => h) rfl ?_ (by assumption) ?_
    rotate_left
    · intro W hSw
      try dsimp only at hSw
      go_simp
      try with_reducible rfl
    try simp only [List.setIfInBounds_toArray, List.set_cons_zero, List.set_cons_succ]
    refine wpAnyH_ready (rs := [10]) (by kernel_rfl) (by simp) ?_
    refine AllReadyH.cons rfl (fun K hK => ?_) AllReadyH.nil
    go_simp
    try go_wp2
    refine hK.out _ _ hS4 (fun hHeld => ?_)
    clear hK K
    try simp only [Act.put, List.setIfInBounds_toArray, List.set_cons_zero, List.set_cons_succ]
    refine wpAnyH_done (by kernel_rfl) ?_ _
    go_wp2
    go_ret
    exact ⟨rfl, sx, sy, vx, _, X, Y ++ [some sx], HP.out, by have := HWin.out.fields; push_cast; exact this, HBP.out, by have := HZP.out; simpa using this⟩
  · rw [if_pos (by kernel_rfl)]
    refine wp_build_one (.tmp 66) rfl (some sx) rfl ?_
    refine hK.out _ _ ((heap_alloc_old V1.drew _ _ hPl).trans HN1.out) (fun hHeld => ?_)
    clear hK K
    try simp only [Act.put, List.setIfInBounds_toArray, List.set_cons_zero, List.set_cons_succ]
    have f4 : (V1.drew.alloc (.cells (itA (some sx)) 39)).cell? ⟨ky, 1, none⟩ = some (.slice ay Y.length cy) := (World.cell?_alloc_lt _ _ _ f3).trans f1
    refine wpAnyH_ready (rs := [4]) (by kernel_rfl) (by simp) ?_
    refine AllReadyH.cons rfl (fun K hK => ?_) AllReadyH.nil
    go_simp
    try go_wp2
    refine hK.out _ _ ((heap_alloc_old V1.drew _ _ hPl).trans HN1.out) (fun hHeld => ?_)
    clear hK K f4
    try simp only [Act.put, List.setIfInBounds_toArray, List.set_cons_zero, List.set_cons_succ]
    refine wpAnyH_ready (rs := [7]) (by kernel_rfl) (by simp) ?_
    refine AllReadyH.cons rfl (fun K hK => ?_) AllReadyH.nil
    rw [if_pos (by kernel_rfl)]
    refine wp_append_way _ (.tmp 65) (.tmp 67) rfl z vy Y (some sx) HSh.out.symm (H1.out.y.wy.at fun j e => heap_alloc_old _ _ j (H1.out.y.wy.lt e).2) V1.heap.size 1 rfl (heap_alloc_last V1.drew _) (by have := HZ1.out; show z ≤ (V1.drew.alloc _).heap.size; simp; omega) (by have := Hly.out; omega) ?_
    intro v' w3 ho hg hat
    obtain ⟨a', n', c', hv'⟩ : ∃ a' n' c', v' = Value.slice a' n' c' := by obtain ⟨a1, c1, e1⟩ := ho.shape; exact ⟨a1, _, c1, e1⟩
    subst hv'
    have hp := H1.out.swap.push (M := N + 1) ho hg hat (Nat.le_refl _)
    have z1 : w3.cell? ⟨ky, 1, none⟩ = some (.slice ay Y.length cy) := (World.cell?_of_block (a := ⟨ky, 1, none⟩) hp.2.2.1).trans f1
    have z2 : w3.frozen? ⟨ky, 1, none⟩ = false := (World.frozen?_of_block (a := ⟨ky, 1, none⟩) hp.2.2.1).trans f2
    have z3 : ky < w3.heap.size := by have := hp.2.2.2; omega
    have HP := hide hp.1.swap
    have HBP := hide (hp.2.1 w0 HB1.out HZ1.out)
    have HZP : Hid (z ≤ w3.heap.size) := by show _ ≤ _; have := hp.2.2.2; have := HZ1.out; have hds : V1.drew.heap.size = V1.heap.size := rfl; omega
    have hS3 : w3.heap[w1.heap.size]? = some (.cells sx.flow 39 (0, 0)) := (hg.block _ (by show _ < (V1.drew.alloc _).heap.size; have hds : V1.drew.heap.size = V1.heap.size := rfl; simp; omega) (fun e => by have := (H1.out.y.wy.lt e.symm).2; exact HPy.out e.symm)).trans ((heap_alloc_old V1.drew _ _ hPl).trans HN1.out)
    have hS4 : (w3.setCell ⟨ky, 1, none⟩ (.slice a' n' c')).heap[w1.heap.size]? = some (.cells sx.flow 39 (0, 0)) := (blk_set_other _ _ _ _ HPk.out).trans hS3
    refine hK.out _ _ hS3 (fun hHeld => ?_)
    clear hK K hp ho hg hat
    try simp only [Act.put, List.setIfInBounds_toArray, List.set_cons_zero, List.set_cons_succ]
    refine take_do (i := 8) (d := 69) (v := ?_) rfl rfl (by kernel_rfl) (by kernel_rfl) (by kernel_rfl) (fun _ _ _ h => h) rfl ?_ (by assumption) ?_
    rotate_left
    · intro W hSw
      try dsimp only at hSw
      go_simp
      try with_reducible rfl
    try simp only [List.setIfInBounds_toArray, List.set_cons_zero, List.set_cons_succ]
    refine take_do (i := 9) (d := 70) (v := ?_) rfl rfl (by kernel_rfl) (by kernel_rfl) (by kernel_rfl) (fun _ _ _ h => h) rfl ?_ (by assumption) ?_
    rotate_left
    · intro W hSw
      try dsimp only at hSw
      go_simp
      try with_reducible rfl
    try simp only [List.setIfInBounds_toArray, List.set_cons_zero, List.set_cons_succ]
    refine wpAnyH_ready (rs := [10]) (by kernel_rfl) (by simp) ?_
    refine AllReadyH.cons rfl (fun K hK => ?_) AllReadyH.nil
    go_simp
    try go_wp2
    refine hK.out _ _ hS4 (fun hHeld => ?_)
    clear hK K
    try simp only [Act.put, List.setIfInBounds_toArray, List.set_cons_zero, List.set_cons_succ]
    refine wpAnyH_done (by kernel_rfl) ?_ _
    go_wp2
    go_ret
    exact ⟨rfl, sx, sy, vx, _, X, Y ++ [some sx], HP.out, by have := HWin.out.fields; push_cast; exact this, HBP.out, by have := HZP.out; simpa using this⟩
end
end Go.Proofs.Ytondbhdlccpklaa
