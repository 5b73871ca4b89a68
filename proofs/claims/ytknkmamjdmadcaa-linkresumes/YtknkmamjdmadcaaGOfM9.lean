import Derived.Test.YtknkmamjdmadcaaGMapM9
import Derived.Test.YtknkmamjdmadcaaLFldM9
import Derived.Test.YtknkmamjdmadcaaLKeep2M9
import Derived.Maps.RangeWalk
import Derived.StringKeys
import Derived.OwnWalk
import Derived.Test.YtknkmamjdmadcaaGUnsM9
import Derived.Test.YtknkmamjdmadcaaGPeerM9
import Derived.Test.YtknkmamjdmadcaaLPeerM9

/- Stage 14: terms.Outcome. -/
namespace Go.Proofs.Ytknkmamjdmadcaa.G
open Go.RowKit Go.Maps
set_option linter.unusedVariables false
set_option linter.unusedSimpArgs false

def Ints (w : World) (b : Nat) (l : List Int) : Prop := w.heap[b]? = some (.cells (l.map fun k => Value.int .i64 k).toArray 3 (0, 0))
theorem Ints.cell {w : World} {b : Nat} {l : List Int} (h : Ints w b l) (i : Nat) (hi : i < l.length) : w.cell? ⟨b, i, none⟩ = some (.int .i64 l[i]) := by
  unfold Ints at h
  unfold World.cell?
  simp only [h]
  simp [hi]
set_option maxRecDepth 100000 in
set_option maxHeartbeats 2000000 in
theorem index_any (l : List Int) (hl : l.length ≤ 1000) (a : Option Addr) (k : Int) (w : World) (hi : 0 < l.length → ∃ b, a = some ⟨b, 0, none⟩ ∧ b < w.heap.size ∧ Ints w b l) :
    Calls Try.prog 92 #[.slice a l.length l.length, .int .i64 k] w fun e w' => (∃ i : Int, e = .returned (.int .i64 i) ∧ (0 ≤ i ↔ l.contains k = true) ∧ -1 ≤ i ∧ i ≤ 1000) ∧ Below w.heap.size w w' := by
  have HI := hide hi
  clear hi
  go_enter Try.func92, Try.ntmps92
  go_wp2
  go_loopw [8] (fun u wr => ∃ i : Nat, u = .int .i64 i ∧ i ≤ l.length ∧ Below w.heap.size w wr ∧ Hid (∀ j (h : j < l.length), j < i → l[j] ≠ k)) (fun u _ => l.length + 1 - (intOf u).toNat)
  case atStart => exact ⟨0, rfl, by omega, Below.refl _ _, fun j _ h => absurd h (by omega)⟩
  case round =>
    obtain ⟨i, rfl, hi, hb, HN⟩ := hrel
    have hsz := hb.size
    by_cases hil : i < l.length
    · obtain ⟨b, rfl, hbl, hin⟩ := HI.out (by omega)
      have hcell := (show Ints wr b l from (hb.block b hbl).trans hin).cell i hil
      have hbw : b < wr.heap.size := by omega
      clear hin
      by_cases hk : l[i] = k
      · rw [hk] at hcell
        have HC : Hid (l.contains k = true) := List.contains_iff_mem.2 (hk ▸ List.getElem_mem hil)
        clear hk HN
        have hkb : (k == k) = true := by simp
        go_wp2
        exact bodyPost_ret (v := .int .i64 i) (by simp [results, Try.results92, go_sem]) rfl ⟨⟨i, rfl, ⟨fun _ => HC.out, fun _ => by omega⟩, by omega, by omega⟩, hb⟩
      · generalize hx : l[i] = x at hcell hk
        have hkb : (k == x) = false := by rw [beq_eq_false_iff_ne]; exact fun h => hk h.symm
        have hkx : ¬ k = x := fun h => hk h.symm
        have HNX : Hid (∀ j (h : j < l.length), j < i + 1 → l[j] ≠ k) := by
          intro j h hlt
          by_cases e : j = i
          · subst e; rw [hx]; exact hk
          · exact HN.out j h (by omega)
        clear hx HN
        go_wp2
        go_roundw
        case rel => exact ⟨i + 1, by go_num, by omega, hb, HNX⟩
        case measure => simp [intOf]; omega
    · have hie : i = l.length := by omega
      subst hie
      have HC : Hid (l.contains k = false) := by
        rw [Hid, Bool.eq_false_iff]
        intro h
        obtain ⟨j, hj, e⟩ := List.mem_iff_getElem.1 (List.contains_iff_mem.1 h)
        exact HN.out j hj hj e
      clear HN
      go_wp2
      exact bodyPost_ret (v := .int .i64 (-1)) (by simp [results, Try.results92, go_sem]) rfl ⟨⟨-1, rfl, ⟨fun h => absurd h (by omega), fun h => by rw [HC.out] at h; cases h⟩, by omega, by omega⟩, hb⟩
set_option maxRecDepth 100000 in
set_option maxHeartbeats 2000000 in
theorem contains_any (l : List Int) (hl : l.length ≤ 1000) (a : Option Addr) (k : Int) (w : World) (hi : 0 < l.length → ∃ b, a = some ⟨b, 0, none⟩ ∧ b < w.heap.size ∧ Ints w b l) :
    Calls Try.prog 75 #[.slice a l.length l.length, .int .i64 k] w fun e w' => e = .returned (.bool (l.contains k)) ∧ Below w.heap.size w w' := by
  have HI := hide (index_any l hl a k w hi)
  clear hi
  go_enter Try.func75, Try.ntmps75
  go_wp2_with fail
  refine HI.out.mono ?_
  rintro e1 w1 ⟨⟨i, rfl, hiff, h1, h2⟩, hb⟩
  have hd : decide (0 ≤ i) = l.contains k := by
    by_cases h : 0 ≤ i
    · rw [decide_eq_true h, hiff.1 h]
    · rw [decide_eq_false h]
      cases hc : l.contains k
      · rfl
      · exact absurd (hiff.2 hc) h
  have HD := hide hd
  clear hd hiff
  go_wp2
  exact bodyPost_ret (v := .bool (decide (0 ≤ i))) (by simp [results, Try.results75, go_sem]) rfl ⟨by rw [HD.out], hb⟩
def outs : List Int := [36, 37, 38, 39]
/-- a final state's kind -/
def fin (k : Int) : Bool := outs.contains k
set_option maxRecDepth 100000 in
theorem outcomes_any (w : World) : Calls Try.prog 76 #[] w fun e w' => e = .returned (.slice (some ⟨w.heap.size, 0, none⟩) 4 4) ∧ w' = w.alloc (.cells #[.int .i64 36, .int .i64 37, .int .i64 38, .int .i64 39] 3) := by
  go_enter Try.func76, Try.ntmps76
  go_wp2
  go_ret
  exact ⟨rfl, rfl⟩
theorem outcomes_b (w : World) : Calls Try.prog 76 #[] w fun e w' => (∃ b, e = .returned (.slice (some ⟨b, 0, none⟩) 4 4) ∧ Hid (b < w'.heap.size ∧ Ints w' b outs)) ∧ Hid (Below w.heap.size w w') :=
  (outcomes_any w).mono fun e w' h => by
    obtain ⟨rfl, rfl⟩ := h
    exact ⟨⟨_, rfl, by show _ < _; simp, heap_alloc_last w _⟩, bel1 (Below.refl _ _) (Nat.le_refl _) _⟩
set_option maxRecDepth 100000 in
set_option maxHeartbeats 1000000 in
theorem outcome_any (s : Sw) (w : World) :
    Calls Try.prog 57 #[.agg s.A] w fun e w' => e = .returned (.bool (fin s.k)) ∧ Below w.heap.size w w' := by
  obtain ⟨V, hV⟩ : ∃ V, w.alloc (.cells s.A 53) = V := ⟨_, rfl⟩
  have c0 : V.cell? ⟨w.heap.size, 0, none⟩ = some (.int .i64 s.k) := cellOf (hV ▸ heap_alloc_last w _ : V.heap[w.heap.size]? = some (.cells s.A 53 (0, 0))) 0 (.int .i64 s.k) rfl
  have hs : V.heap.size = w.heap.size + 1 := by rw [← hV]; simp
  have HB : Hid (Below w.heap.size w V) := hV ▸ bel1 (Below.refl _ _) (Nat.le_refl _) _
  have HC : Hid (V.drew.cell? ⟨w.heap.size, 0, none⟩ = some (.int .i64 s.k)) := c0
  have HV := hide hV
  have HS1 : Hid (∀ w1, Below V.drew.heap.size V.drew w1 → w1.cell? ⟨w.heap.size, 0, none⟩ = some (.int .i64 s.k) ∧ Below w.heap.size w w1) := fun w1 hb => by
    have hz : w.heap.size < V.drew.heap.size := by show _ < V.heap.size; omega
    exact ⟨(World.cell?_of_block (a := ⟨w.heap.size, 0, none⟩) (hb.block _ hz)).trans HC.out, (HB.out.trans ((bel_drew V).mono HB.out.size)).trans (hb.mono (Nat.le_of_lt hz))⟩
  clear hV
  go_enter Try.func57, Try.ntmps57
  go_wp2_with (first | rw [HV.out])
  refine wp_region_held_drew (S := fun W => W.cell? ⟨w.heap.size, 0, none⟩ = some (.int .i64 s.k)) (by kernel_rfl) HC.out (fun hHeld => ?_)
  refine take_do (i := 1) (d := 4) (v := ?_) rfl rfl (by kernel_rfl) (by kernel_rfl) (by kernel_rfl) (fun _ _ _ h => h) rfl ?_ (by assumption) ?_
  rotate_left
  · intro W hSw
    try dsimp only at hSw
    go_simp
    try with_reducible rfl
  try simp only [List.setIfInBounds_toArray, List.set_cons_zero, List.set_cons_succ]
  refine take_do (i := 2) (d := 5) (v := ?_) rfl rfl (by kernel_rfl) (by kernel_rfl) (by kernel_rfl) (fun _ _ _ h => h) rfl ?_ (by assumption) ?_
  rotate_left
  · intro W hSw
    try dsimp only at hSw
    go_simp
    try with_reducible rfl
  try simp only [List.setIfInBounds_toArray, List.set_cons_zero, List.set_cons_succ]
  refine wpAnyH_ready (rs := [0]) (by kernel_rfl) (by simp) ?_
  refine AllReadyH.cons rfl (fun K hK => ?_) AllReadyH.nil
  go_simp
  go_wp2_with (go_at_call 76; refine (outcomes_b _).mono ?_; rintro e3 w3 ⟨⟨b, rfl, hib⟩, hb3⟩)
  refine hK.out _ _ (HS1.out w3 hb3.out).1 (fun hHeld => ?_)
  clear hK K
  try simp only [Act.put, List.setIfInBounds_toArray, List.set_cons_zero, List.set_cons_succ]
  have HCo : Hid (Calls Try.prog 75 #[.slice (some ⟨b, 0, none⟩) 4 4, .int .i64 s.k] w3 fun e w' => e = .returned (.bool (fin s.k)) ∧ Below w3.heap.size w3 w') := (contains_any outs (by decide) (some ⟨b, 0, none⟩) s.k w3 (fun _ => ⟨b, rfl, hib.out.1, hib.out.2⟩))
  have HL3 : Hid (w.heap.size < w3.heap.size) := by show _ < _; have := hb3.out.size; change V.heap.size ≤ _ at this; omega
  refine wpAnyH_ready (rs := [3]) (by kernel_rfl) (by simp) ?_
  refine AllReadyH.cons rfl (fun K hK => ?_) AllReadyH.nil
  go_simp
  go_wp2_with (go_at_call 75; refine (HCo.out).mono ?_; rintro e4 w4 ⟨rfl, hb4⟩)
  refine hK.out _ _ ((World.cell?_of_block (a := ⟨w.heap.size, 0, none⟩) (hb4.block _ HL3.out)).trans (HS1.out w3 hb3.out).1) (fun hHeld => ?_)
  clear hK K
  try simp only [Act.put, List.setIfInBounds_toArray, List.set_cons_zero, List.set_cons_succ]
  refine take_do (i := 4) (d := 2) (v := ?_) rfl rfl (by kernel_rfl) (by kernel_rfl) (by kernel_rfl) (fun _ _ _ h => h) rfl ?_ (by assumption) ?_
  rotate_left
  · intro W hSw
    try dsimp only at hSw
    go_simp
    try with_reducible rfl
  try simp only [List.setIfInBounds_toArray, List.set_cons_zero, List.set_cons_succ]
  refine wpAnyH_done (by kernel_rfl) ?_ _
  have hb9 := (HS1.out w3 hb3.out).2
  have HB9 := hide (hb9.trans (hb4.mono hb9.size))
  clear hb9 hb4 hb3 hib HCo
  go_wp2
  go_ret
  exact ⟨rfl, HB9.out⟩
end Go.Proofs.Ytknkmamjdmadcaa.G


/- Stage 14: ofThere, ofHereAlone. -/
namespace Go.Proofs.Ytknkmamjdmadcaa.G
open Go.RowKit Go.Maps
set_option linter.unusedVariables false
set_option linter.unusedSimpArgs false

def ofT (rc has : Bool) (k : Int) : Int := if rc then 4 else if has && !fin k then 3 else 2
def ofH (rc : Bool) (k : Int) : Int := if rc then 1 else if fin k then 1 else 3
theorem look_run {e : Operand → Value} (W : World) (o : Oper) (m x : Operand) (hop : o.op = Op.lookup 82 m x true) (b : Nat) (hm : e m = .map (some b)) (k : ByteArray) (hx : e x = .string k) (l : List (ByteArray × Dv)) (hT : TbD W b l) (hk : k.size ≤ maxLen) :
    (execOp e o).run Try.prog W = .ok (.value (.tuple #[dvV (lu dv0 l k), .bool (hasK l k)])) W := by
  obtain ⟨D, h1, h2⟩ := hT
  obtain ⟨v, ps, hrun, hv⟩ := h1.look_ok Try.skeyed Try.underlying82 (zeroD W) (zd := .held (dvV dv0)) (zp := []) rfl (keyS hk)
  rw [h2.lu dv0 k] at hv
  obtain rfl := rH_inv hv
  rw [h2.has] at hrun
  unfold execOp
  simp only [hop, hm, hx, Sem.run_bind, hrun, Result.andThen_ok]
  rfl
set_option maxRecDepth 100000 in
set_option maxHeartbeats 1000000 in
theorem there_no (g : Nat) (l : Lk) (T : List (ByteArray × Dv)) (x : Un) (w : World) (h : Lnk w g l T) (hr : l.rc = false) (hz : x.1.size ≤ maxLen) (hh : hasK T x.1 = false) :
    Calls Try.prog 35 #[.pointer (some ⟨g, 0, none⟩), .agg x.enc.toArray] w fun e w' => e = .returned (.int .i64 (ofT false false x.2.k)) ∧ Below w.heap.size w w' := by
  obtain ⟨V, hV⟩ : ∃ V, w.alloc (.cells x.enc.toArray 70) = V := ⟨_, rfl⟩
  have hbV : Below w.heap.size w V := hV ▸ bel1 (Below.refl _ _) (Nat.le_refl _) _
  have b0 : V.heap[w.heap.size]? = some (.cells x.enc.toArray 70 (0, 0)) := hV ▸ heap_alloc_last w _
  have z0 : V.heap.size = w.heap.size + 1 := by rw [← hV]; simp
  have H0 : Hid (Lnk V g l T) := h.below hbV
  obtain ⟨s0, s1, s2, s3, s4, s5, s6, s7, s8, s9, s10, s11⟩ := H0.out.lb.facts
  rw [hr] at s1
  have hl := H0.out.lb.lt
  have HS0 : Hid (V.drew.cell? ⟨g, 11, none⟩ = some (.map (some l.dm)) ∧ V.drew.cell? ⟨w.heap.size, 0, none⟩ = some (.string x.1) ∧ TbD V.drew l.dm T) := ⟨s11, cellOf b0 0 (.string x.1) rfl, H0.out.tb.at rfl⟩
  have HK : Hid (∀ w1, Below V.drew.heap.size V.drew w1 → (w1.cell? ⟨g, 11, none⟩ = some (.map (some l.dm)) ∧ w1.cell? ⟨w.heap.size, 0, none⟩ = some (.string x.1) ∧ TbD w1 l.dm T) ∧ Below w.heap.size w w1 ∧ w1.heap[w.heap.size]? = some (.cells x.enc.toArray 70 (0, 0))) := fun w1 hb => by
    have hz : V.drew.heap.size = w.heap.size + 1 := z0
    have hc : ∀ b, b < V.heap.size → w1.heap[b]? = V.heap[b]? := fun b h => hb.block b h
    have hx := (hc w.heap.size (by omega)).trans b0
    exact ⟨⟨(World.cell?_of_block (a := ⟨g, 11, none⟩) (hc g hl)).trans s11, cellOf hx 0 (.string x.1) rfl, H0.out.tb.at (hc _ H0.out.tb.lt)⟩, (hbV.trans ((bel_drew V).mono hbV.size)).trans (hb.mono (by omega)), hx⟩
  obtain ⟨W1, hW1⟩ : ∃ W1, (V.alloc (.cells (dvA dv0) 89)).drew = W1 := ⟨_, rfl⟩
  have HbW : Hid (Below V.drew.heap.size V.drew W1) := hW1 ▸ ⟨rfl, rfl, rfl, by show V.heap.size ≤ (V.alloc _).heap.size; simp, fun k hk => Below.heap_alloc V _ k hk⟩
  have HX : Hid (W1.heap[w.heap.size + 1]? = some (.cells (dvA dv0) 89 (0, 0))) := by show _ = _; rw [← hW1, ← z0]; exact heap_alloc_last V _
  have HW1 := hide hW1
  obtain ⟨p, hp⟩ : ∃ p, lu dv0 T x.1 = p := ⟨_, rfl⟩
  have HP := hide hp
  obtain ⟨W2, hW2⟩ : ∃ W2, W1.setRow (w.heap.size + 1) (dvA p) = W2 := ⟨_, rfl⟩
  have HbX : Hid (Below V.drew.heap.size V.drew W2) := by
    have e : V.drew.heap.size ≤ w.heap.size + 1 := by show V.heap.size ≤ _; omega
    exact hW2 ▸ bel_setRow HbW.out e _
  have HW2 := hide hW2
  have HO := hide (outcome_any x.2 W2)
  have HR2 : Hid (W2.rangeAt w.heap.size 1 x.2.L) := range_at (HK.out W2 HbX.out).2.2 [.string x.1] x.2.L [] (by simp [Un.enc])
  clear hW1 hp hW2
  have HV := hide hV
  have HH := hide hh
  have HZ := hide hz
  have hg0 : g ≠ w.heap.size := fun e => by have := h.lb.lt; omega
  have HB := hide hbV
  clear hV hbV b0 h hr hz hh s11
  go_enter Try.func35, Try.ntmps35
  go_wp2_with (first | rw [HV.out])
  refine wp_region_held_drew (S := fun W => W.cell? ⟨g, 11, none⟩ = some (.map (some l.dm)) ∧ W.cell? ⟨w.heap.size, 0, none⟩ = some (.string x.1) ∧ TbD W l.dm T) (by kernel_rfl) HS0.out (fun hHeld => ?_)
  refine take_do (i := 0) (d := 13) (v := ?_) rfl rfl (by kernel_rfl) (by kernel_rfl) (by kernel_rfl) (fun _ _ _ h => h) rfl ?_ (by assumption) ?_
  rotate_left
  · intro W hSw
    try dsimp only at hSw
    go_simp
    try with_reducible rfl
  try simp only [List.setIfInBounds_toArray, List.set_cons_zero, List.set_cons_succ]
  refine take_do (i := 1) (d := 14) (v := ?_) rfl rfl (by kernel_rfl) (by kernel_rfl) (by kernel_rfl) (fun _ _ _ h => h) rfl ?_ (by assumption) ?_
  rotate_left
  · intro W hSw
    try dsimp only at hSw
    go_simp
    try with_reducible rfl
  try simp only [List.setIfInBounds_toArray, List.set_cons_zero, List.set_cons_succ]
  refine take_do (i := 2) (d := 15) (v := ?_) rfl rfl (by kernel_rfl) (by kernel_rfl) (by kernel_rfl) (fun _ _ _ h => h) rfl ?_ (by assumption) ?_
  rotate_left
  · intro W hSw
    try dsimp only at hSw
    go_simp
    try with_reducible rfl
  try simp only [List.setIfInBounds_toArray, List.set_cons_zero, List.set_cons_succ]
  refine take_do (i := 3) (d := 16) (v := ?_) rfl rfl (by kernel_rfl) (by kernel_rfl) (by kernel_rfl) (fun _ _ _ h => h) rfl ?_ (by assumption) ?_
  rotate_left
  · intro W hSw
    try dsimp only at hSw
    go_simp
    try with_reducible rfl
  try simp only [List.setIfInBounds_toArray, List.set_cons_zero, List.set_cons_succ]
  refine take_do (i := 4) (d := 17) (v := ?_) rfl rfl (by kernel_rfl) (by kernel_rfl) (by kernel_rfl) (fun _ _ _ h => h) rfl ?_ (by assumption) ?_
  rotate_left
  · intro W hSw
    try dsimp only at hSw
    go_simp
    try with_reducible rfl
  try simp only [List.setIfInBounds_toArray, List.set_cons_zero, List.set_cons_succ]
  refine take_do (i := 5) (d := 18) (v := ?_) rfl rfl (by kernel_rfl) (by kernel_rfl) (by kernel_rfl) (fun _ _ _ h => h) rfl ?_ (by assumption) ?_
  rotate_left
  · intro W hSw
    try dsimp only at hSw
    go_simp
    try with_reducible rfl
  try simp only [List.setIfInBounds_toArray, List.set_cons_zero, List.set_cons_succ]
  refine take_do (i := 6) (d := 19) (v := .tuple #[dvV (lu dv0 T x.1), .bool (hasK T x.1)]) rfl rfl (by kernel_rfl) (by kernel_rfl) (by kernel_rfl) (fun _ _ _ h => h) rfl ?_ (by assumption) ?_
  · intro W hSw
    exact look_run W _ (.tmp 16) (.tmp 18) rfl l.dm rfl x.1 rfl T hSw.2.2 HZ.out
  try simp only [List.setIfInBounds_toArray, List.set_cons_zero, List.set_cons_succ]
  rw [HH.out]
  refine take_do (i := 7) (d := 12) (v := ?_) rfl rfl (by kernel_rfl) (by kernel_rfl) (by kernel_rfl) (fun _ _ _ h => h) rfl ?_ (by assumption) ?_
  rotate_left
  · intro W hSw
    try dsimp only at hSw
    go_simp
    try with_reducible rfl
  try simp only [List.setIfInBounds_toArray, List.set_cons_zero, List.set_cons_succ]
  refine take_do (i := 8) (d := 20) (v := ?_) rfl rfl (by kernel_rfl) (by kernel_rfl) (by kernel_rfl) (fun _ _ _ h => h) rfl ?_ (by assumption) ?_
  rotate_left
  · intro W hSw
    try dsimp only at hSw
    go_simp
    try with_reducible rfl
  try simp only [List.setIfInBounds_toArray, List.set_cons_zero, List.set_cons_succ]
  refine take_do (i := 9) (d := 21) (v := ?_) rfl rfl (by kernel_rfl) (by kernel_rfl) (by kernel_rfl) (fun _ _ _ h => h) rfl ?_ (by assumption) ?_
  rotate_left
  · intro W hSw
    try dsimp only at hSw
    go_simp
    try with_reducible rfl
  try simp only [List.setIfInBounds_toArray, List.set_cons_zero, List.set_cons_succ]
  refine wpAnyH_ready (rs := [10]) (by kernel_rfl) (by simp) ?_
  refine AllReadyH.cons rfl (fun K hK => ?_) AllReadyH.nil
  go_simp
  change K _ ((V.alloc (.cells (dvA dv0) 89)).drew)
  rw [HW1.out]
  refine hK.out _ _ (HK.out W1 HbW.out).1 (fun hHeld => ?_)
  clear hK K
  try simp only [Act.put, List.setIfInBounds_toArray, List.set_cons_zero, List.set_cons_succ]
  refine wpAnyH_ready (rs := [11]) (by kernel_rfl) (by simp) ?_
  refine AllReadyH.cons rfl (fun K hK => ?_) AllReadyH.nil
  rw [if_pos (by kernel_rfl)]
  refine wp_store_row 89 (.tmp 5) (.tmp 20) rfl (w.heap.size + 1) (dvA p) rfl (by rw [HP.out]; rfl) 89 _ HX.out (Dv.sz _) rfl (Dv.one _) ?_
  rw [HW2.out]
  refine hK.out _ _ (HK.out W2 HbX.out).1 (fun hHeld => ?_)
  clear hK K
  refine take_do (i := 12) (d := 6) (v := ?_) rfl rfl (by kernel_rfl) (by kernel_rfl) (by kernel_rfl) (fun _ _ _ h => h) rfl ?_ (by assumption) ?_
  rotate_left
  · intro W hSw
    try dsimp only at hSw
    go_simp
    try with_reducible rfl
  try simp only [List.setIfInBounds_toArray, List.set_cons_zero, List.set_cons_succ]
  refine wpAnyH_done (by kernel_rfl) ?_ _
  go_wp2
  go_ret
  exact ⟨rfl, (HK.out W2 HbX.out).2.1⟩
set_option maxRecDepth 100000 in
set_option maxHeartbeats 1000000 in
theorem there_yes (g : Nat) (l : Lk) (T : List (ByteArray × Dv)) (x : Un) (w : World) (h : Lnk w g l T) (hr : l.rc = false) (hz : x.1.size ≤ maxLen) (hh : hasK T x.1 = true) :
    Calls Try.prog 35 #[.pointer (some ⟨g, 0, none⟩), .agg x.enc.toArray] w fun e w' => e = .returned (.int .i64 (ofT false true x.2.k)) ∧ Below w.heap.size w w' := by
  obtain ⟨V, hV⟩ : ∃ V, w.alloc (.cells x.enc.toArray 70) = V := ⟨_, rfl⟩
  have hbV : Below w.heap.size w V := hV ▸ bel1 (Below.refl _ _) (Nat.le_refl _) _
  have b0 : V.heap[w.heap.size]? = some (.cells x.enc.toArray 70 (0, 0)) := hV ▸ heap_alloc_last w _
  have z0 : V.heap.size = w.heap.size + 1 := by rw [← hV]; simp
  have H0 : Hid (Lnk V g l T) := h.below hbV
  obtain ⟨s0, s1, s2, s3, s4, s5, s6, s7, s8, s9, s10, s11⟩ := H0.out.lb.facts
  rw [hr] at s1
  have hl := H0.out.lb.lt
  have HS0 : Hid (V.drew.cell? ⟨g, 11, none⟩ = some (.map (some l.dm)) ∧ V.drew.cell? ⟨w.heap.size, 0, none⟩ = some (.string x.1) ∧ TbD V.drew l.dm T) := ⟨s11, cellOf b0 0 (.string x.1) rfl, H0.out.tb.at rfl⟩
  have HK : Hid (∀ w1, Below V.drew.heap.size V.drew w1 → (w1.cell? ⟨g, 11, none⟩ = some (.map (some l.dm)) ∧ w1.cell? ⟨w.heap.size, 0, none⟩ = some (.string x.1) ∧ TbD w1 l.dm T) ∧ Below w.heap.size w w1 ∧ w1.heap[w.heap.size]? = some (.cells x.enc.toArray 70 (0, 0))) := fun w1 hb => by
    have hz : V.drew.heap.size = w.heap.size + 1 := z0
    have hc : ∀ b, b < V.heap.size → w1.heap[b]? = V.heap[b]? := fun b h => hb.block b h
    have hx := (hc w.heap.size (by omega)).trans b0
    exact ⟨⟨(World.cell?_of_block (a := ⟨g, 11, none⟩) (hc g hl)).trans s11, cellOf hx 0 (.string x.1) rfl, H0.out.tb.at (hc _ H0.out.tb.lt)⟩, (hbV.trans ((bel_drew V).mono hbV.size)).trans (hb.mono (by omega)), hx⟩
  obtain ⟨W1, hW1⟩ : ∃ W1, (V.alloc (.cells (dvA dv0) 89)).drew = W1 := ⟨_, rfl⟩
  have HbW : Hid (Below V.drew.heap.size V.drew W1) := hW1 ▸ ⟨rfl, rfl, rfl, by show V.heap.size ≤ (V.alloc _).heap.size; simp, fun k hk => Below.heap_alloc V _ k hk⟩
  have HX : Hid (W1.heap[w.heap.size + 1]? = some (.cells (dvA dv0) 89 (0, 0))) := by show _ = _; rw [← hW1, ← z0]; exact heap_alloc_last V _
  have HW1 := hide hW1
  obtain ⟨p, hp⟩ : ∃ p, lu dv0 T x.1 = p := ⟨_, rfl⟩
  have HP := hide hp
  obtain ⟨W2, hW2⟩ : ∃ W2, W1.setRow (w.heap.size + 1) (dvA p) = W2 := ⟨_, rfl⟩
  have HbX : Hid (Below V.drew.heap.size V.drew W2) := by
    have e : V.drew.heap.size ≤ w.heap.size + 1 := by show V.heap.size ≤ _; omega
    exact hW2 ▸ bel_setRow HbW.out e _
  have HW2 := hide hW2
  have HO := hide (outcome_any x.2 W2)
  have HR2 : Hid (W2.rangeAt w.heap.size 1 x.2.L) := range_at (HK.out W2 HbX.out).2.2 [.string x.1] x.2.L [] (by simp [Un.enc])
  clear hW1 hp hW2
  have HV := hide hV
  have HH := hide hh
  have HZ := hide hz
  have hg0 : g ≠ w.heap.size := fun e => by have := h.lb.lt; omega
  have HB := hide hbV
  clear hV hbV b0 h hr hz hh s11
  go_enter Try.func35, Try.ntmps35
  go_wp2_with (first | rw [HV.out])
  refine wp_region_held_drew (S := fun W => W.cell? ⟨g, 11, none⟩ = some (.map (some l.dm)) ∧ W.cell? ⟨w.heap.size, 0, none⟩ = some (.string x.1) ∧ TbD W l.dm T) (by kernel_rfl) HS0.out (fun hHeld => ?_)
  refine take_do (i := 0) (d := 13) (v := ?_) rfl rfl (by kernel_rfl) (by kernel_rfl) (by kernel_rfl) (fun _ _ _ h => h) rfl ?_ (by assumption) ?_
  rotate_left
  · intro W hSw
    try dsimp only at hSw
    go_simp
    try with_reducible rfl
  try simp only [List.setIfInBounds_toArray, List.set_cons_zero, List.set_cons_succ]
  refine take_do (i := 1) (d := 14) (v := ?_) rfl rfl (by kernel_rfl) (by kernel_rfl) (by kernel_rfl) (fun _ _ _ h => h) rfl ?_ (by assumption) ?_
  rotate_left
  · intro W hSw
    try dsimp only at hSw
    go_simp
    try with_reducible rfl
  try simp only [List.setIfInBounds_toArray, List.set_cons_zero, List.set_cons_succ]
  refine take_do (i := 2) (d := 15) (v := ?_) rfl rfl (by kernel_rfl) (by kernel_rfl) (by kernel_rfl) (fun _ _ _ h => h) rfl ?_ (by assumption) ?_
  rotate_left
  · intro W hSw
    try dsimp only at hSw
    go_simp
    try with_reducible rfl
  try simp only [List.setIfInBounds_toArray, List.set_cons_zero, List.set_cons_succ]
  refine take_do (i := 3) (d := 16) (v := ?_) rfl rfl (by kernel_rfl) (by kernel_rfl) (by kernel_rfl) (fun _ _ _ h => h) rfl ?_ (by assumption) ?_
  rotate_left
  · intro W hSw
    try dsimp only at hSw
    go_simp
    try with_reducible rfl
  try simp only [List.setIfInBounds_toArray, List.set_cons_zero, List.set_cons_succ]
  refine take_do (i := 4) (d := 17) (v := ?_) rfl rfl (by kernel_rfl) (by kernel_rfl) (by kernel_rfl) (fun _ _ _ h => h) rfl ?_ (by assumption) ?_
  rotate_left
  · intro W hSw
    try dsimp only at hSw
    go_simp
    try with_reducible rfl
  try simp only [List.setIfInBounds_toArray, List.set_cons_zero, List.set_cons_succ]
  refine take_do (i := 5) (d := 18) (v := ?_) rfl rfl (by kernel_rfl) (by kernel_rfl) (by kernel_rfl) (fun _ _ _ h => h) rfl ?_ (by assumption) ?_
  rotate_left
  · intro W hSw
    try dsimp only at hSw
    go_simp
    try with_reducible rfl
  try simp only [List.setIfInBounds_toArray, List.set_cons_zero, List.set_cons_succ]
  refine take_do (i := 6) (d := 19) (v := .tuple #[dvV (lu dv0 T x.1), .bool (hasK T x.1)]) rfl rfl (by kernel_rfl) (by kernel_rfl) (by kernel_rfl) (fun _ _ _ h => h) rfl ?_ (by assumption) ?_
  · intro W hSw
    exact look_run W _ (.tmp 16) (.tmp 18) rfl l.dm rfl x.1 rfl T hSw.2.2 HZ.out
  try simp only [List.setIfInBounds_toArray, List.set_cons_zero, List.set_cons_succ]
  rw [HH.out]
  refine take_do (i := 7) (d := 12) (v := ?_) rfl rfl (by kernel_rfl) (by kernel_rfl) (by kernel_rfl) (fun _ _ _ h => h) rfl ?_ (by assumption) ?_
  rotate_left
  · intro W hSw
    try dsimp only at hSw
    go_simp
    try with_reducible rfl
  try simp only [List.setIfInBounds_toArray, List.set_cons_zero, List.set_cons_succ]
  refine take_do (i := 8) (d := 20) (v := ?_) rfl rfl (by kernel_rfl) (by kernel_rfl) (by kernel_rfl) (fun _ _ _ h => h) rfl ?_ (by assumption) ?_
  rotate_left
  · intro W hSw
    try dsimp only at hSw
    go_simp
    try with_reducible rfl
  try simp only [List.setIfInBounds_toArray, List.set_cons_zero, List.set_cons_succ]
  refine take_do (i := 9) (d := 21) (v := ?_) rfl rfl (by kernel_rfl) (by kernel_rfl) (by kernel_rfl) (fun _ _ _ h => h) rfl ?_ (by assumption) ?_
  rotate_left
  · intro W hSw
    try dsimp only at hSw
    go_simp
    try with_reducible rfl
  try simp only [List.setIfInBounds_toArray, List.set_cons_zero, List.set_cons_succ]
  refine wpAnyH_ready (rs := [10]) (by kernel_rfl) (by simp) ?_
  refine AllReadyH.cons rfl (fun K hK => ?_) AllReadyH.nil
  go_simp
  change K _ ((V.alloc (.cells (dvA dv0) 89)).drew)
  rw [HW1.out]
  refine hK.out _ _ (HK.out W1 HbW.out).1 (fun hHeld => ?_)
  clear hK K
  try simp only [Act.put, List.setIfInBounds_toArray, List.set_cons_zero, List.set_cons_succ]
  refine wpAnyH_ready (rs := [11]) (by kernel_rfl) (by simp) ?_
  refine AllReadyH.cons rfl (fun K hK => ?_) AllReadyH.nil
  rw [if_pos (by kernel_rfl)]
  refine wp_store_row 89 (.tmp 5) (.tmp 20) rfl (w.heap.size + 1) (dvA p) rfl (by rw [HP.out]; rfl) 89 _ HX.out (Dv.sz _) rfl (Dv.one _) ?_
  rw [HW2.out]
  refine hK.out _ _ (HK.out W2 HbX.out).1 (fun hHeld => ?_)
  clear hK K
  refine take_do (i := 12) (d := 6) (v := ?_) rfl rfl (by kernel_rfl) (by kernel_rfl) (by kernel_rfl) (fun _ _ _ h => h) rfl ?_ (by assumption) ?_
  rotate_left
  · intro W hSw
    try dsimp only at hSw
    go_simp
    try with_reducible rfl
  try simp only [List.setIfInBounds_toArray, List.set_cons_zero, List.set_cons_succ]
  refine wpAnyH_done (by kernel_rfl) ?_ _
  have hcell := (HK.out W2 HbX.out).1.2.1
  go_wp2_with (with_reducible refine stop_load 53 (.tmp 25) rfl ?_)
  unfold Shut
  refine wpList_wanted (by kernel_rfl) fun K hK => wp_load_mid 53 (.tmp 25) rfl w.heap.size 1 rfl x.2.L _ HR2.out Try.underlying53 rfl Try.infoSt (hK _ _ ?_)
  clear hK K
  go_wp2_with (first | (go_at_call 57; refine HO.out.mono ?_; rintro e1 w1 ⟨rfl, hb1⟩; refine Shut.out ?_))
  unfold Shut
  have HB9 := hide ((HK.out W2 HbX.out).2.1.trans (hb1.mono (HK.out W2 HbX.out).2.1.size))
  clear hb1 HO hcell
  cases hf : fin x.2.k with
  | true =>
    go_wp2
    go_ret
    exact ⟨by simp [ofT, hf], HB9.out⟩
  | false =>
    go_wp2
    go_ret
    exact ⟨by simp [ofT, hf], HB9.out⟩
set_option maxRecDepth 100000 in
theorem there_rc (g : Nat) (l : Lk) (T : List (ByteArray × Dv)) (x : Un) (w : World) (h : Lnk w g l T) (hr : l.rc = true) :
    Calls Try.prog 35 #[.pointer (some ⟨g, 0, none⟩), .agg x.enc.toArray] w fun e w' => e = .returned (.int .i64 4) ∧ Below w.heap.size w w' := by
  obtain ⟨V, hV⟩ : ∃ V, w.alloc (.cells x.enc.toArray 70) = V := ⟨_, rfl⟩
  have hbV : Below w.heap.size w V := hV ▸ bel1 (Below.refl _ _) (Nat.le_refl _) _
  have H0 : Hid (Lnk V g l T) := h.below hbV
  obtain ⟨s0, s1, s2, s3, s4, s5, s6, s7, s8, s9, s10, s11⟩ := H0.out.lb.facts
  rw [hr] at s1
  have hl := H0.out.lb.lt
  have HV := hide hV
  have HB := hide hbV
  clear hV hbV h hr
  go_enter Try.func35, Try.ntmps35
  go_wp2_with (first | rw [HV.out])
  go_ret
  exact ⟨rfl, HB.out⟩
theorem there_any (g : Nat) (l : Lk) (T : List (ByteArray × Dv)) (x : Un) (w : World) (h : Lnk w g l T) (hz : x.1.size ≤ maxLen) :
    Calls Try.prog 35 #[.pointer (some ⟨g, 0, none⟩), .agg x.enc.toArray] w fun e w' => e = .returned (.int .i64 (ofT l.rc (hasK T x.1) x.2.k)) ∧ Below w.heap.size w w' := by
  cases hr : l.rc with
  | true => exact there_rc g l T x w h hr
  | false =>
    cases hh : hasK T x.1 with
    | true => exact there_yes g l T x w h hr hz hh
    | false => exact there_no g l T x w h hr hz hh
theorem dv_peer {w : World} {N : Nat} {p : Dv} {t : TypeId} {fr : Nat × Nat} (h : w.heap[N]? = some (.cells (dvA p) t fr)) : w.rangeAt N 19 p.2.L := range_at h p.1.L p.2.L [] (by rw [List.append_nil])
set_option maxRecDepth 100000 in
set_option maxHeartbeats 1000000 in
theorem here_no (g : Nat) (l : Lk) (T : List (ByteArray × Dv)) (p : Dv) (w : World) (h : Lnk w g l T) (hr : l.rc = false) :
    Calls Try.prog 36 #[.pointer (some ⟨g, 0, none⟩), .agg (dvA p)] w fun e w' => e = .returned (.int .i64 (ofH false p.2.k)) ∧ Below w.heap.size w w' := by
  obtain ⟨V, hV⟩ : ∃ V, w.alloc (.cells (dvA p) 89) = V := ⟨_, rfl⟩
  have hbV : Below w.heap.size w V := hV ▸ bel1 (Below.refl _ _) (Nat.le_refl _) _
  have b0 : V.heap[w.heap.size]? = some (.cells (dvA p) 89 (0, 0)) := hV ▸ heap_alloc_last w _
  have H0 : Hid (Lnk V g l T) := h.below hbV
  obtain ⟨s0, s1, s2, s3, s4, s5, s6, s7, s8, s9, s10, s11⟩ := H0.out.lb.facts
  rw [hr] at s1
  have hl := H0.out.lb.lt
  have HR := hide (dv_peer b0)
  have hlv : w.heap.size < V.heap.size := (Array.getElem?_eq_some_iff.1 b0).1
  have HV := hide hV
  have HB := hide hbV
  have HO := hide (outcome_any p.2 V)
  clear hV hbV h hr b0
  go_enter Try.func36, Try.ntmps36
  go_wp2_with (first | rw [HV.out] | with_reducible refine stop_load 53 (.tmp 11) rfl ?_)
  unfold Shut
  refine wpList_wanted (by kernel_rfl) fun K hK => wp_load_mid 53 (.tmp 11) rfl w.heap.size 19 rfl p.2.L _ HR.out Try.underlying53 rfl Try.infoSt (hK _ _ ?_)
  clear hK K
  go_wp2_with (first | (go_at_call 57; refine HO.out.mono ?_; rintro e1 w1 ⟨rfl, hb1⟩; refine Shut.out ?_))
  unfold Shut
  have HB9 := hide (HB.out.trans (hb1.mono HB.out.size))
  clear hb1 HO
  cases hf : fin p.2.k with
  | true =>
    go_wp2
    go_ret
    exact ⟨by simp [ofH, hf], HB9.out⟩
  | false =>
    go_wp2
    go_ret
    exact ⟨by simp [ofH, hf], HB9.out⟩
set_option maxRecDepth 100000 in
theorem here_rc (g : Nat) (l : Lk) (T : List (ByteArray × Dv)) (p : Dv) (w : World) (h : Lnk w g l T) (hr : l.rc = true) :
    Calls Try.prog 36 #[.pointer (some ⟨g, 0, none⟩), .agg (dvA p)] w fun e w' => e = .returned (.int .i64 1) ∧ Below w.heap.size w w' := by
  obtain ⟨V, hV⟩ : ∃ V, w.alloc (.cells (dvA p) 89) = V := ⟨_, rfl⟩
  have hbV : Below w.heap.size w V := hV ▸ bel1 (Below.refl _ _) (Nat.le_refl _) _
  have H0 : Hid (Lnk V g l T) := h.below hbV
  obtain ⟨s0, s1, s2, s3, s4, s5, s6, s7, s8, s9, s10, s11⟩ := H0.out.lb.facts
  rw [hr] at s1
  have hl := H0.out.lb.lt
  have HV := hide hV
  have HB := hide hbV
  clear hV hbV h hr
  go_enter Try.func36, Try.ntmps36
  go_wp2_with (first | rw [HV.out])
  go_ret
  exact ⟨rfl, HB.out⟩
theorem here_any (g : Nat) (l : Lk) (T : List (ByteArray × Dv)) (p : Dv) (w : World) (h : Lnk w g l T) :
    Calls Try.prog 36 #[.pointer (some ⟨g, 0, none⟩), .agg (dvA p)] w fun e w' => e = .returned (.int .i64 (ofH l.rc p.2.k)) ∧ Below w.heap.size w w' := by
  cases hr : l.rc with
  | true => exact here_rc g l T p w h hr
  | false => exact here_no g l T p w h hr
end Go.Proofs.Ytknkmamjdmadcaa.G
