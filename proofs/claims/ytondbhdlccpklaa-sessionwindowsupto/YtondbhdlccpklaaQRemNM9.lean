import Derived.Test.YtondbhdlccpklaaQAllM9
import Derived.WideKeyEntry
import Derived.Test.YtondbhdlccpklaaQFldM9

/- Stage 13: an entry of a table, found or laid, then written. -/
namespace Go.Proofs.Ytondbhdlccpklaa
open Go.RowKit Go.Maps
open Go.ChangeMaps Go.MapKept Go.WideShapes
open Go.WideElems (Fit rd rg pl rd_val elemAt)
set_option linter.unusedVariables false
set_option linter.unusedSimpArgs false

/-- what an entry's writing leaves -/
def Entered (w : World) (b : Nat) (k : Int) (l : List (Int × Int)) (st : Nat) (W1 : World) : Prop :=
  Kp (fun q => q = b) w W1 ∧ W1.heap.size = w.heap.size ∧ ∀ c : Int, ∃ W', (Instr.entryStore 88 (.map (some b)) (goInt st) (.int .i64 c)).run Try.prog W1 = .ok () W' ∧ TbI W' b ((k, c) :: l.filter fun p => p.1 != k) ∧ Kp (fun q => q = b) W1 W' ∧ W'.heap.size = W1.heap.size
theorem setBlock_two (w : World) (b : Nat) (o p : Obj) : setBlock (setBlock w b o) b p = setBlock w b p := by simp [setBlock]
theorem kp_setBlock {w : World} {b : Nat} {es es' : Array MapEntry} {c c' : Nat} (hb : w.heap[b]? = some (.map es c)) : Kp (fun q => q = b) w (setBlock w b (.map es' c')) :=
  grown_kp ⟨es, c, es', c', hb, rfl⟩
theorem size_setBlock (w : World) (b : Nat) (o : Obj) : (setBlock w b o).heap.size = w.heap.size := by simp [setBlock]
theorem heap_setBlock {w : World} {b : Nat} {x : Obj} (hb : w.heap[b]? = some x) (o : Obj) : (setBlock w b o).heap[b]? = some o := by
  have := (Array.getElem?_eq_some_iff.1 hb).1
  simp [setBlock, Array.getElem?_setIfInBounds, this]
theorem entry_I {w : World} {b : Nat} {l : List (Int × Int)} {k : Int} (hT : TbI w b l) (hk : wf64 k) (hn : l.length < maxLen) :
    ∃ (v0 : Value) (st : Nat) (W1 : World), (Instr.mapEntry 88 (.map (some b)) (.int .i64 k)).run Try.prog w = .ok (.tuple #[v0, goInt st]) W1 ∧ Entered w b k l st W1 := by
  obtain ⟨D, ⟨es, clock, hb, F, hsz, hD⟩, hR⟩ := hT
  have hkey := key64 hk
  have hown : w.ownsMap Try.prog 3 rI b l.length D := ⟨es, clock, hb, F, hsz, hD⟩
  have hput : ∀ c : Int, ∃ es' clock', (Instr.mapUpdate 88 (.map (some b)) (.int .i64 k) (.int .i64 c)).run Try.prog w = .ok () (setBlock w b (.map es' clock')) ∧ TbI (setBlock w b (.map es' clock')) b ((k, c) :: l.filter fun p => p.1 != k) := fun c => by
    obtain ⟨w', hrun, r1, es0, c0, es', clock', _, rfl⟩ := hown.store Try.keyed Try.underlying88 hn hkey (rI_mk c)
    exact ⟨es', clock', hrun, TbI.mk r1 (hR.put k c)⟩
  obtain ⟨s1, s2, _⟩ := F.stamped
  rcases Try.keyed.find w hkey es.toList F.keys with ⟨h1, h2⟩ | ⟨j, e0, h1, h2, h3⟩
  · have hu : ∀ c : Int, (Instr.mapUpdate 88 (.map (some b)) (.int .i64 k) (.int .i64 c)).run Try.prog w = .ok () (setBlock w b (.map (es.push ⟨.int .i64 k, .int .i64 c, clock⟩) (clock + 1))) := fun c => by
      simp [Instr.mapUpdate, run_underlying Try.underlying88, MapKept.run_getObj_map hb, Try.keyed.check w false hkey, h1, MapKept.run_setObj_map _ hb, Result.andThen, setBlock]
    refine ⟨intV 0, clock, setBlock w b (.map (es.push ⟨.int .i64 k, intV 0, clock⟩) (clock + 1)), ?_, kp_setBlock hb, size_setBlock .., fun c => ⟨setBlock w b (.map (es.push ⟨.int .i64 k, .int .i64 c, clock⟩) (clock + 1)), ?_, ?_, ?_, ?_⟩⟩
    · simp [Instr.mapEntry, run_underlying Try.underlying88, MapKept.run_getObj_map hb, Try.keyed.check w false hkey, h1, zeroI, MapKept.run_setObj_map _ hb, Result.andThen, setBlock]
      exact ⟨rfl, rfl⟩
    · have hw2 := heap_setBlock hb (.map (es.push ⟨.int .i64 k, intV 0, clock⟩) (clock + 1))
      have hlast : (es.push ⟨.int .i64 k, intV 0, clock⟩).toList[es.size]? = some ⟨.int .i64 k, intV 0, clock⟩ := by simp
      have hnb : ((es.push ⟨.int .i64 k, intV 0, clock⟩).toList.map (·.born)).Nodup := by
        rw [Array.toList_push, List.map_append, List.nodup_append]
        refine ⟨s2, by simp, fun x hx y hy e => ?_⟩
        obtain ⟨z, hz, rfl⟩ := List.mem_map.1 hx
        have := s1 z hz
        simp at hy
        omega
      have hidx := WideElems.findIdx_born hnb hlast
      rw [← WideElems.findIdx_arr] at hidx
      have hmod : (es.push ⟨.int .i64 k, intV 0, clock⟩).modify es.size (fun e => { e with val := .int .i64 c }) = es.push ⟨.int .i64 k, .int .i64 c, clock⟩ := by
        apply Array.ext'
        rw [Array.toList_modify, Array.toList_push, Array.toList_push, ← Array.length_toList, WideElems.modify_last]
      have hst : ∀ w2 : World, w2.heap[b]? = some (.map (es.push ⟨.int .i64 k, intV 0, clock⟩) (clock + 1)) → (Instr.entryStore 88 (.map (some b)) (goInt clock) (.int .i64 c)).run Try.prog w2 = .ok () (setBlock w2 b (.map (es.push ⟨.int .i64 k, .int .i64 c, clock⟩) (clock + 1))) := fun w2 hw2 => by
        simp [Instr.entryStore, MapKept.run_getObj_map hw2, asInt, asIntOf, goInt, hidx, hmod, MapKept.run_setObj_map _ hw2, Result.andThen, setBlock]
      rw [hst _ hw2, setBlock_two]
    · obtain ⟨es', clock', hrun, ht⟩ := hput c
      rw [hu c] at hrun
      injection hrun with _ h
      rw [h]
      exact ht
    · have := kp_setBlock (es' := es.push ⟨.int .i64 k, .int .i64 c, clock⟩) (c' := clock + 1) (heap_setBlock hb (.map (es.push ⟨.int .i64 k, intV 0, clock⟩) (clock + 1)))
      rwa [setBlock_two] at this
    · rw [size_setBlock, size_setBlock]
  · have hj : es[j]? = some e0 := by simpa using h2
    have hsame : es.modify j (fun e => { e with key := .int .i64 k }) = es := by
      apply Array.ext'
      rw [Array.toList_modify, modify_eq_set _ _ _ _ h2, show ({ e0 with key := .int .i64 k } : MapEntry) = e0 by rw [← h3]]
      exact WideElems.set_self _ _ _ h2
    have hu : ∀ c : Int, (Instr.mapUpdate 88 (.map (some b)) (.int .i64 k) (.int .i64 c)).run Try.prog w = .ok () (setBlock w b (.map (es.modify j (fun e' => { e' with key := .int .i64 k, val := .int .i64 c })) clock)) := fun c => by
      simp [Instr.mapUpdate, run_underlying Try.underlying88, MapKept.run_getObj_map hb, Try.keyed.check w false hkey, h1, hj, h3, Try.keyed.stays w hkey, MapKept.run_setObj_map _ hb, Result.andThen, setBlock]
    have hself : setBlock w b (.map es clock) = w := by
      have e : w.heap.setIfInBounds b (.map es clock) = w.heap := by
        apply Array.ext_getElem?
        intro i
        rw [Array.getElem?_setIfInBounds]
        split
        · rename_i hi
          subst hi
          split
          · exact hb.symm
          · rename_i hlt
            exact absurd (Array.getElem?_eq_some_iff.1 hb).1 hlt
        · rfl
      unfold setBlock
      rw [e]
    refine ⟨e0.val, e0.born, w, ?_, Kp.refl _ _, rfl, fun c => ⟨setBlock w b (.map (es.modify j (fun e' => { e' with key := .int .i64 k, val := .int .i64 c })) clock), ?_, ?_, kp_setBlock hb, size_setBlock ..⟩⟩
    · have hs := MapKept.run_setObj_map (P := Try.prog) (.map es clock) hb
      have hs' := hself
      simp [Instr.mapEntry, run_underlying Try.underlying88, MapKept.run_getObj_map hb, Try.keyed.check w false hkey, h1, hj, h3, Try.keyed.stays w hkey, hsame, hs, Result.andThen]
      simpa [setBlock] using hs'
    · have hidx := WideElems.findIdx_born s2 h2
      rw [← WideElems.findIdx_arr] at hidx
      have hmod : es.modify j (fun e => { e with val := .int .i64 c }) = es.modify j (fun e' => { e' with key := .int .i64 k, val := .int .i64 c }) := by
        apply Array.ext'
        rw [Array.toList_modify, Array.toList_modify, modify_eq_set _ _ _ _ h2, modify_eq_set _ _ _ _ h2, ← h3]
      simp [Instr.entryStore, MapKept.run_getObj_map hb, asInt, asIntOf, goInt, hidx, hmod, MapKept.run_setObj_map _ hb, Result.andThen, setBlock]
    · obtain ⟨es', clock', hrun, ht⟩ := hput c
      rw [hu c] at hrun
      injection hrun with _ h
      rw [h]
      exact ht
end Go.Proofs.Ytondbhdlccpklaa


/- Stage 13: Remote, where it is taken. -/
namespace Go.Proofs.Ytondbhdlccpklaa
open Go.RowKit Go.Maps
set_option linter.unusedVariables false
set_option linter.unusedSimpArgs false

theorem wp_entry {o : Oper} {a : Act} {w : World} {K : Act → World → Prop} {Q : Exit → Act → World → Prop} (t : TypeId) (m x : Operand) (ho : o.op = .mapEntry t m x) (mv xv : Value) (hm : a.eval m = mv) (hx : a.eval x = xv) {v : Value} {W1 : World}
    (hrun : (Instr.mapEntry t mv xv).run Try.prog w = .ok v W1) (h : K (a.put o.dst v) W1) : o.wp Try.prog a w K Q := by
  unfold Oper.wp execOp
  simp only [ho, hm, hx, Sem.run_bind, hrun, Result.andThen_ok, Sem.run_pure]
  exact h
theorem wp_entryStore {o : Oper} {a : Act} {w : World} {K : Act → World → Prop} {Q : Exit → Act → World → Prop} (t : TypeId) (m s x : Operand) (ho : o.op = .entryStore t m s x) (mv sv xv : Value) (hm : a.eval m = mv) (hs : a.eval s = sv) (hx : a.eval x = xv) {W1 : World}
    (hrun : (Instr.entryStore t mv sv xv).run Try.prog w = .ok () W1) (h : K (a.put o.dst undef) W1) : o.wp Try.prog a w K Q := by
  unfold Oper.wp execOp
  simp only [ho, hm, hs, hx, Sem.run_bind, hrun, Result.andThen_ok, Sem.run_pure]
  exact h
set_option maxRecDepth 100000 in
set_option maxHeartbeats 2000000 in
theorem remote_yes (g : Nat) (s : Sn) (H R : List (Int × Int)) (r h : Int) (w : World) (hS : SB w g s) (hTH : TbI w s.bh H) (hTR : TbI w s.br R) (hne : s.bh ≠ s.br) (h0 : 0 ≤ r) (h1 : r ≤ s.hm) (hm : s.hm ≤ 4294967295) (h2 : hasK R r = false) (h3 : hasK H h = true) (h4 : lu 0 H h = -1) (hh : wf64 h) (hl1 : H.length < maxLen) (hl2 : R.length < maxLen) :
    Calls Try.prog 34 #[.pointer (some ⟨g, 0, none⟩), .int .i64 r, .int .i64 h] w fun e w' => e = .returned (.int .i64 0) ∧ TbI w' s.bh ((h, r) :: H.filter fun p => p.1 != h) ∧ TbI w' s.br ((r, h) :: R) ∧ Kp (fun q => q = s.bh ∨ q = s.br) w w' := by
  obtain ⟨s0, s1, s2, s3, s4, s5, s6, s7, s8, s9, s10, s11, s12, s13, s14, s15, s16⟩ := hS.facts
  have hl := hS.lt
  have hr : wf64 r := wf_of (by omega) (by omega)
  have HC := hide (hasI_any s.br R r w hTR hr)
  rw [h2] at HC
  have HT := hide hTH
  have HW := hide hh
  have hr0 : ¬ r < 0 := by omega
  have hr1 : ¬ r > s.hm := by omega
  have hgh : g ≠ s.bh := fun e => hTH.ne hS e.symm
  have hgr : g ≠ s.br := fun e => hTR.ne hS e.symm
  obtain ⟨v0, st0, W1, e1, ent1⟩ := entry_I (w := w.drew) hTH.drew hh hl1
  obtain ⟨k1, z1, c1⟩ := ent1
  obtain ⟨W2, e2, t2, k2, z2⟩ := c1 r
  have HK2 : Hid (Kp (fun q => q = s.bh) w W2) := ((Kp.ofBelow (bel_drew w)).trans k1).trans k2
  have tr2 : TbI W2 s.br R := hTR.at (HK2.out.block hTR.lt (fun e => hne e.symm))
  obtain ⟨v1, st1, W3, e3, ent3⟩ := entry_I tr2 hr hl2
  obtain ⟨k3, z3, c3⟩ := ent3
  obtain ⟨W4, e4, t4, k4, z4⟩ := c3 h
  have HK4 : Hid (Kp (fun q => q = s.br) W2 W4) := k3.trans k4
  have HE1 := hide e1
  have HE2 := hide e2
  have HE3 := hide e3
  have HE4 := hide e4
  have HT2 := hide t2
  have HT4 : Hid (TbI W4 s.br ((r, h) :: R)) := by
    rw [filter_none (any_not.1 h2)] at t4
    exact t4
  have HS0 : Hid (w.drew.cell? ⟨g, 13, none⟩ = some (.map (some s.bh)) ∧ w.drew.cell? ⟨g, 14, none⟩ = some (.map (some s.br))) := ⟨s13, s14⟩
  have HS1 : Hid (W1.cell? ⟨g, 13, none⟩ = some (.map (some s.bh)) ∧ W1.cell? ⟨g, 14, none⟩ = some (.map (some s.br))) := ⟨(k1.cell hl hgh).trans s13, (k1.cell hl hgh).trans s14⟩
  have HS2 : Hid (W2.cell? ⟨g, 13, none⟩ = some (.map (some s.bh)) ∧ W2.cell? ⟨g, 14, none⟩ = some (.map (some s.br))) := ⟨(HK2.out.cell hl hgh).trans s13, (HK2.out.cell hl hgh).trans s14⟩
  have hl2' : g < W2.heap.size := by have := HK2.out.size; omega
  have HS3 : Hid (W3.cell? ⟨g, 13, none⟩ = some (.map (some s.bh)) ∧ W3.cell? ⟨g, 14, none⟩ = some (.map (some s.br))) := ⟨(k3.cell hl2' hgr).trans HS2.out.1, (k3.cell hl2' hgr).trans HS2.out.2⟩
  have HS4 : Hid (W4.cell? ⟨g, 13, none⟩ = some (.map (some s.bh)) ∧ W4.cell? ⟨g, 14, none⟩ = some (.map (some s.br))) := ⟨(HK4.out.cell hl2' hgr).trans HS2.out.1, (HK4.out.cell hl2' hgr).trans HS2.out.2⟩
  have HNE := hide hne
  have H34 := hide (And.intro h3 h4)
  clear hS hTH hTR hh hl1 hl2 h0 h1 hm h2 h3 h4 hr e1 e2 e3 e4 t2 t4 tr2 k1 k2 k3 k4 z1 z2 z3 z4 c1 c3 hne hl2'
  go_enter Try.func34, Try.ntmps34
  go_wp2_with (first | (go_at_call 54; refine HC.out.mono ?_; rintro e1 w1 ⟨rfl, rfl⟩) | (at_lookup; refine look_I rfl _ _ rfl s.bh rfl h rfl H HT.out HW.out ?_; rw [H34.out.1, H34.out.2]))
  refine wp_region_held_drew (S := fun W => W.cell? ⟨g, 13, none⟩ = some (.map (some s.bh)) ∧ W.cell? ⟨g, 14, none⟩ = some (.map (some s.br))) (by kernel_rfl) HS0.out (fun hHeld => ?_)
  refine take_do (i := 0) (d := 43) (v := ?_) rfl rfl (by kernel_rfl) (by kernel_rfl) (by kernel_rfl) (fun _ _ _ h => h) rfl ?_ (by assumption) ?_
  rotate_left
  · intro W hSw
    try dsimp only at hSw
    go_simp
    try with_reducible rfl
  try simp only [List.setIfInBounds_toArray, List.set_cons_zero, List.set_cons_succ]
  refine take_do (i := 1) (d := 44) (v := ?_) rfl rfl (by kernel_rfl) (by kernel_rfl) (by kernel_rfl) (fun _ _ _ h => h) rfl ?_ (by assumption) ?_
  rotate_left
  · intro W hSw
    try dsimp only at hSw
    go_simp
    try with_reducible rfl
  try simp only [List.setIfInBounds_toArray, List.set_cons_zero, List.set_cons_succ]
  refine take_do (i := 2) (d := 45) (v := ?_) rfl rfl (by kernel_rfl) (by kernel_rfl) (by kernel_rfl) (fun _ _ _ h => h) rfl ?_ (by assumption) ?_
  rotate_left
  · intro W hSw
    try dsimp only at hSw
    go_simp
    try with_reducible rfl
  try simp only [List.setIfInBounds_toArray, List.set_cons_zero, List.set_cons_succ]
  refine take_do (i := 3) (d := 46) (v := ?_) rfl rfl (by kernel_rfl) (by kernel_rfl) (by kernel_rfl) (fun _ _ _ h => h) rfl ?_ (by assumption) ?_
  rotate_left
  · intro W hSw
    try dsimp only at hSw
    go_simp
    try with_reducible rfl
  try simp only [List.setIfInBounds_toArray, List.set_cons_zero, List.set_cons_succ]
  refine take_do (i := 4) (d := 47) (v := ?_) rfl rfl (by kernel_rfl) (by kernel_rfl) (by kernel_rfl) (fun _ _ _ h => h) rfl ?_ (by assumption) ?_
  rotate_left
  · intro W hSw
    try dsimp only at hSw
    go_simp
    try with_reducible rfl
  try simp only [List.setIfInBounds_toArray, List.set_cons_zero, List.set_cons_succ]
  refine take_do (i := 5) (d := 48) (v := ?_) rfl rfl (by kernel_rfl) (by kernel_rfl) (by kernel_rfl) (fun _ _ _ h => h) rfl ?_ (by assumption) ?_
  rotate_left
  · intro W hSw
    try dsimp only at hSw
    go_simp
    try with_reducible rfl
  try simp only [List.setIfInBounds_toArray, List.set_cons_zero, List.set_cons_succ]
  refine take_do (i := 6) (d := 49) (v := ?_) rfl rfl (by kernel_rfl) (by kernel_rfl) (by kernel_rfl) (fun _ _ _ h => h) rfl ?_ (by assumption) ?_
  rotate_left
  · intro W hSw
    try dsimp only at hSw
    go_simp
    try with_reducible rfl
  try simp only [List.setIfInBounds_toArray, List.set_cons_zero, List.set_cons_succ]
  refine take_do (i := 7) (d := 50) (v := ?_) rfl rfl (by kernel_rfl) (by kernel_rfl) (by kernel_rfl) (fun _ _ _ h => h) rfl ?_ (by assumption) ?_
  rotate_left
  · intro W hSw
    try dsimp only at hSw
    go_simp
    try with_reducible rfl
  try simp only [List.setIfInBounds_toArray, List.set_cons_zero, List.set_cons_succ]
  refine take_do (i := 8) (d := 51) (v := ?_) rfl rfl (by kernel_rfl) (by kernel_rfl) (by kernel_rfl) (fun _ _ _ h => h) rfl ?_ (by assumption) ?_
  rotate_left
  · intro W hSw
    try dsimp only at hSw
    go_simp
    try with_reducible rfl
  try simp only [List.setIfInBounds_toArray, List.set_cons_zero, List.set_cons_succ]
  refine take_do (i := 9) (d := 52) (v := ?_) rfl rfl (by kernel_rfl) (by kernel_rfl) (by kernel_rfl) (fun _ _ _ h => h) rfl ?_ (by assumption) ?_
  rotate_left
  · intro W hSw
    try dsimp only at hSw
    go_simp
    try with_reducible rfl
  try simp only [List.setIfInBounds_toArray, List.set_cons_zero, List.set_cons_succ]
  refine take_do (i := 10) (d := 53) (v := ?_) rfl rfl (by kernel_rfl) (by kernel_rfl) (by kernel_rfl) (fun _ _ _ h => h) rfl ?_ (by assumption) ?_
  rotate_left
  · intro W hSw
    try dsimp only at hSw
    go_simp
    try with_reducible rfl
  try simp only [List.setIfInBounds_toArray, List.set_cons_zero, List.set_cons_succ]
  refine take_do (i := 11) (d := 54) (v := ?_) rfl rfl (by kernel_rfl) (by kernel_rfl) (by kernel_rfl) (fun _ _ _ h => h) rfl ?_ (by assumption) ?_
  rotate_left
  · intro W hSw
    try dsimp only at hSw
    go_simp
    try with_reducible rfl
  try simp only [List.setIfInBounds_toArray, List.set_cons_zero, List.set_cons_succ]
  refine wpAnyH_ready (rs := [12]) (by kernel_rfl) (by simp) ?_
  refine AllReadyH.cons rfl (fun K hK => ?_) AllReadyH.nil
  rw [if_pos (by kernel_rfl)]
  refine wp_entry 88 (.tmp 46) (.tmp 47) rfl _ _ rfl rfl HE1.out ?_
  refine hK.out _ _ HS1.out (fun hHeld => ?_)
  clear hK K
  try simp only [Act.put, List.setIfInBounds_toArray, List.set_cons_zero, List.set_cons_succ]
  refine take_do (i := 13) (d := 56) (v := ?_) rfl rfl (by kernel_rfl) (by kernel_rfl) (by kernel_rfl) (fun _ _ _ h => h) rfl ?_ (by assumption) ?_
  rotate_left
  · intro W hSw
    try dsimp only at hSw
    go_simp
    try with_reducible rfl
  try simp only [List.setIfInBounds_toArray, List.set_cons_zero, List.set_cons_succ]
  refine wpAnyH_ready (rs := [14]) (by kernel_rfl) (by simp) ?_
  refine AllReadyH.cons rfl (fun K hK => ?_) AllReadyH.nil
  rw [if_pos (by kernel_rfl)]
  refine wp_entryStore 88 (.tmp 46) (.tmp 56) (.tmp 53) rfl _ _ _ rfl rfl rfl HE2.out ?_
  refine hK.out _ _ HS2.out (fun hHeld => ?_)
  clear hK K
  try simp only [Act.put, List.setIfInBounds_toArray, List.set_cons_zero, List.set_cons_succ]
  refine wpAnyH_ready (rs := [15]) (by kernel_rfl) (by simp) ?_
  refine AllReadyH.cons rfl (fun K hK => ?_) AllReadyH.nil
  rw [if_pos (by kernel_rfl)]
  refine wp_entry 88 (.tmp 51) (.tmp 52) rfl _ _ rfl rfl HE3.out ?_
  refine hK.out _ _ HS3.out (fun hHeld => ?_)
  clear hK K
  try simp only [Act.put, List.setIfInBounds_toArray, List.set_cons_zero, List.set_cons_succ]
  refine take_do (i := 16) (d := 58) (v := ?_) rfl rfl (by kernel_rfl) (by kernel_rfl) (by kernel_rfl) (fun _ _ _ h => h) rfl ?_ (by assumption) ?_
  rotate_left
  · intro W hSw
    try dsimp only at hSw
    go_simp
    try with_reducible rfl
  try simp only [List.setIfInBounds_toArray, List.set_cons_zero, List.set_cons_succ]
  refine wpAnyH_ready (rs := [17]) (by kernel_rfl) (by simp) ?_
  refine AllReadyH.cons rfl (fun K hK => ?_) AllReadyH.nil
  rw [if_pos (by kernel_rfl)]
  refine wp_entryStore 88 (.tmp 51) (.tmp 58) (.tmp 54) rfl _ _ _ rfl rfl rfl HE4.out ?_
  refine hK.out _ _ HS4.out (fun hHeld => ?_)
  clear hK K
  try simp only [Act.put, List.setIfInBounds_toArray, List.set_cons_zero, List.set_cons_succ]
  refine wpAnyH_done (by kernel_rfl) ?_ _
  go_wp2
  go_ret
  exact ⟨rfl, HT2.out.at (HK4.out.block HT2.out.lt HNE.out), HT4.out, (HK2.out.mono (fun q hq => .inl hq)).trans (HK4.out.mono (fun q hq => .inr hq))⟩
end Go.Proofs.Ytondbhdlccpklaa


/- Stage 13: Remote that is refused. -/
namespace Go.Proofs.Ytondbhdlccpklaa
open Go.RowKit Go.Maps
set_option linter.unusedVariables false
set_option linter.unusedSimpArgs false

/-- is it refused? -/
def remE (hm : Int) (H R : List (Int × Int)) (r h : Int) : Prop := r < 0 ∨ r > hm ∨ hasK R r = true ∨ hasK H h = false ∨ lu 0 H h ≠ -1
set_option maxRecDepth 100000 in
set_option maxHeartbeats 2000000 in
theorem remote_no (g : Nat) (s : Sn) (H R : List (Int × Int)) (r h : Int) (w : World) (hS : SB w g s) (hTH : TbI w s.bh H) (hTR : TbI w s.br R) (hr : wf64 r) (hh : wf64 h) (hE : remE s.hm H R r h) :
    Calls Try.prog 34 #[.pointer (some ⟨g, 0, none⟩), .int .i64 r, .int .i64 h] w fun e w' => e = .returned (.int .i64 132) ∧ w' = w := by
  obtain ⟨s0, s1, s2, s3, s4, s5, s6, s7, s8, s9, s10, s11, s12, s13, s14, s15, s16⟩ := hS.facts
  have hl := hS.lt
  have HC := hide (hasI_any s.br R r w hTR hr)
  have HT := hide hTH
  have HW := hide hh
  have hcase : r < 0 ∨ (0 ≤ r ∧ s.hm < r) ∨ (0 ≤ r ∧ r ≤ s.hm ∧ hasK R r = true) ∨ (0 ≤ r ∧ r ≤ s.hm ∧ hasK R r = false ∧ hasK H h = false) ∨ (0 ≤ r ∧ r ≤ s.hm ∧ hasK R r = false ∧ hasK H h = true ∧ lu 0 H h ≠ -1) := by
    by_cases h0 : r < 0
    · exact .inl h0
    · by_cases h1 : s.hm < r
      · exact .inr (.inl ⟨by omega, h1⟩)
      · right; right
        cases h2 : hasK R r
        · right
          cases h3 : hasK H h
          · exact .inl ⟨by omega, by omega, rfl, rfl⟩
          · refine .inr ⟨by omega, by omega, rfl, rfl, ?_⟩
            rcases hE with e | e | e | e | e
            · exact absurd e h0
            · omega
            · rw [h2] at e; cases e
            · rw [h3] at e; cases e
            · exact e
        · exact .inl ⟨by omega, by omega, rfl⟩
  clear hE hS hTH hTR hr hh s0 s1 s2 s3 s4 s5 s6 s7 s8 s9 s11 s12 s15 s16
  rcases hcase with h0 | ⟨h0, h1⟩ | ⟨h0, h1, h2⟩ | ⟨h0, h1, h2, h3⟩ | ⟨h0, h1, h2, h3, h4⟩
  · go_enter Try.func34, Try.ntmps34
    go_wp2
    go_ret
    exact ⟨rfl, rfl⟩
  · go_enter Try.func34, Try.ntmps34
    go_wp2
    go_ret
    exact ⟨rfl, rfl⟩
  · rw [h2] at HC
    clear h2
    go_enter Try.func34, Try.ntmps34
    go_wp2_with (go_at_call 54; refine HC.out.mono ?_; rintro e1 w1 ⟨rfl, rfl⟩)
    go_ret
    exact ⟨rfl, rfl⟩
  · rw [h2] at HC
    have H3 := hide h3
    clear h2 h3
    go_enter Try.func34, Try.ntmps34
    go_wp2_with (first | (go_at_call 54; refine HC.out.mono ?_; rintro e1 w1 ⟨rfl, rfl⟩) | (at_lookup; refine look_I rfl _ _ rfl s.bh rfl h rfl H HT.out HW.out ?_; rw [H3.out]))
    go_ret
    exact ⟨rfl, rfl⟩
  · rw [h2] at HC
    have H3 := hide h3
    obtain ⟨o, eo⟩ : ∃ o, lu 0 H h = o := ⟨_, rfl⟩
    have HO := hide eo
    rw [eo] at h4
    have hob : (o == -1) = false := by simp [h4]
    clear h2 h3 eo
    go_enter Try.func34, Try.ntmps34
    go_wp2_with (first | (go_at_call 54; refine HC.out.mono ?_; rintro e1 w1 ⟨rfl, rfl⟩) | (at_lookup; refine look_I rfl _ _ rfl s.bh rfl h rfl H HT.out HW.out ?_; rw [H3.out, HO.out]))
    go_ret
    exact ⟨rfl, rfl⟩
end Go.Proofs.Ytondbhdlccpklaa
