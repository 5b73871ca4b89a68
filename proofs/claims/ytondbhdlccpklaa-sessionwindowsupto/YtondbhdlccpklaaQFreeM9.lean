import Derived.Test.YtondbhdlccpklaaQRemNM9
import Derived.Test.YtondbhdlccpklaaQDropM9
import Derived.Laws.EntriesVeiled

/- Stage 13: drop, Free. -/
namespace Go.Proofs.Ytondbhdlccpklaa
open Go.RowKit Go.Maps
set_option linter.unusedVariables false
set_option linter.unusedSimpArgs false

theorem lookE {w : World} {b : Nat} {l : List (Int × Int)} {k : Int} (h : TbI w b l) (hk : wf64 k) : (Instr.lookup 88 (.map (some b)) (.int .i64 k) true).run Try.prog w = .ok (.tuple #[.int .i64 (lu 0 l k), .bool (hasK l k)]) w := by
  obtain ⟨D, h1, h2⟩ := h
  obtain ⟨v, ps, hrun, hv⟩ := h1.look_ok Try.keyed Try.underlying88 (zeroI w) (zd := .held (intV 0)) (zp := []) rfl (key64 hk)
  rw [h2.lu 0 k] at hv
  obtain ⟨c, rfl, e⟩ := rI_inv hv
  simp only [Prod.mk.injEq, DataW.held.injEq] at e
  rw [hrun, ← e.1, h2.has]
  rfl
theorem delE {w : World} {b : Nat} {l : List (Int × Int)} {k : Int} (h : TbI w b l) (hk : wf64 k) (ty : TypeId) : ∃ w', (Builtin.delete_ #[88, 3] ty #[.map (some b), .int .i64 k]).run Try.prog w = .ok (.tuple #[]) w' ∧ TbI w' b (l.filter fun p => p.1 != k) ∧ Kp (fun q => q = b) w w' ∧ w'.heap.size = w.heap.size := by
  obtain ⟨D, h1, h2⟩ := h
  obtain ⟨w', hrun, r1, r2⟩ := h1.drop Try.keyed Try.underlying88 (key64 hk) ty
  exact ⟨w', hrun, TbI.mk r1 (h2.del k), grown_kp r2, turned_size r2⟩
theorem wp_del {o : Oper} {a : Act} {w : World} {K : Act → World → Prop} {Q : Exit → Act → World → Prop} (m x : Operand) (t k : TypeId) (ho : o.op = Op.call { callee := Callee.builtin Builtin.delete, args := #[m, x], argTypes := #[t, k] }) (mv xv : Value) (hm : a.eval m = mv) (hx : a.eval x = xv) {W1 : World}
    (hrun : (Builtin.delete_ #[t, k] o.type #[mv, xv]).run Try.prog w = .ok (.tuple #[]) W1) (h : K (a.put o.dst (.tuple #[])) W1) : o.wp Try.prog a w K Q := by
  unfold Oper.wp
  simp [execOp, ho, resolve, invoke, builtin, hm, hx, hrun, Result.andThen]
  exact h
set_option maxRecDepth 100000 in
set_option maxHeartbeats 2000000 in
theorem free_no (g : Nat) (s : Sn) (H : List (Int × Int)) (h : Int) (w : World) (hS : SB w g s) (hTH : TbI w s.bh H) (hh : wf64 h) (h3 : hasK H h = false) :
    Calls Try.prog 32 #[.pointer (some ⟨g, 0, none⟩), .int .i64 h] w fun e w' => e = .returned (.int .i64 132) ∧ Below w.heap.size w w' := by
  obtain ⟨s0, s1, s2, s3, s4, s5, s6, s7, s8, s9, s10, s11, s12, s13, s14, s15, s16⟩ := hS.facts
  have hl := hS.lt
  have hlk := lookE ((hTH.alloc (.cells #[.int .i64 h] 3)).drew) hh
  rw [h3] at hlk
  have HB : Hid (Below w.heap.size w ((w.alloc (.cells #[.int .i64 h] 3)).drew)) := (bel1 (Below.refl _ _) (Nat.le_refl _) _).trans ((bel_drew _).mono (by simp))
  have HS0 : Hid (((w.alloc (.cells #[.int .i64 h] 3)).drew).cell? ⟨g, 13, none⟩ = some (.map (some s.bh)) ∧ ((w.alloc (.cells #[.int .i64 h] 3)).drew).cell? ⟨w.heap.size, 0, none⟩ = some (.int .i64 h) ∧ (Instr.lookup 88 (.map (some s.bh)) (.int .i64 h) true).run Try.prog ((w.alloc (.cells #[.int .i64 h] 3)).drew) = .ok (.tuple #[.int .i64 (lu 0 H h), .bool false]) ((w.alloc (.cells #[.int .i64 h] 3)).drew)) :=
    ⟨(HB.out.cell (p := ⟨g, 13, none⟩) hl).trans s13, cellOf (heap_alloc_last w _) 0 _ rfl, hlk⟩
  clear hS hTH hh h3 hlk
  go_enter Try.func32, Try.ntmps32
  go_wp2
  refine wp_region_held_drew (S := fun W => W.cell? ⟨g, 13, none⟩ = some (.map (some s.bh)) ∧ W.cell? ⟨w.heap.size, 0, none⟩ = some (.int .i64 h) ∧ (Instr.lookup 88 (.map (some s.bh)) (.int .i64 h) true).run Try.prog W = .ok (.tuple #[.int .i64 (lu 0 H h), .bool false]) W) (by kernel_rfl) HS0.out (fun hHeld => ?_)
  refine take_do (i := 0) (d := 9) (v := ?_) rfl rfl (by kernel_rfl) (by kernel_rfl) (by kernel_rfl) (fun _ _ _ h => h) rfl ?_ (by assumption) ?_
  rotate_left
  · intro W hSw
    try dsimp only at hSw
    go_simp
    try with_reducible rfl
  try simp only [List.setIfInBounds_toArray, List.set_cons_zero, List.set_cons_succ]
  refine take_do (i := 1) (d := 10) (v := ?_) rfl rfl (by kernel_rfl) (by kernel_rfl) (by kernel_rfl) (fun _ _ _ h => h) rfl ?_ (by assumption) ?_
  rotate_left
  · intro W hSw
    try dsimp only at hSw
    go_simp
    try with_reducible rfl
  try simp only [List.setIfInBounds_toArray, List.set_cons_zero, List.set_cons_succ]
  refine take_do (i := 2) (d := 11) (v := ?_) rfl rfl (by kernel_rfl) (by kernel_rfl) (by kernel_rfl) (fun _ _ _ h => h) rfl ?_ (by assumption) ?_
  rotate_left
  · intro W hSw
    try dsimp only at hSw
    go_simp
    try with_reducible rfl
  try simp only [List.setIfInBounds_toArray, List.set_cons_zero, List.set_cons_succ]
  refine take_do (i := 3) (d := 12) (v := ?_) rfl rfl (by kernel_rfl) (by kernel_rfl) (by kernel_rfl) (fun _ _ _ h => h) rfl ?_ (by assumption) ?_
  rotate_left
  · intro W hSw
    try dsimp only at hSw
    go_simp
    try with_reducible rfl
  try simp only [List.setIfInBounds_toArray, List.set_cons_zero, List.set_cons_succ]
  refine take_do (i := 4) (d := 13) (v := ?_) rfl rfl (by kernel_rfl) (by kernel_rfl) (by kernel_rfl) (fun _ _ _ h => h) rfl ?_ (by assumption) ?_
  rotate_left
  · intro W hSw
    try dsimp only at hSw
    go_simp
    try with_reducible rfl
  try simp only [List.setIfInBounds_toArray, List.set_cons_zero, List.set_cons_succ]
  refine take_do (i := 5) (d := 14) (v := ?_) rfl rfl (by kernel_rfl) (by kernel_rfl) (by kernel_rfl) (fun _ _ _ h => h) rfl ?_ (by assumption) ?_
  rotate_left
  · intro W hSw
    try dsimp only at hSw
    go_simp
    try with_reducible rfl
  try simp only [List.setIfInBounds_toArray, List.set_cons_zero, List.set_cons_succ]
  refine take_do (i := 6) (d := 8) (v := ?_) rfl rfl (by kernel_rfl) (by kernel_rfl) (by kernel_rfl) (fun _ _ _ h => h) rfl ?_ (by assumption) ?_
  rotate_left
  · intro W hSw
    try dsimp only at hSw
    go_simp
    try with_reducible rfl
  try simp only [List.setIfInBounds_toArray, List.set_cons_zero, List.set_cons_succ]
  refine take_do (i := 7) (d := 15) (v := ?_) rfl rfl (by kernel_rfl) (by kernel_rfl) (by kernel_rfl) (fun _ _ _ h => h) rfl ?_ (by assumption) ?_
  rotate_left
  · intro W hSw
    try dsimp only at hSw
    go_simp
    try with_reducible rfl
  try simp only [List.setIfInBounds_toArray, List.set_cons_zero, List.set_cons_succ]
  refine take_do (i := 8) (d := 16) (v := ?_) rfl rfl (by kernel_rfl) (by kernel_rfl) (by kernel_rfl) (fun _ _ _ h => h) rfl ?_ (by assumption) ?_
  rotate_left
  · intro W hSw
    try dsimp only at hSw
    go_simp
    try with_reducible rfl
  try simp only [List.setIfInBounds_toArray, List.set_cons_zero, List.set_cons_succ]
  refine take_do (i := 9) (d := 5) (v := ?_) rfl rfl (by kernel_rfl) (by kernel_rfl) (by kernel_rfl) (fun _ _ _ h => h) rfl ?_ (by assumption) ?_
  rotate_left
  · intro W hSw
    try dsimp only at hSw
    go_simp
    try with_reducible rfl
  try simp only [List.setIfInBounds_toArray, List.set_cons_zero, List.set_cons_succ]
  refine take_do (i := 10) (d := 6) (v := ?_) rfl rfl (by kernel_rfl) (by kernel_rfl) (by kernel_rfl) (fun _ _ _ h => h) rfl ?_ (by assumption) ?_
  rotate_left
  · intro W hSw
    try dsimp only at hSw
    go_simp
    try with_reducible rfl
  try simp only [List.setIfInBounds_toArray, List.set_cons_zero, List.set_cons_succ]
  refine wpAnyH_done (by kernel_rfl) ?_ _
  go_wp2
  go_ret
  exact ⟨rfl, HB.out⟩
set_option maxRecDepth 100000 in
set_option maxHeartbeats 2000000 in
theorem free_yes (g : Nat) (s : Sn) (H R : List (Int × Int)) (S C : List (Int × Pd)) (h : Int) (w : World) (hSes : Ses w g s H R S C) (hh : wf64 h) (h3 : hasK H h = true) (hr : wf64 (lu 0 H h)) :
    Calls Try.prog 32 #[.pointer (some ⟨g, 0, none⟩), .int .i64 h] w fun e w' => e = .returned (.int .i64 0) ∧ Ses w' g s (H.filter fun p => p.1 != h) (R.filter fun p => p.1 != lu 0 H h) (S.filter fun p => p.2.2.1 != h) (C.filter fun p => p.2.2.1 != h) ∧ Kp (fun q => q = s.bh ∨ q = s.br ∨ q = s.bs ∨ q = s.bc) w w' := by
  have hS := hSes.sb
  have hTH := hSes.th
  have hTR := hSes.tr
  have hne := hSes.hr
  have HSes := hide hSes
  obtain ⟨s0, s1, s2, s3, s4, s5, s6, s7, s8, s9, s10, s11, s12, s13, s14, s15, s16⟩ := hS.facts
  have hl := hS.lt
  obtain ⟨V, hV⟩ : ∃ V, (w.alloc (.cells #[.int .i64 h] 3)).drew = V := ⟨_, rfl⟩
  have HV := hide hV
  have HB : Hid (Below w.heap.size w V) := hV ▸ (bel1 (Below.refl _ _) (Nat.le_refl _) _).trans ((bel_drew _).mono (by simp))
  have hN : V.heap[w.heap.size]? = some (.cells #[.int .i64 h] 3 (0, 0)) := hV ▸ heap_alloc_last w _
  have hTV : TbI V s.bh H := hTH.at (HB.out.block _ hTH.lt)
  have hlk := lookE hTV hh
  rw [h3] at hlk
  have HS0 : Hid (V.cell? ⟨g, 13, none⟩ = some (.map (some s.bh)) ∧ V.cell? ⟨w.heap.size, 0, none⟩ = some (.int .i64 h) ∧ (Instr.lookup 88 (.map (some s.bh)) (.int .i64 h) true).run Try.prog V = .ok (.tuple #[.int .i64 (lu 0 H h), .bool true]) V) :=
    ⟨(HB.out.cell (p := ⟨g, 13, none⟩) hl).trans s13, cellOf hN 0 _ rfl, hlk⟩
  obtain ⟨W1, e1, t1, k1, z1⟩ := delE (w := V.drew) (b := s.bh) (hTV.drew) hh 0
  have hgh : g ≠ s.bh := fun e => hTH.ne hS e.symm
  have hgr : g ≠ s.br := fun e => hTR.ne hS e.symm
  have HE1 := hide e1
  have HT1 := hide t1
  have HK1 := hide k1
  have HS1 : Hid (V.drew.cell? ⟨g, 13, none⟩ = some (.map (some s.bh)) ∧ V.drew.cell? ⟨w.heap.size, 0, none⟩ = some (.int .i64 h)) := ⟨HS0.out.1, HS0.out.2.1⟩
  have hlV : g < V.heap.size := by have := HB.out.size; omega
  have hbv : w.heap.size < V.heap.size := (Array.getElem?_eq_some_iff.1 hN).1
  have hbh : w.heap.size ≠ s.bh := by have := hTH.lt; omega
  have HS2 : Hid (W1.cell? ⟨g, 13, none⟩ = some (.map (some s.bh)) ∧ W1.cell? ⟨w.heap.size, 0, none⟩ = some (.int .i64 h)) := ⟨(k1.cell hlV hgh).trans HS0.out.1, (k1.cell hbv hbh).trans HS0.out.2.1⟩
  have d14 : W1.cell? ⟨g, 14, none⟩ = some (.map (some s.br)) := (k1.cell hlV hgh).trans ((HB.out.cell (p := ⟨g, 14, none⟩) hl).trans s14)
  have d15 : W1.cell? ⟨g, 15, none⟩ = some (.map (some s.bs)) := (k1.cell hlV hgh).trans ((HB.out.cell (p := ⟨g, 15, none⟩) hl).trans s15)
  have d16 : W1.cell? ⟨g, 16, none⟩ = some (.map (some s.bc)) := (k1.cell hlV hgh).trans ((HB.out.cell (p := ⟨g, 16, none⟩) hl).trans s16)
  have HTR1 : Hid (TbI W1 s.br R) := (hTR.at (HB.out.block _ hTR.lt)).at (k1.block (by have := HB.out.size; have := hTR.lt; show _ < V.heap.size; omega) (fun e => hne e.symm))
  have HR := hide hr
  have hl1 : g < W1.heap.size := by have := k1.size; have h5 : V.drew.heap.size = V.heap.size := rfl; omega
  have hbs : w.heap.size ≠ s.bs := by have := hSes.ts.lt; omega
  have hbc : w.heap.size ≠ s.bc := by have := hSes.tc.lt; omega
  have hbr : w.heap.size ≠ s.br := by have := hTR.lt; omega
  have hgs : g ≠ s.bs := fun e => hSes.ts.ne hS e.symm
  have hgc : g ≠ s.bc := fun e => hSes.tc.ne hS e.symm
  have hl0 := hl
  have HKV : Hid (Kp (fun q => q = s.bh) w W1) := ((Kp.ofBelow HB.out).trans (Kp.ofBelow (bel_drew V))).trans k1
  have hbw1 : w.heap.size < W1.heap.size := by have := k1.size; have h5 : V.drew.heap.size = V.heap.size := rfl; omega
  clear hS hTH hTR hne hh h3 hr hlk hTV hV hN e1 t1 k1 z1 hSes
  go_enter Try.func32, Try.ntmps32
  go_wp2
  refine wp_region_held_drew (S := fun W => W.cell? ⟨g, 13, none⟩ = some (.map (some s.bh)) ∧ W.cell? ⟨w.heap.size, 0, none⟩ = some (.int .i64 h) ∧ (Instr.lookup 88 (.map (some s.bh)) (.int .i64 h) true).run Try.prog W = .ok (.tuple #[.int .i64 (lu 0 H h), .bool true]) W) (by kernel_rfl) (by rw [HV.out]; exact HS0.out) (fun hHeld => ?_)
  rw [HV.out] at hHeld ⊢
  refine take_do (i := 0) (d := 9) (v := ?_) rfl rfl (by kernel_rfl) (by kernel_rfl) (by kernel_rfl) (fun _ _ _ h => h) rfl ?_ (by assumption) ?_
  rotate_left
  · intro W hSw
    try dsimp only at hSw
    go_simp
    try with_reducible rfl
  try simp only [List.setIfInBounds_toArray, List.set_cons_zero, List.set_cons_succ]
  refine take_do (i := 1) (d := 10) (v := ?_) rfl rfl (by kernel_rfl) (by kernel_rfl) (by kernel_rfl) (fun _ _ _ h => h) rfl ?_ (by assumption) ?_
  rotate_left
  · intro W hSw
    try dsimp only at hSw
    go_simp
    try with_reducible rfl
  try simp only [List.setIfInBounds_toArray, List.set_cons_zero, List.set_cons_succ]
  refine take_do (i := 2) (d := 11) (v := ?_) rfl rfl (by kernel_rfl) (by kernel_rfl) (by kernel_rfl) (fun _ _ _ h => h) rfl ?_ (by assumption) ?_
  rotate_left
  · intro W hSw
    try dsimp only at hSw
    go_simp
    try with_reducible rfl
  try simp only [List.setIfInBounds_toArray, List.set_cons_zero, List.set_cons_succ]
  refine take_do (i := 3) (d := 12) (v := ?_) rfl rfl (by kernel_rfl) (by kernel_rfl) (by kernel_rfl) (fun _ _ _ h => h) rfl ?_ (by assumption) ?_
  rotate_left
  · intro W hSw
    try dsimp only at hSw
    go_simp
    try with_reducible rfl
  try simp only [List.setIfInBounds_toArray, List.set_cons_zero, List.set_cons_succ]
  refine take_do (i := 4) (d := 13) (v := ?_) rfl rfl (by kernel_rfl) (by kernel_rfl) (by kernel_rfl) (fun _ _ _ h => h) rfl ?_ (by assumption) ?_
  rotate_left
  · intro W hSw
    try dsimp only at hSw
    go_simp
    try with_reducible rfl
  try simp only [List.setIfInBounds_toArray, List.set_cons_zero, List.set_cons_succ]
  refine take_do (i := 5) (d := 14) (v := ?_) rfl rfl (by kernel_rfl) (by kernel_rfl) (by kernel_rfl) (fun _ _ _ h => h) rfl ?_ (by assumption) ?_
  rotate_left
  · intro W hSw
    try dsimp only at hSw
    go_simp
    try with_reducible rfl
  try simp only [List.setIfInBounds_toArray, List.set_cons_zero, List.set_cons_succ]
  refine take_do (i := 6) (d := 8) (v := ?_) rfl rfl (by kernel_rfl) (by kernel_rfl) (by kernel_rfl) (fun _ _ _ h => h) rfl ?_ (by assumption) ?_
  rotate_left
  · intro W hSw
    try dsimp only at hSw
    go_simp
    try with_reducible rfl
  try simp only [List.setIfInBounds_toArray, List.set_cons_zero, List.set_cons_succ]
  refine take_do (i := 7) (d := 15) (v := ?_) rfl rfl (by kernel_rfl) (by kernel_rfl) (by kernel_rfl) (fun _ _ _ h => h) rfl ?_ (by assumption) ?_
  rotate_left
  · intro W hSw
    try dsimp only at hSw
    go_simp
    try with_reducible rfl
  try simp only [List.setIfInBounds_toArray, List.set_cons_zero, List.set_cons_succ]
  refine take_do (i := 8) (d := 16) (v := ?_) rfl rfl (by kernel_rfl) (by kernel_rfl) (by kernel_rfl) (fun _ _ _ h => h) rfl ?_ (by assumption) ?_
  rotate_left
  · intro W hSw
    try dsimp only at hSw
    go_simp
    try with_reducible rfl
  try simp only [List.setIfInBounds_toArray, List.set_cons_zero, List.set_cons_succ]
  refine take_do (i := 9) (d := 5) (v := ?_) rfl rfl (by kernel_rfl) (by kernel_rfl) (by kernel_rfl) (fun _ _ _ h => h) rfl ?_ (by assumption) ?_
  rotate_left
  · intro W hSw
    try dsimp only at hSw
    go_simp
    try with_reducible rfl
  try simp only [List.setIfInBounds_toArray, List.set_cons_zero, List.set_cons_succ]
  refine take_do (i := 10) (d := 6) (v := ?_) rfl rfl (by kernel_rfl) (by kernel_rfl) (by kernel_rfl) (fun _ _ _ h => h) rfl ?_ (by assumption) ?_
  rotate_left
  · intro W hSw
    try dsimp only at hSw
    go_simp
    try with_reducible rfl
  try simp only [List.setIfInBounds_toArray, List.set_cons_zero, List.set_cons_succ]
  refine wpAnyH_done (by kernel_rfl) ?_ _
  go_wp2
  refine wp_region_held_drew (S := fun W => W.cell? ⟨g, 13, none⟩ = some (.map (some s.bh)) ∧ W.cell? ⟨w.heap.size, 0, none⟩ = some (.int .i64 h)) (by kernel_rfl) HS1.out (fun hHeld => ?_)
  refine take_do (i := 0) (d := 19) (v := ?_) rfl rfl (by kernel_rfl) (by kernel_rfl) (by kernel_rfl) (fun _ _ _ h => h) rfl ?_ (by assumption) ?_
  rotate_left
  · intro W hSw
    try dsimp only at hSw
    go_simp
    try with_reducible rfl
  try simp only [List.setIfInBounds_toArray, List.set_cons_zero, List.set_cons_succ]
  refine take_do (i := 1) (d := 20) (v := ?_) rfl rfl (by kernel_rfl) (by kernel_rfl) (by kernel_rfl) (fun _ _ _ h => h) rfl ?_ (by assumption) ?_
  rotate_left
  · intro W hSw
    try dsimp only at hSw
    go_simp
    try with_reducible rfl
  try simp only [List.setIfInBounds_toArray, List.set_cons_zero, List.set_cons_succ]
  refine take_do (i := 2) (d := 21) (v := ?_) rfl rfl (by kernel_rfl) (by kernel_rfl) (by kernel_rfl) (fun _ _ _ h => h) rfl ?_ (by assumption) ?_
  rotate_left
  · intro W hSw
    try dsimp only at hSw
    go_simp
    try with_reducible rfl
  try simp only [List.setIfInBounds_toArray, List.set_cons_zero, List.set_cons_succ]
  refine take_do (i := 3) (d := 22) (v := ?_) rfl rfl (by kernel_rfl) (by kernel_rfl) (by kernel_rfl) (fun _ _ _ h => h) rfl ?_ (by assumption) ?_
  rotate_left
  · intro W hSw
    try dsimp only at hSw
    go_simp
    try with_reducible rfl
  try simp only [List.setIfInBounds_toArray, List.set_cons_zero, List.set_cons_succ]
  refine take_do (i := 4) (d := 23) (v := ?_) rfl rfl (by kernel_rfl) (by kernel_rfl) (by kernel_rfl) (fun _ _ _ h => h) rfl ?_ (by assumption) ?_
  rotate_left
  · intro W hSw
    try dsimp only at hSw
    go_simp
    try with_reducible rfl
  try simp only [List.setIfInBounds_toArray, List.set_cons_zero, List.set_cons_succ]
  refine wpAnyH_ready (rs := [5]) (by kernel_rfl) (by simp) ?_
  refine AllReadyH.cons rfl (fun K hK => ?_) AllReadyH.nil
  rw [if_pos (by kernel_rfl)]
  refine wp_del (.tmp 22) (.tmp 23) 88 3 rfl _ _ rfl rfl HE1.out ?_
  refine hK.out _ _ HS2.out (fun hHeld => ?_)
  clear hK K
  try simp only [Act.put, List.setIfInBounds_toArray, List.set_cons_zero, List.set_cons_succ]
  refine wpAnyH_done (by kernel_rfl) ?_ _
  clear hHeld
  go_wp2_with (at_delete; refine del_I rfl _ _ rfl s.br rfl _ rfl R HTR1.out HR.out ?_; intro w2 t2 k2 z2; have f15 := (k2.cell hl1 hgr).trans d15; have f14 := (k2.cell hl1 hgr).trans d14; have hl2 : g < w2.heap.size := by omega)
  have HX := HSes.out
  have HK2 : Hid (Kp (fun q => q = s.bh ∨ q = s.br ∨ q = s.bs ∨ q = s.bc) w w2) := (HKV.out.mono (fun q hq => .inl hq)).trans (k2.mono (fun q hq => .inr (.inl hq)))
  have c2 : w2.cell? ⟨w.heap.size, 0, none⟩ = some (.int .i64 h) := (k2.cell hbw1 hbr).trans HS2.out.2
  have HT2 := hide t2
  have HH2 : Hid (TbI w2 s.bh (H.filter fun p => p.1 != h)) := HT1.out.at (k2.block HT1.out.lt HX.hr)
  have hS1 : TbP W1 s.bs S := HX.ts.at (HKV.out.block HX.ts.lt (fun e => HX.hs e.symm))
  have hC1 : TbP W1 s.bc C := HX.tc.at (HKV.out.block HX.tc.lt (fun e => HX.hc e.symm))
  have HS2' : Hid (TbP w2 s.bs S) := hS1.at (k2.block hS1.lt (fun e => HX.rs e.symm))
  have HC2 : Hid (TbP w2 s.bc C) := hC1.at (k2.block hC1.lt (fun e => HX.rc e.symm))
  have hB2 : w.heap.size < w2.heap.size := by omega
  have f16 := (k2.cell hl1 hgr).trans d16
  have HD1 := hide (drop_any s.bs w.heap.size S h w2 HS2'.out hB2 c2 hbs)
  clear t2 k2 z2 hS1 hC1 d14 d15 d16
  refine HD1.out.mono ?_
  rintro e3 w3 ⟨rfl, t3, k3⟩
  have HK3 : Hid (Kp (fun q => q = s.bh ∨ q = s.br ∨ q = s.bs ∨ q = s.bc) w w3) := HK2.out.trans (k3.mono (fun q hq => .inr (.inr (.inl hq))))
  have c3 : w3.cell? ⟨w.heap.size, 0, none⟩ = some (.int .i64 h) := (k3.cell hB2 hbs).trans c2
  have hB3 : w.heap.size < w3.heap.size := by have := k3.size; omega
  have HT3 := hide t3
  have HH3 := hide (HH2.out.at (k3.block HH2.out.lt HX.hs))
  have HR3 := hide (HT2.out.at (k3.block HT2.out.lt HX.rs))
  have HC3 := hide (HC2.out.at (k3.block HC2.out.lt (fun e => HX.sc e.symm)))
  have g16 := (k3.cell hl2 hgs).trans f16
  have hl3 : g < w3.heap.size := by have := k3.size; omega
  have HD2 := hide (drop_any s.bc w.heap.size C h w3 HC3.out hB3 c3 hbc)
  clear t3 k3 f14 f15 f16 c2 HD1
  go_wp2_with fail
  refine HD2.out.mono ?_
  rintro e4 w4 ⟨rfl, t4, k4⟩
  have HK4 : Hid (Kp (fun q => q = s.bh ∨ q = s.br ∨ q = s.bs ∨ q = s.bc) w w4) := HK3.out.trans (k4.mono (fun q hq => .inr (.inr (.inr hq))))
  have HFin : Hid (Ses w4 g s (H.filter fun p => p.1 != h) (R.filter fun p => p.1 != lu 0 H h) (S.filter fun p => p.2.2.1 != h) (C.filter fun p => p.2.2.1 != h)) :=
    ⟨HX.sb.at (HK4.out.block hl0 (fun e => by rcases e with e | e | e | e; exact hgh e; exact hgr e; exact hgs e; exact hgc e)), HH3.out.at (k4.block HH3.out.lt HX.hc), HR3.out.at (k4.block HR3.out.lt HX.rc), HT3.out.at (k4.block HT3.out.lt HX.sc), t4, HX.hr, HX.hs, HX.hc, HX.rs, HX.rc, HX.sc⟩
  clear t4 k4
  go_wp2
  go_ret
  exact ⟨rfl, HFin.out, HK4.out⟩
end Go.Proofs.Ytondbhdlccpklaa
