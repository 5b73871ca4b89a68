/- HSame -/
import Derived.Test.YtgldcchleoklcaaGreatDoorF35
import Derived.Test.YtgldcchleoklcaaGreatDoorF20
import Derived.Test.YtgldcchleoklcaaGreatDoorF06
import Derived.BigQuiet
namespace Go.Proofs.YtgldcchleoklcaaGreatDoor
open Go.RowKit
set_option linter.unusedVariables false
set_option linter.unusedSimpArgs false
def Flds (l : List FS) (w : World) (a : Option Addr) (fs : List Fd) : Prop := fs.length = l.length ∧ (0 < fs.length → ∃ b, a = some ⟨b, 0, none⟩ ∧ b < w.heap.size ∧ FRow w b fs) ∧ ∀ i (h : i < fs.length) (h' : i < l.length), FdIn 0 w fs[i] l[i]
theorem FieldsIn.flds {l : List FS} {W w w' : World} {a : Option Addr} {fs : List Fd} (h : FieldsIn l W a fs w) (hb : Below w.heap.size w w') : Flds l w' a fs := by
  refine ⟨h.1, fun h0 => ?_, fun i hi hi' => ?_⟩
  · obtain ⟨b, e, _, h2, h3⟩ := h.2.1 h0
    exact ⟨b, e, by have := hb.size; omega, h3.below hb h2⟩
  · obtain ⟨q1, q2, q3, q4, q5, q6, q7⟩ := h.2.2 i hi hi'
    refine ⟨q1, q2, q3, q4, q5, q6, fun h0 => ?_⟩
    obtain ⟨b, e, _, r2, r3⟩ := q7 h0
    exact ⟨b, e, Nat.zero_le _, by have := hb.size; omega, (hb.block b r2).trans r3⟩
theorem Flds.below {l : List FS} {w w' : World} {a : Option Addr} {fs : List Fd} (h : Flds l w a fs) (hb : Below w.heap.size w w') : Flds l w' a fs := by
  refine ⟨h.1, fun h0 => ?_, fun i hi hi' => ?_⟩
  · obtain ⟨b, e, h2, h3⟩ := h.2.1 h0
    exact ⟨b, e, by have := hb.size; omega, h3.below hb h2⟩
  · obtain ⟨q1, q2, q3, q4, q5, q6, q7⟩ := h.2.2 i hi hi'
    refine ⟨q1, q2, q3, q4, q5, q6, fun h0 => ?_⟩
    obtain ⟨b, e, _, r2, r3⟩ := q7 h0
    exact ⟨b, e, Nat.zero_le _, by have := hb.size; omega, (hb.block b r2).trans r3⟩
theorem bel_drewN {B : Nat} {a w : World} (h : Below B a w) (n : Nat) : Below B a (w.drewN n) := ⟨h.os, h.tape, h.output, h.size, h.block⟩
theorem eqT_rf (x : T) : eqT x x = true := by
  have h := neg_ord x x
  have h0 : T.ord x x = 0 := by omega
  unfold eqT
  simp [h0]
set_option maxRecDepth 100000 in
set_option maxHeartbeats 8000000 in
theorem sameFields_any (l : List FS) (N : Nat) (hN : l.length = N) (hN20 : N ≤ 20) (hok : ∀ f ∈ l, okFS f = true) (hks : ∀ f ∈ l, f.ks.length ≤ 100) (a b : Option Addr) (ca cb : Nat) (fs gs : List Fd) (w : World) (ha : Flds l w a fs) (hb : Flds l w b gs) :
    Calls Tryz.prog 12 #[.slice a N ca, .slice b N cb] w fun e w' => e = .returned (.bool true) ∧ Below w.heap.size w w' := by
  have HA := hide ha
  have HB := hide hb
  have HN := hide hN
  have HOK := hide hok
  have HKS := hide hks
  clear ha hb hN hok hks
  go_enter Tryz.func12, Tryz.ntmps12
  go_wp2
  go_loopw [5] (fun i wr => ∃ j : Nat, i = .int .i64 j ∧ j ≤ N ∧ Below w.heap.size w wr) (fun i _ => N - (intOf i).toNat)
  case atStart => exact ⟨0, rfl, Nat.zero_le _, Below.refl _ _⟩
  case round =>
    obtain ⟨j, rfl, hj, hbw⟩ := hrel
    have hsz := hbw.size
    by_cases hjN : j < N
    rotate_left
    · obtain rfl : j = N := by omega
      go_wp2
      go_ret
      exact ⟨rfl, hbw⟩
    have HAr := HA.out.below hbw
    have HBr := HB.out.below hbw
    have hja : j < fs.length := by rw [HAr.1, HN.out]; exact hjN
    have hjb : j < gs.length := by rw [HBr.1, HN.out]; exact hjN
    have hjl : j < l.length := by rw [HN.out]; exact hjN
    obtain ⟨ba, rfl, hba, hra⟩ := HAr.2.1 (by omega)
    obtain ⟨bb, rfl, hbb, hrb⟩ := HBr.2.1 (by omega)
    obtain ⟨a0, a1, a2, a3, a4, a5, a6, a7, a8⟩ := hra.cells j hja
    obtain ⟨b0, b1, b2, b3, b4, b5, b6, b7, b8⟩ := hrb.cells j hjb
    obtain ⟨p1, p2, p3, p4, p5, p6, p7⟩ := HAr.2.2 j hja hjl
    obtain ⟨q1, q2, q3, q4, q5, q6, q7⟩ := HBr.2.2 j hjb hjl
    have HKL : Hid (l[j].ks.length ≤ 100) := HKS.out _ (List.getElem_mem hjl)
    have hdl := okFS_lies (HOK.out l[j] (List.getElem_mem hjl))
    generalize fs[j] = X at *
    generalize gs[j] = Y at *
    generalize l[j] = Z at *
    rw [p1] at a0
    rw [p2] at a1
    rw [p5, p6] at a2
    rw [p3] at a3
    rw [p4] at a4 a5 a6 a7 a8
    rw [q1] at b0
    rw [q2] at b1
    rw [q5, q6] at b2
    rw [q3] at b3
    rw [q4] at b4 b5 b6 b7 b8
    generalize X.ka = xa at *
    generalize Y.ka = ya at *
    obtain ⟨M, hM⟩ : ∃ M, Z.ks.length = M := ⟨_, rfl⟩
    rw [hM] at a2 b2
    have HKX := hide p7
    have HKY := hide q7
    have HM := hide hM
    clear p1 p2 p3 p4 p5 p6 p7 q1 q2 q3 q4 q5 q6 q7 hM
    have HS : Hid (∀ W', Below wr.heap.size wr W' → (fun W' => W'.cell? ⟨ba, j * 9 + 4, none⟩ = some (.int .i64 Z.d.k) ∧ W'.cell? ⟨ba, j * 9 + 4 + 1, none⟩ = some (.int .u64 Z.d.n) ∧ W'.cell? ⟨ba, j * 9 + 4 + 2, none⟩ = some (.string Z.d.s) ∧ W'.cell? ⟨ba, j * 9 + 4 + 3, none⟩ = some (.slice Z.d.a Z.d.l.length Z.d.c) ∧ W'.cell? ⟨ba, j * 9 + 4 + 4, none⟩ = some (.int .i64 Z.d.e) ∧ W'.cell? ⟨bb, j * 9 + 4, none⟩ = some (.int .i64 Z.d.k) ∧ W'.cell? ⟨bb, j * 9 + 4 + 1, none⟩ = some (.int .u64 Z.d.n) ∧ W'.cell? ⟨bb, j * 9 + 4 + 2, none⟩ = some (.string Z.d.s) ∧ W'.cell? ⟨bb, j * 9 + 4 + 3, none⟩ = some (.slice Z.d.a Z.d.l.length Z.d.c) ∧ W'.cell? ⟨bb, j * 9 + 4 + 4, none⟩ = some (.int .i64 Z.d.e)) W') := by
      intro W' hW'
      have e : ∀ o', W'.cell? ⟨ba, o', none⟩ = wr.cell? ⟨ba, o', none⟩ := fun o' => hW'.cell (p := ⟨ba, o', none⟩) hba
      have e' : ∀ o', W'.cell? ⟨bb, o', none⟩ = wr.cell? ⟨bb, o', none⟩ := fun o' => hW'.cell (p := ⟨bb, o', none⟩) hbb
      exact ⟨(e _).trans a4, (e _).trans a5, (e _).trans a6, (e _).trans a7, (e _).trans a8, (e' _).trans b4, (e' _).trans b5, (e' _).trans b6, (e' _).trans b7, (e' _).trans b8⟩
    have HBR : Hid (Below wr.heap.size wr wr.drew) := (Below.refl _ _).drew
    have hE := requal_any Z.d Z.d wr.heap.size wr.drew (Nat.le_refl _) (hdl _ _) (hdl _ _)
    rw [eqT_rf, V.val_eq] at hE
    have HE := hide hE
    clear hE hdl
    go_wp2_with fail
    refine wp_region_held_drew (S := (fun W' => W'.cell? ⟨ba, j * 9 + 4, none⟩ = some (.int .i64 Z.d.k) ∧ W'.cell? ⟨ba, j * 9 + 4 + 1, none⟩ = some (.int .u64 Z.d.n) ∧ W'.cell? ⟨ba, j * 9 + 4 + 2, none⟩ = some (.string Z.d.s) ∧ W'.cell? ⟨ba, j * 9 + 4 + 3, none⟩ = some (.slice Z.d.a Z.d.l.length Z.d.c) ∧ W'.cell? ⟨ba, j * 9 + 4 + 4, none⟩ = some (.int .i64 Z.d.e) ∧ W'.cell? ⟨bb, j * 9 + 4, none⟩ = some (.int .i64 Z.d.k) ∧ W'.cell? ⟨bb, j * 9 + 4 + 1, none⟩ = some (.int .u64 Z.d.n) ∧ W'.cell? ⟨bb, j * 9 + 4 + 2, none⟩ = some (.string Z.d.s) ∧ W'.cell? ⟨bb, j * 9 + 4 + 3, none⟩ = some (.slice Z.d.a Z.d.l.length Z.d.c) ∧ W'.cell? ⟨bb, j * 9 + 4 + 4, none⟩ = some (.int .i64 Z.d.e))) (by kernel_rfl) (HS.out _ HBR.out) (fun hHeld => ?_)
    refine take_do (i := 0) (d := 19) (v := ?_) rfl rfl (by kernel_rfl) (by kernel_rfl) (by kernel_rfl) (fun _ _ _ h => h) rfl ?_ (by assumption) ?_
    rotate_left
    · intro w hSw
      try dsimp only at hSw
      go_simp
      try with_reducible rfl
    try simp only [List.setIfInBounds_toArray, List.set_cons_zero, List.set_cons_succ]
    refine take_do (i := 1) (d := 20) (v := ?_) rfl rfl (by kernel_rfl) (by kernel_rfl) (by kernel_rfl) (fun _ _ _ h => h) rfl ?_ (by assumption) ?_
    rotate_left
    · intro w hSw
      try dsimp only at hSw
      go_simp
      try with_reducible rfl
    try simp only [List.setIfInBounds_toArray, List.set_cons_zero, List.set_cons_succ]
    refine take_do (i := 2) (d := 21) (v := ?_) rfl rfl (by kernel_rfl) (by kernel_rfl) (by kernel_rfl) (fun _ _ _ h => h) rfl ?_ (by assumption) ?_
    rotate_left
    · intro w hSw
      try dsimp only at hSw
      go_simp
      try with_reducible rfl
    try simp only [List.setIfInBounds_toArray, List.set_cons_zero, List.set_cons_succ]
    refine take_do (i := 3) (d := 22) (v := ?_) rfl rfl (by kernel_rfl) (by kernel_rfl) (by kernel_rfl) (fun _ _ _ h => h) rfl ?_ (by assumption) ?_
    rotate_left
    · intro w hSw
      try dsimp only at hSw
      go_simp
      try with_reducible rfl
    try simp only [List.setIfInBounds_toArray, List.set_cons_zero, List.set_cons_succ]
    refine take_do (i := 4) (d := 23) (v := ?_) rfl rfl (by kernel_rfl) (by kernel_rfl) (by kernel_rfl) (fun _ _ _ h => h) rfl ?_ (by assumption) ?_
    rotate_left
    · intro w hSw
      try dsimp only at hSw
      go_simp
      try with_reducible rfl
    try simp only [List.setIfInBounds_toArray, List.set_cons_zero, List.set_cons_succ]
    refine take_do (i := 5) (d := 24) (v := ?_) rfl rfl (by kernel_rfl) (by kernel_rfl) (by kernel_rfl) (fun _ _ _ h => h) rfl ?_ (by assumption) ?_
    rotate_left
    · intro w hSw
      try dsimp only at hSw
      go_simp
      try with_reducible rfl
    try simp only [List.setIfInBounds_toArray, List.set_cons_zero, List.set_cons_succ]
    refine take_do (i := 6) (d := 25) (v := ?_) rfl rfl (by kernel_rfl) (by kernel_rfl) (by kernel_rfl) (fun _ _ _ h => h) rfl ?_ (by assumption) ?_
    rotate_left
    · intro w hSw
      try dsimp only at hSw
      go_simp
      try with_reducible rfl
    try simp only [List.setIfInBounds_toArray, List.set_cons_zero, List.set_cons_succ]
    refine take_do (i := 7) (d := 26) (v := ?_) rfl rfl (by kernel_rfl) (by kernel_rfl) (by kernel_rfl) (fun _ _ _ h => h) rfl ?_ (by assumption) ?_
    rotate_left
    · intro w hSw
      try dsimp only at hSw
      go_simp
      try with_reducible rfl
    try simp only [List.setIfInBounds_toArray, List.set_cons_zero, List.set_cons_succ]
    refine take_do (i := 8) (d := 27) (v := ?_) rfl rfl (by kernel_rfl) (by kernel_rfl) (by kernel_rfl) (fun _ _ _ h => h) rfl ?_ (by assumption) ?_
    rotate_left
    · intro w hSw
      try dsimp only at hSw
      go_simp
      try with_reducible rfl
    try simp only [List.setIfInBounds_toArray, List.set_cons_zero, List.set_cons_succ]
    refine take_do (i := 9) (d := 28) (v := ?_) rfl rfl (by kernel_rfl) (by kernel_rfl) (by kernel_rfl) (fun _ _ _ h => h) rfl ?_ (by assumption) ?_
    rotate_left
    · intro w hSw
      try dsimp only at hSw
      go_simp
      try with_reducible rfl
    try simp only [List.setIfInBounds_toArray, List.set_cons_zero, List.set_cons_succ]
    refine wpAnyH_ready (rs := [10]) (by kernel_rfl) (by simp) ?_
    refine AllReadyH.cons rfl (fun K hK => ?_) AllReadyH.nil
    go_simp
    go_wp2_with (go_at_call 21; refine Calls.mono HE.out ?_; rintro e6 w6 ⟨rfl, hb6⟩; have HB6 : Hid (Below wr.heap.size wr w6) := HBR.out.trans (hb6.mono (Nat.le_refl _)); clear hb6)
    refine hK.out _ _ (HS.out _ HB6.out) (fun hHeld => ?_)
    clear hK K
    refine take_do (i := 11) (d := 6) (v := ?_) rfl rfl (by kernel_rfl) (by kernel_rfl) (by kernel_rfl) (fun _ _ _ h => h) rfl ?_ (by assumption) ?_
    rotate_left
    · intro w hSw
      try dsimp only at hSw
      go_simp
      try with_reducible rfl
    try simp only [List.setIfInBounds_toArray, List.set_cons_zero, List.set_cons_succ]
    refine wpAnyH_done (by kernel_rfl) ?_ _
    have hs6 := HB6.out.size
    have hbw6 : Below w.heap.size w w6 := belOn hbw (by omega) HB6.out
    have e : ∀ o', w6.cell? ⟨ba, o', none⟩ = wr.cell? ⟨ba, o', none⟩ := fun o' => HB6.out.cell (p := ⟨ba, o', none⟩) hba
    have e' : ∀ o', w6.cell? ⟨bb, o', none⟩ = wr.cell? ⟨bb, o', none⟩ := fun o' => HB6.out.cell (p := ⟨bb, o', none⟩) hbb
    have c0 := (e _).trans a0
    have c1 := (e _).trans a1
    have c2 := (e _).trans a2
    have c3 := (e _).trans a3
    have d0 := (e' _).trans b0
    have d1 := (e' _).trans b1
    have d2 := (e' _).trans b2
    have d3 := (e' _).trans b3
    have hba6 : ba < w6.heap.size := by omega
    have hbb6 : bb < w6.heap.size := by omega
    clear e e' a0 a1 a2 a3 a4 a5 a6 a7 a8 b0 b1 b2 b3 b4 b5 b6 b7 b8
    go_wp2_with fail
    go_quiet (fail)
    go_wp2
    have HC : Hid (∀ wx, Below w6.heap.size w6 wx → (wx.cell? ⟨ba, j * 9 + 2, none⟩ = some (.slice xa M M) ∧ wx.cell? ⟨bb, j * 9 + 2, none⟩ = some (.slice ya M M)) ∧ Below w.heap.size w wx ∧ ∀ m, m < M → ∃ (p q : Nat) (x : Int), xa = some ⟨p, 0, none⟩ ∧ ya = some ⟨q, 0, none⟩ ∧ p < wx.heap.size ∧ q < wx.heap.size ∧ wx.cell? ⟨p, m, none⟩ = some (.int .i64 x) ∧ wx.cell? ⟨q, m, none⟩ = some (.int .i64 x)) := fun wx hx => by
      have hr : Below wr.heap.size wr wx := HB6.out.trans (hx.mono hs6)
      have hsx := hx.size
      refine ⟨⟨(hx.cell (p := ⟨ba, j * 9 + 2, none⟩) hba6).trans c2, (hx.cell (p := ⟨bb, j * 9 + 2, none⟩) hbb6).trans d2⟩, belOn hbw6 (by have := hbw6.size; omega) hx, fun m hm => ?_⟩
      have hml : m < Z.ks.length := by rw [HM.out]; exact hm
      obtain ⟨p, e1, _, e2, e3⟩ := HKX.out (by omega)
      obtain ⟨q, f1, _, f2, f3⟩ := HKY.out (by omega)
      refine ⟨p, q, Z.ks[m], e1, f1, by omega, by omega, ?_, ?_⟩
      · have h := (hr.block p e2).trans e3
        unfold World.cell?
        simp only [h]
        simp [hml]
      · have h := (hr.block q f2).trans f3
        unfold World.cell?
        simp only [h]
        simp [hml]
    have hM100 : M ≤ 100 := by rw [← HM.out]; exact HKL.out
    clear c0 c1 c2 c3 d0 d1 d2 d3
    go_loopw [7] (fun k wx => ∃ m : Nat, k = .int .i64 m ∧ m ≤ M ∧ Below w6.heap.size w6 wx) (fun k _ => M - (intOf k).toNat)
    case atStart => exact ⟨0, rfl, Nat.zero_le _, (by first | exact Below.refl _ _ | exact bel_drewN (Below.refl _ _) _)⟩
    case round =>
      obtain ⟨m, rfl, hm, hbx⟩ := hrel
      obtain ⟨⟨g1, g2⟩, hbwx, hel⟩ := HC.out _ hbx
      have hsx := hbx.size
      by_cases hmM : m < M
      · obtain ⟨p, q, x, rfl, rfl, hp, hq, x1, x2⟩ := hel m hmM
        have hy1 : ba < wr.heap.size := by omega
        have hy2 : bb < wr.heap.size := by omega
        go_wp2_with fail
        go_quiet (fail)
        go_wp2
        go_roundw
        case rel => exact ⟨m + 1, by go_num, by omega, (by first | exact hbx | exact bel_drewN hbx _)⟩
        case measure => simp [intOf]; omega
      · obtain rfl : m = M := by omega
        have hy1 : ba < wr.heap.size := by omega
        go_wp2
        go_roundw
        case rel => exact ⟨j + 1, by go_num, by omega, hbwx⟩
        case measure => simp [intOf]; omega
end Go.Proofs.YtgldcchleoklcaaGreatDoor
