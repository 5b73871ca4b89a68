import Derived.Test.YtondbhdlccpklaaQWiAM9
import Derived.Test.YtondbhdlccpklaaQWiCM9
import Derived.Test.YtondbhdlccpklaaQWiDM9

/- SessionWindows: act: a window is widened, something comes. -/
namespace Go.Proofs.Ytondbhdlccpklaa
open Go.RowKit Go.Maps
set_option linter.unusedVariables false
set_option linter.unusedSimpArgs false

section
variable {z : Nat} {w w0 : World} {kx gx ky gy N : Nat} {sx sy : Sn} {vx vy : Value} {X Y : List It}
set_option maxRecDepth 100000 in
set_option maxHeartbeats 8000000 in
theorem act_widen (o : Opd) (h : Wn z w kx gx ky gy N sx sy vx vy X Y) (hw : Win (N : Int) sx sy X Y) (hb : Below z w0 w) (hz : z ≤ w.heap.size) (hN : N ≤ 1000000000) (hk : Int.tmod o.k 5 = 3) (h0 : 0 ≤ o.a) (h1 : o.a ≤ 4294967295) :
    Calls Try.prog 22 #[.pointer (some ⟨kx, 0, none⟩), .pointer (some ⟨ky, 0, none⟩), .agg o.cells] w fun e w' => e = .returned (.bool true) ∧ WN z w0 w' kx gx ky gy (N + 1) := by
  unfold Opd.cells
  obtain ⟨k, a, b, c, d, e, t, f⟩ := o
  dsimp only at *
  obtain ⟨V, hV⟩ : ∃ V, w.alloc (.cells #[.int .i64 k, .int .i64 a, .int .i64 b, .int .i64 c, .int .i64 d, .int .i64 e, .string t, .bool f] 24) = V := ⟨_, rfl⟩
  have hbV : Below w.heap.size w V := hV ▸ bel1 (Below.refl _ _) (Nat.le_refl _) _
  have HV := hide hV
  have hW := h.below hbV
  have HW := hide hW
  have HWin := hide hw
  have HB0 : Hid (Below z w0 V) := hb.trans (hbV.mono hz)
  have HZ0 : Hid (z ≤ V.heap.size) := Nat.le_trans hz hbV.size
  have hl0 : w.heap.size < V.heap.size := by rw [← hV]; simp
  have ck : V.cell? ⟨w.heap.size, 0, none⟩ = some (.int .i64 k) := by rw [← hV]; exact cellOf (heap_alloc_last w _) 0 _ rfl
  have ca : V.cell? ⟨w.heap.size, 1, none⟩ = some (.int .i64 a) := by rw [← hV]; exact cellOf (heap_alloc_last w _) 1 _ rfl
  obtain ⟨c0, c1, c2, c3⟩ := hW.x.facts
  have hiw : isW a = true := isW_iff.2 ⟨h0, h1⟩
  have hbd : Below V.heap.size V V.drew := ⟨rfl, rfl, rfl, Nat.le_refl _, fun _ _ => rfl⟩
  have hWd : Wn z V.drew kx gx ky gy N sx sy vx vy X Y := hW.below hbd
  have hkg := hW.x.apart.1
  have hog : w.heap.size ≠ gx := fun e => by have := h.x.sb.lt; omega
  have HP : Hid (Calls Try.prog 50 #[.pointer (some ⟨gx, 0, none⟩), .int .i64 a] V.drew fun e w1 => e = .returned (.int .i64 0) ∧ Hid (SB w1 gx { sx with iw := greater sx.iw a } ∧ Kp (fun k => k = gx) V.drew w1) ∧ (w1.cell? ⟨kx, 0, none⟩ = some (.pointer (some ⟨gx, 0, none⟩)) ∧ w1.cell? ⟨w.heap.size, 1, none⟩ = some (.int .i64 a))) :=
    (widen_yes gx sx a V.drew hWd.x.sb hiw).mono fun e w1 ⟨e1, s1, k1⟩ => ⟨e1, ⟨s1, k1⟩, (k1.cell (b := kx) (o := 0) c3 hkg).trans c0, (k1.cell (b := w.heap.size) (o := 1) hl0 hog).trans ca⟩
  have HWd := hide hWd
  have Hiw := hide hiw
  clear hV hbV hW h hw hb hz hbd hWd hkg hog hiw
  go_enter Try.func22, Try.ntmps22
  go_wp2_with (rw [HV.out])
  go_region_held (fun W => W.cell? ⟨kx, 0, none⟩ = some (.pointer (some ⟨gx, 0, none⟩)) ∧ W.cell? ⟨w.heap.size, 1, none⟩ = some (.int .i64 a)) (first | assumption | go_keep) (first | (go_at_call 50; refine Calls.mono HP.out ?_; rintro e1 w1 ⟨rfl, hM, hs1⟩))
  go_wp2
  go_ret
  have h2 := HWd.out.turn hM.out.1 hM.out.2 rfl rfl
  exact ⟨rfl, _, sy, vx, vy, X, Y, h2.1.more (by omega), by have := HWin.out.widen Hiw.out; push_cast; exact this, h2.2 w0 ⟨HB0.out.os, HB0.out.tape, HB0.out.output, HB0.out.size, HB0.out.block⟩ HZ0.out, Nat.le_trans HZ0.out hM.out.2.size⟩
set_option maxRecDepth 100000 in
set_option maxHeartbeats 8000000 in
theorem act_idle (o : Opd) (h : Wn z w kx gx ky gy N sx sy vx vy X Y) (hw : Win (N : Int) sx sy X Y) (hb : Below z w0 w) (hz : z ≤ w.heap.size) (hN : N ≤ 1000000000) (hk0 : ¬ Int.tmod o.k 5 = 0) (hk1 : ¬ Int.tmod o.k 5 = 1) (hc : ¬ Int.tmod o.k 5 = 3 ∨ (Int.tmod o.k 5 = 3 ∧ o.a < 0) ∨ (Int.tmod o.k 5 = 3 ∧ 0 ≤ o.a ∧ 4294967295 < o.a)) (hX : X = []) :
    Calls Try.prog 22 #[.pointer (some ⟨kx, 0, none⟩), .pointer (some ⟨ky, 0, none⟩), .agg o.cells] w fun e w' => e = .returned (.bool true) ∧ WN z w0 w' kx gx ky gy (N + 1) := by
  unfold Opd.cells
  obtain ⟨k, a, b, c, d, e, t, f⟩ := o
  dsimp only at *
  obtain ⟨V, hV⟩ : ∃ V, w.alloc (.cells #[.int .i64 k, .int .i64 a, .int .i64 b, .int .i64 c, .int .i64 d, .int .i64 e, .string t, .bool f] 24) = V := ⟨_, rfl⟩
  have hbV : Below w.heap.size w V := hV ▸ bel1 (Below.refl _ _) (Nat.le_refl _) _
  have HV := hide hV
  have hW := h.below hbV
  have HW := hide hW
  have HWin := hide hw
  have HB0 : Hid (Below z w0 V) := hb.trans (hbV.mono hz)
  have HZ0 : Hid (z ≤ V.heap.size) := Nat.le_trans hz hbV.size
  have hl0 : w.heap.size < V.heap.size := by rw [← hV]; simp
  have ck : V.cell? ⟨w.heap.size, 0, none⟩ = some (.int .i64 k) := by rw [← hV]; exact cellOf (heap_alloc_last w _) 0 _ rfl
  have ca : V.cell? ⟨w.heap.size, 1, none⟩ = some (.int .i64 a) := by rw [← hV]; exact cellOf (heap_alloc_last w _) 1 _ rfl
  obtain ⟨c0, c1, c2, c3⟩ := hW.x.facts
  obtain ⟨ax, cx, hsh⟩ := h.x.wy.shape
  rw [hsh, hX] at c1
  have HX := hide hX
  clear hV hbV hW h hw hb hz hX hsh
  rcases hc with hc | ⟨hc, hc2⟩ | ⟨hc, hc2, hc3⟩
  all_goals
    go_enter Try.func22, Try.ntmps22
    go_wp2_with (rw [HV.out])
    go_wp2
    go_ret
    exact ⟨rfl, sx, sy, vx, vy, X, Y, HW.out.more (by omega), by have := HWin.out.more; push_cast; exact this, HB0.out, HZ0.out⟩
end
end Go.Proofs.Ytondbhdlccpklaa


/- SessionWindows: act: a window is widened, something comes. -/
namespace Go.Proofs.Ytondbhdlccpklaa
open Go.RowKit Go.Maps
set_option linter.unusedVariables false
set_option linter.unusedSimpArgs false

section
variable {z : Nat} {w w0 : World} {kx gx ky gy N : Nat} {sx sy : Sn} {vx vy : Value} {X Y : List It}
theorem act_any (o : Opd) (h : WN z w0 w kx gx ky gy N) (hN : N ≤ 1000000000) :
    Calls Try.prog 22 #[.pointer (some ⟨kx, 0, none⟩), .pointer (some ⟨ky, 0, none⟩), .agg o.cells] w fun e w' => e = .returned (.bool true) ∧ WN z w0 w' kx gx ky gy (N + 1) := by
  obtain ⟨sx, sy, vx, vy, X, Y, h1, h2, h3, h4⟩ := h
  by_cases k0 : Int.tmod o.k 5 = 0
  · by_cases hr : sx.room = 0
    · exact act_none o h1 h2 h3 h4 hN k0 hr
    · exact act_send o h1 h2 h3 h4 hN k0 hr
  by_cases k1 : Int.tmod o.k 5 = 1
  · exact act_fields o h1 h2 h3 h4 hN k1
  by_cases k3 : Int.tmod o.k 5 = 3 ∧ 0 ≤ o.a ∧ o.a ≤ 4294967295
  · exact act_widen o h1 h2 h3 h4 hN k3.1 k3.2.1 k3.2.2
  have hc : ¬ Int.tmod o.k 5 = 3 ∨ (Int.tmod o.k 5 = 3 ∧ o.a < 0) ∨ (Int.tmod o.k 5 = 3 ∧ 0 ≤ o.a ∧ 4294967295 < o.a) := by
    by_cases h3 : Int.tmod o.k 5 = 3
    · by_cases ha : o.a < 0
      · exact .inr (.inl ⟨h3, ha⟩)
      · refine .inr (.inr ⟨h3, by omega, ?_⟩)
        by_cases hb : o.a ≤ 4294967295
        · exact absurd ⟨h3, by omega, hb⟩ k3
        · omega
    · exact .inl h3
  match X, h1, h2 with
  | [], h1, h2 => exact act_idle o h1 h2 h3 h4 hN k0 k1 hc rfl
  | none :: X', h1, h2 => exact act_got o h1 h2 h3 h4 hN k0 k1 hc rfl
  | some fl :: X', h1, h2 => exact act_flow o h1 h2 h3 h4 hN k0 k1 hc rfl
end
end Go.Proofs.Ytondbhdlccpklaa
