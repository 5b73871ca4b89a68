/- FrameSeals: the walk. -/
import Derived.Test.YtboacpneoblklaaFSealM
import Derived.Deep.DeepCutAuto
namespace Go.Proofs.Ytboacpneoblklaa
open Go.RowKit Go.Deep
set_option linter.unusedVariables false
set_option linter.unusedSimpArgs false

theorem Try.infoE : (Try.prog.info? 33).map (fun i => (i.zero, i.size, i.bytes)) = some (some (.int .i64 0), 1, 8) := by kernel_rfl

set_option maxRecDepth 100000 in
set_option maxHeartbeats 16000000 in
theorem seals_walk (ty0 ch0 : Int) (a0 : Option Addr) (n0 c0 : Nat) (b0 : Option Addr) (m0 e0 : Nat) (x0 y0 : List Nat) (ty1 ch1 : Int) (a1 : Option Addr) (n1 c1 : Nat) (b1 : Option Addr) (m1 e1 : Nat) (x1 y1 : List Nat) (w : World)
    (wt0 : (Lit.int .i64 ty0).wf = true) (wc0 : (Lit.int .i64 ch0).wf = true) (ra0 : Rd w a0 n0 x0) (rb0 : Rd w b0 m0 y0) (la0 : n0 ≤ c0) (lb0 : m0 ≤ e0) (za0 : c0 ≤ 140737488351232) (zb0 : e0 ≤ 140737488351232) (na0 : a0 = none → c0 = 0) (nb0 : b0 = none → e0 = 0)
    (wt1 : (Lit.int .i64 ty1).wf = true) (wc1 : (Lit.int .i64 ch1).wf = true) (ra1 : Rd w a1 n1 x1) (rb1 : Rd w b1 m1 y1) (la1 : n1 ≤ c1) (lb1 : m1 ≤ e1) (za1 : c1 ≤ 140737488351232) (zb1 : e1 ≤ 140737488351232) (na1 : a1 = none → c1 = 0) (nb1 : b1 = none → e1 = 0) :
    Calls Try.prog 3 #[frV ty0 ch0 a0 n0 c0 b0 m0 e0, frV ty1 ch1 a1 n1 c1 b1 m1 e1] w fun e w' => e = .returned (.bool true) ∧ Below w.heap.size w w' := by
  obtain ⟨i0, hi, hz0, hz1, hz2⟩ := info_parts Try.infoL
  have HI := hide hi
  have HZ0 := hide hz0
  have HZ1 := hide hz1
  have HZ2 := hide hz2
  clear hi hz0 hz1 hz2
  obtain ⟨iE, hi, hz0, hz1, hz2⟩ := info_parts Try.infoE
  have HIE := hide hi
  have HZE0 := hide hz0
  have HZE1 := hide hz1
  have HZE2 := hide hz2
  clear hi hz0 hz1 hz2
  obtain ⟨iF, hi, hz0, hz1, hz2⟩ := info_parts Try.infoF
  have HIF := hide hi
  have HZF0 := hide hz0
  have HZF1 := hide hz1
  have HZF2 := hide hz2
  clear hi hz0 hz1 hz2
  have RA0 := hide ra0
  have RB0 := hide rb0
  have RA1 := hide ra1
  have RB1 := hide rb1
  have NA0 := hide na0
  have NB0 := hide nb0
  have NA1 := hide na1
  have NB1 := hide nb1
  clear ra0 rb0 ra1 rb1 na0 nb0 na1 nb1 wt0 wc0 wt1 wc1
  unfold frV
  go_enter Try.func3, Try.ntmps3
  go_wp2_with fail
  refine (awake_any _).mono ?_
  rintro e w1 ⟨rfl, hb1⟩
  obtain ⟨Bf, hBf⟩ : ∃ Bf, Bf = w.heap.size := ⟨_, rfl⟩
  have HW1 : Hid (Below w.heap.size w w1) := by
    refine Below.trans ?_ (hb1.mono (by simp; omega))
    exact (below_box w _).alloc (by simp) _
  have HF1 : Hid (FB4 w1 Bf (.int .i64 ty0) (.int .i64 ch0) (.slice a0 n0 c0) (.slice b0 m0 e0)) := by
    rw [hBf]
    exact (hb1.block _ (by simp; omega)).trans ((heap_alloc_old _ _ (by simp)).trans (heap_alloc_new _ _))
  have HG1 : Hid (FB4 w1 (Bf + 1) (.int .i64 ty1) (.int .i64 ch1) (.slice a1 n1 c1) (.slice b1 m1 e1)) := by
    rw [hBf]
    refine (hb1.block _ (by simp)).trans ?_
    have h := heap_alloc_new (w.alloc (.cells #[.int .i64 ty0, .int .i64 ch0, .slice a0 n0 c0, .slice b0 m0 e0] 24)) (.cells #[.int .i64 ty1, .int .i64 ch1, .slice a1 n1 c1, .slice b1 m1 e1] 24)
    simpa using h
  have hs1 : Bf + 2 ≤ w1.heap.size := by have := hb1.size; simp at this; omega
  have HBF := hide hBf
  rw [← hBf]
  clear hb1 hBf
  go_wp2_with fail
  have HP1 : Hid (∀ W, Below w1.heap.size w1 W → Calls Try.prog 8 #[.slice a0 n0 c0] W fun e w' => ∃ g c, e = .returned (.slice (some ⟨g, 0, none⟩) n0 c) ∧ Hid (Lentb w' W.heap.size g n0 c x0) ∧ Hid (Below W.heap.size W w')) := fun W h =>
    lent_any a0 n0 c0 x0 W ((RA0.out.below HW1.out).below h) (by omega)
  have HP2 : Hid (∀ W, Below w1.heap.size w1 W → Calls Try.prog 8 #[.slice b0 m0 e0] W fun e w' => ∃ g c, e = .returned (.slice (some ⟨g, 0, none⟩) m0 c) ∧ Hid (Lentb w' W.heap.size g m0 c y0) ∧ Hid (Below W.heap.size W w')) := fun W h =>
    lent_any b0 m0 e0 y0 W ((RB0.out.below HW1.out).below h) (by omega)
  have HH : Hid (∀ W, Below w1.heap.size w1 W → W.cell? ⟨Bf, 0, none⟩ = some (.int .i64 ty0) ∧ W.cell? ⟨Bf, 1, none⟩ = some (.int .i64 ch0) ∧ W.cell? ⟨Bf, 2, none⟩ = some (.slice a0 n0 c0) ∧ W.cell? ⟨Bf, 3, none⟩ = some (.slice b0 m0 e0)) := fun W h =>
    FB4.cells (show FB4 W Bf _ _ _ _ from (h.block Bf (by omega)).trans HF1.out)
  have HBD : Hid (Below w1.heap.size w1 w1.drew) := (Below.refl _ _).drew
  have HBDA : Hid (∀ o, Below w1.heap.size w1 (w1.drew.alloc o)) := fun o => HBD.out.alloc (Nat.le_refl _) o
  go_cut [6] (fun v wx => ∃ bx gx cx gy cy, v = .pointer (some ⟨bx, 0, none⟩) ∧ Hid (FB4 wx bx (.int .i64 ty0) (.int .i64 ch0) (.slice (some ⟨gx, 0, none⟩) n0 cx) (.slice (some ⟨gy, 0, none⟩) m0 cy)) ∧ Hid (Lentb wx w1.heap.size gx n0 cx x0) ∧ Hid (Lentb wx w1.heap.size gy m0 cy y0) ∧ gx ≠ gy ∧ Hid (Below w1.heap.size w1 wx))
  case first =>
    go_region_held3 (fun W => W.cell? ⟨Bf, 0, none⟩ = some (.int .i64 ty0) ∧ W.cell? ⟨Bf, 1, none⟩ = some (.int .i64 ch0) ∧ W.cell? ⟨Bf, 2, none⟩ = some (.slice a0 n0 c0) ∧ W.cell? ⟨Bf, 3, none⟩ = some (.slice b0 m0 e0)) (first | exact HH.out _ HB4.out | exact HH.out _ HB4.out.drew | exact HH.out _ (HB4.out.alloc HZ4.out _) | exact HH.out _ (HB4.out.drew.alloc HZ4.out _) | exact HH.out _ HB3.out | exact HH.out _ HB3.out.drew | exact HH.out _ (HB3.out.alloc HZ3.out _) | exact HH.out _ (HB3.out.drew.alloc HZ3.out _) | exact HH.out _ HBD.out | exact HH.out _ (HBDA.out _) | exact HH.out _ (Below.refl _ _) | exact HH.out _ (below_setAt (below_setAt (below_setAt (below_setAt HB4.out (by have := HZ3.out; omega) 0 _) (by have := HZ3.out; omega) 1 _) (by have := HZ3.out; omega) 2 _) (by have := HZ3.out; omega) 3 _)) ((first
      | (go_at_call 8; have HX3 := HB3; refine Calls.mono (HP2.out _ (by first | exact HX3.out | exact HX3.out.drew | exact HX3.out.alloc HZ3.out _ | exact HX3.out.drew.alloc HZ3.out _)) ?_; rintro e4 w4 ⟨gy, cy, rfl, HG4, HN4⟩; have HB4 : Hid (Below w1.heap.size w1 w4) := Below.trans (by first | exact HX3.out | exact HX3.out.drew | exact HX3.out.alloc HZ3.out _ | exact HX3.out.drew.alloc HZ3.out _) (HN4.out.mono (by have := HZ3.out; simp; omega)); have HZ4 : Hid (w1.heap.size ≤ w4.heap.size) := HB4.out.size; (try have HFY : Hid (FZ w4 _) := FZ.below HFX.out HN4.out (by have := HFX.out.lt; simpa using this)); (try have HFY : Hid (FZ w4 _) := FZ.below (FZ.new _) HN4.out (by simp)); (try have HFY : Hid (FZ w4 _) := FZ.below (FZ.newd _) HN4.out (by simp)); (try obtain ⟨q0, q1, q2, q3, r0, r1, r2, r3⟩ := HFY.out.facts))
      | (go_at_call 8; refine Calls.mono (HP1.out _ (by first | exact HBD.out | exact HBDA.out _ | exact Below.refl _ _)) ?_; rintro e3 w3 ⟨gx, cx, rfl, HG3, HN3⟩; have HB3 : Hid (Below w1.heap.size w1 w3) := Below.trans (by first | exact HBD.out | exact HBDA.out _ | exact Below.refl _ _) (HN3.out.mono (by simp)); have HZ3 : Hid (w1.heap.size ≤ w3.heap.size) := HB3.out.size; (try have HFX : Hid (FZ w3 _) := FZ.below (FZ.new _) HN3.out (by simp)); (try have HFX : Hid (FZ w3 _) := FZ.below (FZ.newd _) HN3.out (by simp)))))
    all_goals (try go_wp2_with fail)
    all_goals go_meet
    all_goals
      have hz3 := HZ3.out
      have hr3 := HG3.out.room
      have hr4 := HG4.out.room
      try simp at hr3
      try simp at hr4
    · have hl3 : Lentb w4 w1.heap.size gx n0 cx x0 := (HG3.out.block (HN4.out.block gx (by first | omega | (simp; omega)))).mono (by simp)
      have hl4 : Lentb w4 w1.heap.size gy m0 cy y0 := HG4.out.mono (by first | omega | (simp; omega))
      obtain ⟨hf, hs⟩ := lay_last w4 (w4.alloc (.cells #[.int .i64 ty0, .int .i64 ch0, .slice (some ⟨gx, 0, none⟩) n0 cx, .slice (some ⟨gy, 0, none⟩) m0 cy] 24)) _ _ _ _ rfl rfl rfl rfl
      exact ⟨_, _, _, _, _, rfl, hide hf, hide (hs.lentb hl3 (by have := hl3.room; omega)), hide (hs.lentb hl4 (by omega)), by omega, hide (hs.below HB4.out HZ4.out HZ4.out)⟩
    · have hl3 : Lentb w4 w1.heap.size gx n0 cx x0 := (HG3.out.block ((HN4.out.block gx (by first | omega | (simp; omega))).trans (heap_alloc_old _ _ (by first | omega | (simp; omega))))).mono (by simp)
      have hl4 : Lentb w4 w1.heap.size gy m0 cy y0 := HG4.out.mono (by first | omega | (simp; omega))
      obtain ⟨hf, hs⟩ := lay_set w4 _ w3.heap.size (.int .i64 ty0) (.int .i64 ch0) (.slice (some ⟨gx, 0, none⟩) n0 cx) (.slice (some ⟨gy, 0, none⟩) m0 cy) HFY.out rfl rfl rfl rfl
      exact ⟨_, _, _, _, _, rfl, hide hf, hide (hs.lentb hl3 (by omega)), hide (hs.lentb hl4 (by omega)), by omega, hide (hs.below HB4.out HZ4.out HZ3.out)⟩
    · have hl3 : Lentb w4 w1.heap.size gx n0 cx x0 := (HG3.out.block (HN4.out.block gx (by first | omega | (simp; omega)))).mono (by simp)
      have hl4 : Lentb w4 w1.heap.size gy m0 cy y0 := HG4.out.mono (by first | omega | (simp; omega))
      obtain ⟨hf, hs⟩ := lay_set w4 _ w1.heap.size (.int .i64 ty0) (.int .i64 ch0) (.slice (some ⟨gx, 0, none⟩) n0 cx) (.slice (some ⟨gy, 0, none⟩) m0 cy) HFY.out rfl rfl rfl rfl
      exact ⟨_, _, _, _, _, rfl, hide hf, hide (hs.lentb hl3 (by omega)), hide (hs.lentb hl4 (by omega)), by omega, hide (hs.below HB4.out HZ4.out (Nat.le_refl _))⟩
  case rest =>
    obtain ⟨bx, gx, cx, gy, cy, rfl, HX2, HLX2, HLY2, hgne, HW2⟩ := hcut
    rename World => w2
    clear HP1 HP2 HH HBD HBDA
    have hs12 := HW2.out.size
    have HF2 : Hid (FB4 w2 Bf (.int .i64 ty0) (.int .i64 ch0) (.slice a0 n0 c0) (.slice b0 m0 e0)) := (HW2.out.block Bf (by omega)).trans HF1.out
    have HG2 : Hid (FB4 w2 (Bf + 1) (.int .i64 ty1) (.int .i64 ch1) (.slice a1 n1 c1) (.slice b1 m1 e1)) := (HW2.out.block (Bf + 1) (by omega)).trans HG1.out
    have HWW2 : Hid (Below w.heap.size w w2) := HW1.out.trans (HW2.out.mono HW1.out.size)
    have HP1 : Hid (∀ W, Below w2.heap.size w2 W → Calls Try.prog 9 #[.slice a0 n0 c0] W fun e w' => ∃ a' c, e = .returned (.slice a' n0 c) ∧ Hid (Rd w' a' n0 (turnB x0)) ∧ Hid (n0 ≤ c ∧ (a' = none → c = 0)) ∧ Hid (∀ b o, a' = some ⟨b, o, none⟩ → W.heap.size ≤ b ∧ b < w'.heap.size) ∧ Hid (Below W.heap.size W w')) := fun W h =>
      (turned_full a0 n0 c0 x0 W ((RA0.out.below HWW2.out).below h) (by omega)).mono (by rintro e w' ⟨a', c, rfl, h1, h2, h3, h4, h5⟩; exact ⟨a', c, rfl, hide h1, hide ⟨h2, h3⟩, hide h4, hide h5⟩)
    have HP2 : Hid (∀ W, Below w2.heap.size w2 W → Calls Try.prog 9 #[.slice b0 m0 e0] W fun e w' => ∃ a' c, e = .returned (.slice a' m0 c) ∧ Hid (Rd w' a' m0 (turnB y0)) ∧ Hid (m0 ≤ c ∧ (a' = none → c = 0)) ∧ Hid (∀ b o, a' = some ⟨b, o, none⟩ → W.heap.size ≤ b ∧ b < w'.heap.size) ∧ Hid (Below W.heap.size W w')) := fun W h =>
      (turned_full b0 m0 e0 y0 W ((RB0.out.below HWW2.out).below h) (by omega)).mono (by rintro e w' ⟨a', c, rfl, h1, h2, h3, h4, h5⟩; exact ⟨a', c, rfl, hide h1, hide ⟨h2, h3⟩, hide h4, hide h5⟩)
    have HH : Hid (∀ W, Below w2.heap.size w2 W → W.cell? ⟨Bf, 0, none⟩ = some (.int .i64 ty0) ∧ W.cell? ⟨Bf, 1, none⟩ = some (.int .i64 ch0) ∧ W.cell? ⟨Bf, 2, none⟩ = some (.slice a0 n0 c0) ∧ W.cell? ⟨Bf, 3, none⟩ = some (.slice b0 m0 e0)) := fun W h =>
      FB4.cells (show FB4 W Bf _ _ _ _ from (h.block Bf (by omega)).trans HF2.out)
    have HBD : Hid (Below w2.heap.size w2 w2.drew) := (Below.refl _ _).drew
    have HBDA : Hid (∀ o, Below w2.heap.size w2 (w2.drew.alloc o)) := fun o => HBD.out.alloc (Nat.le_refl _) o
    go_wp2_with fail
    go_cut [7] (fun v wx => ∃ bt at' ct au cu, v = .pointer (some ⟨bt, 0, none⟩) ∧ Hid (FB4 wx bt (.int .i64 ty0) (.int .i64 ch0) (.slice at' n0 ct) (.slice au m0 cu)) ∧ Hid (Rd wx at' n0 (turnB x0)) ∧ Hid (Rd wx au m0 (turnB y0)) ∧ Hid (n0 ≤ ct ∧ (at' = none → ct = 0)) ∧ Hid (m0 ≤ cu ∧ (au = none → cu = 0)) ∧ Hid (∀ b o, at' = some ⟨b, o, none⟩ ∨ au = some ⟨b, o, none⟩ → w2.heap.size ≤ b) ∧ Hid (w2.heap.size ≤ bt) ∧ Hid (Below w2.heap.size w2 wx))
    case first =>
      go_region_held3 (fun W => W.cell? ⟨Bf, 0, none⟩ = some (.int .i64 ty0) ∧ W.cell? ⟨Bf, 1, none⟩ = some (.int .i64 ch0) ∧ W.cell? ⟨Bf, 2, none⟩ = some (.slice a0 n0 c0) ∧ W.cell? ⟨Bf, 3, none⟩ = some (.slice b0 m0 e0)) (first | exact HH.out _ HB4.out | exact HH.out _ HB4.out.drew | exact HH.out _ (HB4.out.alloc HZ4.out _) | exact HH.out _ (HB4.out.drew.alloc HZ4.out _) | exact HH.out _ HB3.out | exact HH.out _ HB3.out.drew | exact HH.out _ (HB3.out.alloc HZ3.out _) | exact HH.out _ (HB3.out.drew.alloc HZ3.out _) | exact HH.out _ HBD.out | exact HH.out _ (HBDA.out _) | exact HH.out _ (Below.refl _ _) | exact HH.out _ (below_setAt (below_setAt (below_setAt (below_setAt HB4.out (by have := HZ3.out; omega) 0 _) (by have := HZ3.out; omega) 1 _) (by have := HZ3.out; omega) 2 _) (by have := HZ3.out; omega) 3 _)) ((first
        | (go_at_call 9; have HX3 := HB3; refine Calls.mono (HP2.out _ (by first | exact HX3.out | exact HX3.out.drew | exact HX3.out.alloc HZ3.out _ | exact HX3.out.drew.alloc HZ3.out _)) ?_; rintro e4 w4 ⟨au, cu, rfl, HG4, HC4, HD4, HN4⟩; have HB4 : Hid (Below w2.heap.size w2 w4) := Below.trans (by first | exact HX3.out | exact HX3.out.drew | exact HX3.out.alloc HZ3.out _ | exact HX3.out.drew.alloc HZ3.out _) (HN4.out.mono (by have := HZ3.out; simp; omega)); have HZ4 : Hid (w2.heap.size ≤ w4.heap.size) := HB4.out.size; (try have HFY : Hid (FZ w4 _) := FZ.below HFX.out HN4.out (by have := HFX.out.lt; simpa using this)); (try have HFY : Hid (FZ w4 _) := FZ.below (FZ.new _) HN4.out (by simp)); (try have HFY : Hid (FZ w4 _) := FZ.below (FZ.newd _) HN4.out (by simp)); (try obtain ⟨q0, q1, q2, q3, r0, r1, r2, r3⟩ := HFY.out.facts))
        | (go_at_call 9; refine Calls.mono (HP1.out _ (by first | exact HBD.out | exact HBDA.out _ | exact Below.refl _ _)) ?_; rintro e3 w3 ⟨at', ct, rfl, HG3, HC3, HD3, HN3⟩; have HB3 : Hid (Below w2.heap.size w2 w3) := Below.trans (by first | exact HBD.out | exact HBDA.out _ | exact Below.refl _ _) (HN3.out.mono (by simp)); have HZ3 : Hid (w2.heap.size ≤ w3.heap.size) := HB3.out.size; (try have HFX : Hid (FZ w3 _) := FZ.below (FZ.new _) HN3.out (by simp)); (try have HFX : Hid (FZ w3 _) := FZ.below (FZ.newd _) HN3.out (by simp)))))
      all_goals (try go_wp2_with fail)
      all_goals go_meet
      all_goals
        have hz3 := HZ3.out
        have hn3 := HN3.out.size
        try simp at hn3
        have hd3 := HD3.out
        have hd4 := HD4.out
        try simp at hd3
        try simp at hd4
      · have hl3 : Rd w4 at' n0 (turnB x0) := HG3.out.below (below_alike (w' := w3) (Below.refl _ _) rfl rfl rfl rfl |>.trans HN4.out)
        obtain ⟨hf, hs⟩ := lay_last w4 (w4.alloc (.cells #[.int .i64 ty0, .int .i64 ch0, .slice at' n0 ct, .slice au m0 cu] 24)) _ _ _ _ rfl rfl rfl rfl
        exact ⟨_, _, _, _, _, rfl, hide hf, hide (hs.rd hl3 (fun b o h => by have := hd3 b o h; have hzz := HN4.out.size; (try simp at hzz); omega)), hide (hs.rd HG4.out (fun b o h => by have := hd4 b o h; omega)), HC3, HC4, hide (fun b o h => h.elim (fun h => by have := hd3 b o h; omega) (fun h => by have := hd4 b o h; omega)), hide HZ4.out, hide (hs.below HB4.out HZ4.out HZ4.out)⟩
      · have hl3 : Rd w4 at' n0 (turnB x0) := HG3.out.below ((below_box w3 _).trans (HN4.out.mono (by simp)))
        obtain ⟨hf, hs⟩ := lay_set w4 _ w3.heap.size (.int .i64 ty0) (.int .i64 ch0) (.slice at' n0 ct) (.slice au m0 cu) HFY.out rfl rfl rfl rfl
        exact ⟨_, _, _, _, _, rfl, hide hf, hide (hs.rd hl3 (fun b o h => by have := hd3 b o h; omega)), hide (hs.rd HG4.out (fun b o h => by have := hd4 b o h; omega)), HC3, HC4, hide (fun b o h => h.elim (fun h => by have := hd3 b o h; omega) (fun h => by have := hd4 b o h; omega)), hide HZ3.out, hide (hs.below HB4.out HZ4.out HZ3.out)⟩
      · have hl3 : Rd w4 at' n0 (turnB x0) := HG3.out.below (below_alike (w' := w3) (Below.refl _ _) rfl rfl rfl rfl |>.trans HN4.out)
        obtain ⟨hf, hs⟩ := lay_set w4 _ w2.heap.size (.int .i64 ty0) (.int .i64 ch0) (.slice at' n0 ct) (.slice au m0 cu) HFY.out rfl rfl rfl rfl
        exact ⟨_, _, _, _, _, rfl, hide hf, hide (hs.rd hl3 (fun b o h => by have := hd3 b o h; omega)), hide (hs.rd HG4.out (fun b o h => by have := hd4 b o h; omega)), HC3, HC4, hide (fun b o h => h.elim (fun h => by have := hd3 b o h; omega) (fun h => by have := hd4 b o h; omega)), hide (Nat.le_refl _), hide (hs.below HB4.out HZ4.out (Nat.le_refl _))⟩
    case rest =>
      obtain ⟨bt, at', ct, au, cu, rfl, HT3, HRT3, HRU3, HCT, HCU, HAU, HBT, HW3⟩ := hcut
      rename World => w3
      clear HP1 HP2 HH HBD HBDA
      have hs23 := HW3.out.size
      have HF3 : Hid (FB4 w3 Bf (.int .i64 ty0) (.int .i64 ch0) (.slice a0 n0 c0) (.slice b0 m0 e0)) := (HW3.out.block Bf (by omega)).trans HF2.out
      have HG3 : Hid (FB4 w3 (Bf + 1) (.int .i64 ty1) (.int .i64 ch1) (.slice a1 n1 c1) (.slice b1 m1 e1)) := (HW3.out.block (Bf + 1) (by omega)).trans HG2.out
      have hbx2 : bx < w2.heap.size := (Array.getElem?_eq_some_iff.1 HX2.out).1
      have hbt3 : bt < w3.heap.size := (Array.getElem?_eq_some_iff.1 HT3.out).1
      have HX3 : Hid (FB4 w3 bx (.int .i64 ty0) (.int .i64 ch0) (.slice (some ⟨gx, 0, none⟩) n0 cx) (.slice (some ⟨gy, 0, none⟩) m0 cy)) := (HW3.out.block bx hbx2).trans HX2.out
      obtain ⟨hncx, hgx1, hgx2⟩ := HLX2.out.room
      obtain ⟨hmcy, hgy1, hgy2⟩ := HLY2.out.room
      have HLX3 : Hid (Lentb w3 w1.heap.size gx n0 cx x0) := HLX2.out.below HW3.out
      have HLY3 : Hid (Lentb w3 w1.heap.size gy m0 cy y0) := HLY2.out.below HW3.out
      have HWW3 : Hid (Below w.heap.size w w3) := HWW2.out.trans (HW3.out.mono HWW2.out.size)
      obtain ⟨f0, f1, f2, f3⟩ := HF3.out.cells
      obtain ⟨g0, g1, g2, g3⟩ := HG3.out.cells
      go_wp2
      clear f0 f1 f2 f3 g0 g1 g2 g3
      obtain ⟨ga, hga⟩ : ∃ ga, ga = w3.heap.size := ⟨_, rfl⟩
      obtain ⟨askA, haskA⟩ : ∃ askA : Array Value, askA = #[.int .i64 ty0, .int .i64 ch0, .slice a0 n0 c0, .slice b0 m0 e0, .int .i64 ty1, .int .i64 ch1, .slice a1 n1 c1, .slice b1 m1 e1, .int .i64 ty0, .int .i64 ch0, .slice a0 n0 c0, .slice b0 m0 e0, .int .i64 ty0, .int .i64 ch0, .slice a0 n0 c0, .slice b0 m0 e0] := ⟨_, rfl⟩
      obtain ⟨W5, hW5⟩ : ∃ W5, W5 = w3.alloc (.cells askA 24) := ⟨_, rfl⟩
      obtain ⟨W6, hW6⟩ : ∃ W6, W6 = W5.alloc (.cells #[.slice none 0 0] 31) := ⟨_, rfl⟩
      have hz5 : W5.heap.size = ga + 1 := by rw [hW5, hga]; simp
      have HB35 : Hid (Below w3.heap.size w3 W5) := by rw [hW5]; exact below_box w3 _
      have HASK : Hid (W5.ownsRow ga 24 4 (.slice (some ⟨ga, 0, none⟩) 4 4) 4 askA.toList) := by
        refine ⟨by rw [haskA]; rfl, .inr ⟨ga, 4, askA, rfl, Nat.le_refl _, ?_, Nat.le_refl _, by decide, by rw [haskA]; rfl, by rw [haskA]; rfl⟩⟩
        rw [hW5, hga]
        exact heap_alloc_new _ _
      have HST0 : Hid (St W5 W6 (ga + 1) 0 (.slice none 0 0) [] [] 0 (.slice none 0 0) []) := by
        refine ⟨?_, World.ownsRow_nil _ _ _ _, Ents.nil _ _, World.ownsRow_nil _ _ _ _, ?_, ?_⟩
        · rw [hW6, ← hz5]; exact heap_alloc_new _ _
        · rw [hW6, ← hz5]; exact below_box W5 _
        · rw [hW6, ← hz5]; simp
      rw [← haskA, ← hW5, ← hW6, ← hga]
      have HASKA := hide haskA
      have HZ5 := hide hz5
      have hgx3 : gx < ga := by omega
      have hbxga : bx < ga := by omega
      have hbtga : bt < ga := by omega
      have hBfga : Bf + 1 < ga := by omega
      have hwga : w.heap.size ≤ ga := by have := HWW3.out.size; omega
      have HB35g : Hid (Below ga w3 W5) := by rw [hga]; exact HB35.out
      have hgy3 : gy < ga := by omega
      have HGA := hide hga
      clear haskA hW5 hW6 hz5 hga
      obtain ⟨L0, hL0⟩ : ∃ L0, L0 = seB ty0 ch0 x0 y0 := ⟨_, rfl⟩
      obtain ⟨N0, hN0⟩ : ∃ N0, N0 = L0.length := ⟨_, rfl⟩
      obtain ⟨E0, hE0⟩ : ∃ E0, E0 = sealE ty0 ch0 n0 m0 := ⟨_, rfl⟩
      obtain ⟨L1, hL1⟩ : ∃ L1, L1 = seB ty1 ch1 x1 y1 := ⟨_, rfl⟩
      obtain ⟨N1, hN1⟩ : ∃ N1, N1 = L1.length := ⟨_, rfl⟩
      obtain ⟨E1, hE1⟩ : ∃ E1, E1 = sealE ty1 ch1 n1 m1 := ⟨_, rfl⟩
      have HLT0 : Hid (∀ c ∈ L0, c < 256) := by rw [hL0]; exact seB_lt RA0.out.2.1 RB0.out.2.1
      have HLT1 : Hid (∀ c ∈ L1, c < 256) := by rw [hL1]; exact seB_lt RA1.out.2.1 RB1.out.2.1
      have HW35 : Hid (Below w.heap.size w W5) := HWW3.out.trans (HB35.out.mono HWW3.out.size)
      have HS0 : Hid (∀ W, Below (ga + 1) W5 W → Calls Try.prog 10 #[.agg #[.int .i64 ty0, .int .i64 ch0, .slice (some ⟨gx, 0, none⟩) n0 cx, .slice (some ⟨gy, 0, none⟩) m0 cy]] W fun e w' => ∃ o : Option Nat, e = .returned (.tuple #[.slice (o.map (fun g => (⟨g, 0, none⟩ : Addr))) N0 N0, .int .i64 E0]) ∧ (o = none → L0 = []) ∧ (∀ g, o = some g → W.heap.size ≤ g ∧ Bl w' g L0) ∧ Below W.heap.size W w') := fun W h => by
        have h1 : Rd W (some ⟨gx, 0, none⟩) n0 x0 := (HLX3.out.rd.below HB35.out).below (by rw [HZ5.out]; exact h)
        have h2 : Rd W (some ⟨gy, 0, none⟩) m0 y0 := (HLY3.out.rd.below HB35.out).below (by rw [HZ5.out]; exact h)
        have := seal_any ty0 ch0 _ n0 cx _ m0 cy x0 y0 W h1 h2 (by omega) (by omega)
        rw [← hL0, ← hN0, ← hE0] at this
        exact this
      have HS1 : Hid (∀ W, Below (ga + 1) W5 W → Calls Try.prog 10 #[.agg #[.int .i64 ty1, .int .i64 ch1, .slice a1 n1 c1, .slice b1 m1 e1]] W fun e w' => ∃ o : Option Nat, e = .returned (.tuple #[.slice (o.map (fun g => (⟨g, 0, none⟩ : Addr))) N1 N1, .int .i64 E1]) ∧ (o = none → L1 = []) ∧ (∀ g, o = some g → W.heap.size ≤ g ∧ Bl w' g L1) ∧ Below W.heap.size W w') := fun W h => by
        have hb : Below w.heap.size w W := HW35.out.trans (h.mono (by omega))
        have := seal_any ty1 ch1 _ n1 c1 _ m1 e1 x1 y1 W (RA1.out.below hb) (RB1.out.below hb) (by omega) (by omega)
        rw [← hL1, ← hN1, ← hE1] at this
        exact this
      have hN0s : N0 ≤ 1048576 := by rw [hN0, hL0]; exact seB_length _ _ _ _
      have hN1s : N1 ≤ 1048576 := by rw [hN1, hL1]; exact seB_length _ _ _ _
      have HL0 := hide hL0
      have HN0 := hide hN0
      have HE0 := hide hE0
      have HL1 := hide hL1
      have HN1 := hide hN1
      have HE1 := hide hE1
      clear hL0 hN0 hE0 hL1 hN1 hE1
      have HBXW : Hid (∀ W, Below (ga + 1) W5 W → FB4 W bx (.int .i64 ty0) (.int .i64 ch0) (.slice (some ⟨gx, 0, none⟩) n0 cx) (.slice (some ⟨gy, 0, none⟩) m0 cy)) := fun W h => (h.block bx (by omega)).trans ((HB35g.out.block bx (by omega)).trans HX3.out)
      have HBGW : Hid (∀ W, Below (ga + 1) W5 W → FB4 W (Bf + 1) (.int .i64 ty1) (.int .i64 ch1) (.slice a1 n1 c1) (.slice b1 m1 e1)) := fun W h => (h.block (Bf + 1) (by omega)).trans ((HB35g.out.block (Bf + 1) (by omega)).trans HG3.out)
      go_loopw [10, 11] (fun cv i wr => ∃ (k : Nat) (es : List (Option Nat × List Nat)) (v : Value), k ≤ 4 ∧ i = .int .i64 k ∧ Hid (es.length = k) ∧ Hid (∀ j (h : j < es.length), es[j].2 = if j = 1 then L1 else L0) ∧ Hid (St W5 wr (ga + 1) k v (es.map ev) es k cv ((List.range k).map (fun j => .int .i64 (if j = 1 then E1 else E0))))) (fun _ i _ => 4 - (intOf i).toNat)
      case atStart => exact ⟨0, [], _, Nat.zero_le _, rfl, hide rfl, hide (fun j h => by simp at h), HST0⟩
      case round =>
        obtain ⟨k, es, v, hk, rfl, HLE, HES, HST⟩ := hrel
        by_cases hk4 : k < 4
        · have hk4' : (k : Int) < 4 := by omega
          have HBW := hide HST.out.2.2.2.2.1
          obtain ⟨x0', x1', x2', x3'⟩ := (HBXW.out _ HBW.out).cells
          obtain ⟨z0', z1', z2', z3'⟩ := (HBGW.out _ HBW.out).cells
          have hbl : Bf + 1 < wr.heap.size := by have := HST.out.2.2.2.2.2; omega
          clear hs1 hs12 hs23 hbx2 hbt3 hgx1 hgx2 hgy1 hgy2 hncx hmcy la0 lb0 la1 lb1 za0 zb0 za1 zb1 hwga hgx3 hgy3 hbxga hbtga hBfga hgne
          by_cases hk1 : k = 1
          · have HK1 := hide hk1
            have hk1' : (k : Int) = 1 := by omega
            clear hk1
            have HSY := hide (HST.out.below (below_box wr (.cells #[.int .i64 ty1, .int .i64 ch1, .slice a1 n1 c1, .slice b1 m1 e1] 24)))
            go_wp2_with fail
            clear hk1'
            refine (HS1.out _ HSY.out.2.2.2.2.1).mono ?_
            rintro e wa ⟨o, rfl, h1, h2, h3⟩
            clear hbl x0' x1' x2' x3' z0' z1' z2' z3'
            have HSA := hide (St.call HSY.out h3 h1 HLT1.out h2)
            have hcb := (cell_of_blk HSA.out.1).1
            have hfb := (cell_of_blk HSA.out.1).2
            have hsa := HSA.out.2.2.2.2.2
            clear h1 h2 h3
            obtain ⟨A, hA⟩ : ∃ A, A = o.map (fun g => (⟨g, 0, none⟩ : Addr)) := ⟨_, rfl⟩
            rw [← hA]
            have HAE := hide hA
            clear hA
            go_wp2_with (first
              | (at_builtin; refine wpList_append_new _ rfl (.tmp 73) (.tmp 75) 29 rfl (ga + 1) 22 i0 (.slice none 0 0) 24 Try.underlying29 HI.out HZ0.out HZ1.out HZ2.out rfl _ k _ rfl (HSA.out.2.1.alloc _) ⟨wa.heap.size, 0, none⟩ 1 (.slice A N1 N1) rfl (cell_new1 _ _ _) rfl (by unfold maxLen; omega) (by omega) (by simp; omega) ?_; intro v' wb r1 r2 r3; have HSB := hide (St.book HSA.out r1 r2); have hcb3 := (cell_of_blk HSB.out.2).1; have hfb3 := (cell_of_blk HSB.out.2).2; obtain ⟨gn, cn, rfl, hbg, hglt⟩ := own_shape r1 (Nat.succ_pos k); clear r1 r2 r3 hcb hfb)
              | (at_builtin; refine wpList_append_new _ rfl (.tmp 79) (.tmp 81) 32 rfl (ga + 1) 33 iE (.int .i64 0) 8 Try.underlying32 HIE.out HZE0.out HZE1.out HZE2.out rfl _ k _ rfl (HSB.out.1.2.2.2.1.alloc _) ⟨wb.heap.size, 0, none⟩ 1 (.int .i64 E1) rfl (cell_newS _ _ _ _ _) rfl (by unfold maxLen; omega) (by omega) (by have hq := HSB.out.1.2.2.2.2.2; simp at hq ⊢; omega) ?_; intro cv' wd r1 r2 r3; have HSC := hide (St.code HSB.out.1 r1 r2); clear r1 r2 r3))
            go_roundw
            case rel =>
              refine ⟨k + 1, es ++ [(o, L1)], .slice (some ⟨gn, 0, none⟩) (k + 1) cn, by omega, by go_num, hide (by simp [HLE.out]), hide (fun j hj => ?_), hide ?_⟩
              · by_cases hjl : j < es.length
                · rw [List.getElem_append_left hjl]; exact HES.out j hjl
                · have hje : j = es.length := by simp at hj; omega
                  subst hje
                  rw [List.getElem_append_right (Nat.le_refl _)]
                  simp only [Nat.sub_self, List.getElem_cons_zero]
                  rw [HLE.out]
                  simp [HK1.out]
              · rw [List.map_append, List.range_succ, List.map_append]
                have hh := HSC.out
                rw [HN1.out] at hh
                simpa [ev, HAE.out, HK1.out] using hh
            case measure => simp [intOf]; omega
          · have hk1' : ¬ (k : Int) = 1 := by omega
            have HSY := hide (HST.out.below (below_box wr (.cells #[.int .i64 ty0, .int .i64 ch0, .slice (some ⟨gx, 0, none⟩) n0 cx, .slice (some ⟨gy, 0, none⟩) m0 cy] 24)))
            go_wp2_with fail
            refine (HS0.out _ HSY.out.2.2.2.2.1).mono ?_
            rintro e wa ⟨o, rfl, h1, h2, h3⟩
            clear hbl x0' x1' x2' x3' z0' z1' z2' z3'
            have HSA := hide (St.call HSY.out h3 h1 HLT0.out h2)
            have hcb := (cell_of_blk HSA.out.1).1
            have hfb := (cell_of_blk HSA.out.1).2
            have hsa := HSA.out.2.2.2.2.2
            clear h1 h2 h3
            obtain ⟨A, hA⟩ : ∃ A, A = o.map (fun g => (⟨g, 0, none⟩ : Addr)) := ⟨_, rfl⟩
            rw [← hA]
            have HAE := hide hA
            clear hA
            go_wp2_with (first
              | (at_builtin; refine wpList_append_new _ rfl (.tmp 73) (.tmp 75) 29 rfl (ga + 1) 22 i0 (.slice none 0 0) 24 Try.underlying29 HI.out HZ0.out HZ1.out HZ2.out rfl _ k _ rfl (HSA.out.2.1.alloc _) ⟨wa.heap.size, 0, none⟩ 1 (.slice A N0 N0) rfl (cell_new1 _ _ _) rfl (by unfold maxLen; omega) (by omega) (by simp; omega) ?_; intro v' wb r1 r2 r3; have HSB := hide (St.book HSA.out r1 r2); have hcb3 := (cell_of_blk HSB.out.2).1; have hfb3 := (cell_of_blk HSB.out.2).2; obtain ⟨gn, cn, rfl, hbg, hglt⟩ := own_shape r1 (Nat.succ_pos k); clear r1 r2 r3 hcb hfb)
              | (at_builtin; refine wpList_append_new _ rfl (.tmp 79) (.tmp 81) 32 rfl (ga + 1) 33 iE (.int .i64 0) 8 Try.underlying32 HIE.out HZE0.out HZE1.out HZE2.out rfl _ k _ rfl (HSB.out.1.2.2.2.1.alloc _) ⟨wb.heap.size, 0, none⟩ 1 (.int .i64 E0) rfl (cell_newS _ _ _ _ _) rfl (by unfold maxLen; omega) (by omega) (by have hq := HSB.out.1.2.2.2.2.2; simp at hq ⊢; omega) ?_; intro cv' wd r1 r2 r3; have HSC := hide (St.code HSB.out.1 r1 r2); clear r1 r2 r3))
            go_roundw
            case rel =>
              refine ⟨k + 1, es ++ [(o, L0)], .slice (some ⟨gn, 0, none⟩) (k + 1) cn, by omega, by go_num, hide (by simp [HLE.out]), hide (fun j hj => ?_), hide ?_⟩
              · by_cases hjl : j < es.length
                · rw [List.getElem_append_left hjl]; exact HES.out j hjl
                · have hje : j = es.length := by simp at hj; omega
                  subst hje
                  rw [List.getElem_append_right (Nat.le_refl _)]
                  simp only [Nat.sub_self, List.getElem_cons_zero]
                  rw [HLE.out]
                  simp [hk1]
              · rw [List.map_append, List.range_succ, List.map_append]
                have hh := HSC.out
                rw [HN0.out] at hh
                simpa [ev, HAE.out, hk1] using hh
            case measure => simp [intOf]; omega
        · have HK4 : Hid (k = 4) := by show _ = _; omega
          have HLE4 : Hid (es.length = 4) := by have := HLE.out; rw [HK4.out] at this; exact this
          have HST4 : Hid (St W5 wr (ga + 1) 4 v (es.map ev) es 4 u10 ((List.range 4).map (fun j => .int .i64 (if j = 1 then E1 else E0)))) := by have := HST.out; rw [HK4.out] at this; exact this
          clear HLE HST
          have HBW := hide HST4.out.2.2.2.2.1
          have HB3r : Hid (Below ga w3 wr) := HB35g.out.trans (HBW.out.mono (by omega))
          have HXr : Hid (FB4 wr bx (.int .i64 ty0) (.int .i64 ch0) (.slice (some ⟨gx, 0, none⟩) n0 cx) (.slice (some ⟨gy, 0, none⟩) m0 cy)) := (HB3r.out.block bx hbxga).trans HX3.out
          have HTr : Hid (FB4 wr bt (.int .i64 ty0) (.int .i64 ch0) (.slice at' n0 ct) (.slice au m0 cu)) := (HB3r.out.block bt hbtga).trans HT3.out
          have HB3r' : Hid (Below w3.heap.size w3 wr) := by rw [← HGA.out]; exact HB3r.out
          have HLXr : Hid (Lentb wr w1.heap.size gx n0 cx x0) := HLX3.out.below HB3r'.out
          have HLYr : Hid (Lentb wr w1.heap.size gy m0 cy y0) := HLY3.out.below HB3r'.out
          have HRTr : Hid (Rd wr at' n0 (turnB x0)) := HRT3.out.below HB3r'.out
          have HRUr : Hid (Rd wr au m0 (turnB y0)) := HRU3.out.below HB3r'.out
          have hszr : ga + 2 ≤ wr.heap.size := HST4.out.2.2.2.2.2
          have HB1r : Hid (Below w1.heap.size w1 wr) := (HW2.out.trans (HW3.out.mono hs12)).trans (HB3r'.out.mono (by omega))
          have hln0 : (turnB x0).length = n0 := by rw [turnB_length]; exact RA0.out.1
          have hlm0 : (turnB y0).length = m0 := by rw [turnB_length]; exact RB0.out.1
          obtain ⟨wk1, hrun1, hl1, hb1, hz1, hk1⟩ := copy_lent wr w1 w1.heap.size gx n0 cx ct at' x0 (turnB x0) 3 HLXr.out HRTr.out HB1r.out
          have HLY1 : Hid (Lentb wk1 w1.heap.size gy m0 cy y0) := HLYr.out.block (hk1 gy (fun e => hgne e.symm))
          have HRT1 : Hid (Rd wk1 at' n0 (turnB x0)) := rd_other HRTr.out hk1 (fun b o h => by have := HAU.out b o (.inl h); omega) (by omega)
          have HRU1 : Hid (Rd wk1 au m0 (turnB y0)) := rd_other HRUr.out hk1 (fun b o h => by have := HAU.out b o (.inr h); omega) (by omega)
          obtain ⟨wk2, hrun2, hl2, hb2, hz2, hk2⟩ := copy_lent wk1 w1 w1.heap.size gy m0 cy cu au y0 (turnB y0) 3 HLY1.out HRU1.out hb1
          have HLX2' : Hid (Lentb wk2 w1.heap.size gx n0 cx (turnB x0)) := hl1.block (hk2 gx hgne)
          have HLY2' : Hid (Lentb wk2 w1.heap.size gy m0 cy (turnB y0)) := hl2
          have HRT2 : Hid (Rd wk2 at' n0 (turnB x0)) := rd_other HRT1.out hk2 (fun b o h => by have := HAU.out b o (.inl h); omega) (by omega)
          have HRU2 : Hid (Rd wk2 au m0 (turnB y0)) := rd_other HRU1.out hk2 (fun b o h => by have := HAU.out b o (.inr h); omega) (by omega)
          have HK12 : Hid (∀ k, k ≠ gx → k ≠ gy → wk2.heap[k]? = wr.heap[k]?) := fun k h1 h2 => (hk2 k h2).trans (hk1 k h1)
          have hnx := HLXr.out.ne HXr.out
          have hny := HLYr.out.ne HXr.out
          have htx := HLXr.out.ne HTr.out
          have hty := HLYr.out.ne HTr.out
          have HX2' : Hid (FB4 wk2 bx (.int .i64 ty0) (.int .i64 ch0) (.slice (some ⟨gx, 0, none⟩) n0 cx) (.slice (some ⟨gy, 0, none⟩) m0 cy)) := (HK12.out bx hnx hny).trans HXr.out
          have HT2' : Hid (FB4 wk2 bt (.int .i64 ty0) (.int .i64 ch0) (.slice at' n0 ct) (.slice au m0 cu)) := (HK12.out bt htx hty).trans HTr.out
          have HX1' : Hid (FB4 wk1 bx (.int .i64 ty0) (.int .i64 ch0) (.slice (some ⟨gx, 0, none⟩) n0 cx) (.slice (some ⟨gy, 0, none⟩) m0 cy)) := (hk1 bx hnx).trans HXr.out
          have HT1' : Hid (FB4 wk1 bt (.int .i64 ty0) (.int .i64 ch0) (.slice at' n0 ct) (.slice au m0 cu)) := (hk1 bt htx).trans HTr.out
          have hszk : wk2.heap.size = wr.heap.size := by omega
          have HSTK : Hid (St wk2 wk2 (ga + 1) 4 v (es.map ev) es 4 u10 ((List.range 4).map (fun j => .int .i64 (if j = 1 then E1 else E0)))) := HST4.out.other (fun k hk _ => HK12.out k (by omega) (by omega)) (by omega)
          have HASKK : Hid (wk2.ownsRow ga 24 4 (.slice (some ⟨ga, 0, none⟩) 4 4) 4 askA.toList) := own_keep (own_keep HASK.out (fun g cs hg h => by
            have hlt := (Array.getElem?_eq_some_iff.1 h).1
            exact (HBW.out.block g (by have := HZ5.out; omega)).trans h)) (fun g cs hg h => (HK12.out g (by omega) (by omega)).trans h)
          have HWK : Hid (Below w.heap.size w wk2) := HW1.out.trans (hb2.mono HW1.out.size)
          have HKS : Hid (wk2.heap.size = wr.heap.size) := hszk
          have HE2 : Hid (sealE ty0 ch0 n0 m0 = E0) := HE0.out.symm
          obtain ⟨L2, hL2⟩ : ∃ L2, L2 = seB ty0 ch0 (turnB x0) (turnB y0) := ⟨_, rfl⟩
          obtain ⟨N2, hN2⟩ : ∃ N2, N2 = L2.length := ⟨_, rfl⟩
          have HLT2 : Hid (∀ c ∈ L2, c < 256) := by rw [hL2]; exact seB_lt (turnB_lt RA0.out.2.1) (turnB_lt RB0.out.2.1)
          have HS2 := hide (seal_any ty0 ch0 _ n0 cx _ m0 cy (turnB x0) (turnB y0) wk2 HLX2'.out.rd HLY2'.out.rd (by omega) (by omega))
          rw [← hL2, ← hN2, HE2.out] at HS2
          unfold frV at HS2
          have hN2s : N2 ≤ 1048576 := by rw [hN2, hL2]; exact seB_length _ _ _ _
          have HL2 := hide hL2
          have HN2 := hide hN2
          clear hL2 hN2
          obtain ⟨x0', x1', x2', x3'⟩ := HXr.out.cells
          obtain ⟨t0', t1', t2', t3'⟩ := HTr.out.cells
          obtain ⟨p0', p1', p2', p3'⟩ := HX1'.out.cells
          obtain ⟨q0', q1', q2', q3'⟩ := HT1'.out.cells
          obtain ⟨s0', s1', s2', s3'⟩ := HX2'.out.cells
          have hwz1 := HW1.out.size
          have HIN : Hid (n0 ≤ cx ∧ m0 ≤ cy ∧ n0 ≤ 140737488351232 ∧ m0 ≤ 140737488351232 ∧ n1 ≤ 140737488351232 ∧ m1 ≤ 140737488351232 ∧ w1.heap.size ≤ w2.heap.size ∧ w2.heap.size ≤ ga ∧ gx < w2.heap.size ∧ gy < w2.heap.size ∧ gx ≠ gy ∧ bx < ga ∧ bt < ga ∧ bx ≠ gx ∧ bx ≠ gy ∧ bt ≠ gx ∧ bt ≠ gy ∧ w.heap.size ≤ ga ∧ Bf + 1 < ga ∧ w1.heap.size ≤ gx ∧ w1.heap.size ≤ gy ∧ w.heap.size ≤ w1.heap.size) := hide (by have := HGA.out; omega)
          have hk4' : ¬ (k : Int) < 4 := by omega
          clear hs1 hs12 hs23 hbx2 hbt3 hgx1 hgx2 hgy1 hgy2 hncx hmcy la0 lb0 la1 lb1 za0 zb0 za1 zb1 hwga hgx3 hgy3 hbxga hbtga hBfga hgne hnx hny htx hty hz1 hz2 hszk hk1 hk2 hl1 hl2 hb1 hb2 hk4 hk hln0 hlm0 hwz1
          go_wp2_with fail
          clear hk4' x0' x1' x2' x3' t0' t1' t2' t3' p0' p1' p2' p3' q0' q1' q2' q3' s0' s1' s2' s3' hrun1 hrun2
          refine HS2.out.mono ?_
          rintro e wa ⟨o, rfl, h1, h2, h3⟩
          have HSA := hide (St.call HSTK.out h3 h1 HLT2.out h2)
          have hcb := (cell_of_blk HSA.out.1).1
          have hfb := (cell_of_blk HSA.out.1).2
          have hsa := HSA.out.2.2.2.2.2
          clear h1 h2 h3
          obtain ⟨A, hA⟩ : ∃ A, A = o.map (fun g => (⟨g, 0, none⟩ : Addr)) := ⟨_, rfl⟩
          rw [← hA]
          have HAE := hide hA
          clear hA
          go_upto_region 24 with (first
            | (at_builtin; refine wpList_append_new _ rfl (.tmp 102) (.tmp 104) 29 rfl (ga + 1) 22 i0 (.slice none 0 0) 24 Try.underlying29 HI.out HZ0.out HZ1.out HZ2.out rfl _ 4 _ rfl (HSA.out.2.1.alloc _) ⟨wa.heap.size, 0, none⟩ 1 (.slice A N2 N2) rfl (cell_new1 _ _ _) rfl (by unfold maxLen; omega) (by omega) (by simp; omega) ?_; intro v' wb r1 r2 r3; have HSB := hide (St.book HSA.out r1 r2); have hcb3 := (cell_of_blk HSB.out.2).1; have hfb3 := (cell_of_blk HSB.out.2).2; obtain ⟨gn, cn, rfl, hbg, hglt⟩ := own_shape r1 (Nat.succ_pos 4); clear r1 r2 r3 hcb hfb)
            | (at_builtin; refine wpList_append_new _ rfl (.tmp 108) (.tmp 110) 32 rfl (ga + 1) 33 iE (.int .i64 0) 8 Try.underlying32 HIE.out HZE0.out HZE1.out HZE2.out rfl _ 4 _ rfl (HSB.out.1.2.2.2.1.alloc _) ⟨wb.heap.size, 0, none⟩ 1 (.int .i64 E0) rfl (cell_newS _ _ _ _ _) rfl (by unfold maxLen; omega) (by omega) (by have hq := HSB.out.1.2.2.2.2.2; simp at hq ⊢; omega) ?_; intro cv' wd r1 r2 r3; have HSC := hide (St.code HSB.out.1 r1 r2); obtain ⟨gc, cc, rfl, hbc, hclt⟩ := own_shape r1 (Nat.succ_pos 4); clear r1 r2 r3; have HTd : Hid (FB4 wd bt (.int .i64 ty0) (.int .i64 ch0) (.slice at' n0 ct) (.slice au m0 cu)) := (HSC.out.2.2.2.2.1.block bt (by have := HIN.out; omega)).trans HT2'.out; have HASKd : Hid (wd.ownsRow ga 24 4 (.slice (some ⟨ga, 0, none⟩) 4 4) 4 askA.toList) := own_keep1 HASKK.out (HSC.out.2.2.2.2.1.block ga (by omega)); have hszd : ga + 2 ≤ wd.heap.size := HSC.out.2.2.2.2.2; obtain ⟨t0', t1', t2', t3'⟩ := HTd.out.cells; have HNW := hide (new4 wd (.int .i64 ty0) (.int .i64 ch0) (.slice at' n0 ct) (.slice au m0 cu)); have HNO := hide (one4 ty0 ch0 at' n0 ct au m0 cu))
            | (at_builtin; refine wpList_append_own _ rfl (.tmp 112) (.tmp 114) 27 rfl ga 24 iF (.agg #[.int .i64 0, .int .i64 0, .slice none 0 0, .slice none 0 0]) 4 64 Try.underlying27 HIF.out HZF0.out HZF1.out HZF2.out rfl (by omega) (.slice (some ⟨ga, 0, none⟩) 4 4) 4 _ rfl (HASKd.out.alloc _) ⟨wd.heap.size, 0, none⟩ 1 1 [.int .i64 ty0, .int .i64 ch0, .slice at' n0 ct, .slice au m0 cu] rfl rfl HNW.out HNO.out (by unfold maxLen; omega) (by omega) (by simp; omega) ?_; intro v7 w7 r1 r2 r3; have HR7 := hide r1; have HG7 := hide r2; obtain ⟨gq, cq, rfl, hgq, hgq7, hq5⟩ := own4_shape r1 (by omega); clear r1 r2 r3 t0' t1' t2' t3'))
          have HK37 : Hid (∀ k, k < ga → k ≠ gx → k ≠ gy → w7.heap[k]? = w3.heap[k]?) := (fun k hk h1 h2 => (HG7.out.block k (by simp; omega) (fun e => absurd (show k = ga by simpa [Value.ownBlock] using e) (by omega))).trans ((heap_alloc_old _ _ (by omega)).trans ((HSC.out.2.2.2.2.1.block k (by omega)).trans ((HK12.out k h1 h2).trans (HB3r.out.block k hk)))))
          have HX7 : Hid (FB4 w7 bx (.int .i64 ty0) (.int .i64 ch0) (.slice (some ⟨gx, 0, none⟩) n0 cx) (.slice (some ⟨gy, 0, none⟩) m0 cy)) := (HK37.out bx (by have := HIN.out; omega) (by have := HIN.out; omega) (by have := HIN.out; omega)).trans HX3.out
          have HT7 : Hid (FB4 w7 bt (.int .i64 ty0) (.int .i64 ch0) (.slice at' n0 ct) (.slice au m0 cu)) := (HK37.out bt (by have := HIN.out; omega) (by have := HIN.out; omega) (by have := HIN.out; omega)).trans HT3.out
          have HKK7 : Hid (∀ k, k < ga → w7.heap[k]? = wk2.heap[k]?) := (fun k hk => (HG7.out.block k (by simp; omega) (fun e => absurd (show k = ga by simpa [Value.ownBlock] using e) (by omega))).trans ((heap_alloc_old _ _ (by omega)).trans (HSC.out.2.2.2.2.1.block k (by omega))))
          have hz7 : wd.heap.size ≤ w7.heap.size := by have := HG7.out.size; simp at this; omega
          have HLX7 : Hid (Lentb w7 w1.heap.size gx n0 cx (turnB x0)) := HLX2'.out.block (HKK7.out gx (by have := HIN.out; omega))
          have HLY7 : Hid (Lentb w7 w1.heap.size gy m0 cy (turnB y0)) := HLY2'.out.block (HKK7.out gy (by have := HIN.out; omega))
          have HAN : Hid (∀ b o, at' = some ⟨b, o, none⟩ ∨ au = some ⟨b, o, none⟩ → b ≠ gx ∧ b ≠ gy) := fun b o h => by have := HAU.out b o h; have := HIN.out; omega
          have HRT7 : Hid (Rd w7 at' n0 (turnB x0)) := rd_two HRT3.out (fun k hk => HK37.out k (by have := HGA.out; omega)) (fun b o h => HAN.out b o (.inl h)) (by have := HGA.out; omega)
          have HRU7 : Hid (Rd w7 au m0 (turnB y0)) := rd_two HRU3.out (fun k hk => HK37.out k (by have := HGA.out; omega)) (fun b o h => HAN.out b o (.inr h)) (by have := HGA.out; omega)
          have HS7 : Hid (St w7 w7 (ga + 1) 5 _ _ _ 5 _ _) := St.grow (HSC.out.below (below_box wd _)) (HASKd.out.alloc _) HG7.out
          have HWD : Hid (Below w.heap.size w wd) := HWK.out.trans (HSC.out.2.2.2.2.1.mono (by have := HIN.out; omega))
          have HW7 : Hid (Below w.heap.size w w7) := (HWD.out.alloc HWD.out.size _).grown HG7.out (by have := HWD.out.size; simp; omega) (fun g hg => by have := HIN.out; simp [Value.ownBlock] at hg; omega)
          obtain ⟨x0', x1', x2', x3'⟩ := HX7.out.cells
          obtain ⟨t0', t1', t2', t3'⟩ := HT7.out.cells
          go_wp2_with fail
          clear x0' x1' x2' x3' t0' t1' t2' t3'
          refine (kept_eq gx n0 cx ct at' (turnB x0) w1.heap.size w7 HLX7.out HRT7.out (by have := HIN.out; omega)).mono ?_
          rintro e w8 ⟨rfl, hk8⟩
          have HK38 : Hid (∀ k, k < ga → k ≠ gx → k ≠ gy → w8.heap[k]? = w3.heap[k]?) := fun k hk h1 h2 => (kp_block hk8 (by omega) h1).trans (HK37.out k hk h1 h2)
          have HX8 : Hid (FB4 w8 bx (.int .i64 ty0) (.int .i64 ch0) (.slice (some ⟨gx, 0, none⟩) n0 cx) (.slice (some ⟨gy, 0, none⟩) m0 cy)) := (HK38.out bx (by have := HIN.out; omega) (by have := HIN.out; omega) (by have := HIN.out; omega)).trans HX3.out
          have HT8 : Hid (FB4 w8 bt (.int .i64 ty0) (.int .i64 ch0) (.slice at' n0 ct) (.slice au m0 cu)) := (HK38.out bt (by have := HIN.out; omega) (by have := HIN.out; omega) (by have := HIN.out; omega)).trans HT3.out
          have hz8 : w7.heap.size ≤ w8.heap.size := hk8.2.2.2.1
          have HLY8 : Hid (Lentb w8 w1.heap.size gy m0 cy (turnB y0)) := HLY7.out.block (kp_block hk8 (by have := HIN.out; omega) (by have := HIN.out; omega))
          have HRU8 : Hid (Rd w8 au m0 (turnB y0)) := rd_two HRU3.out (fun k hk => HK38.out k (by have := HGA.out; omega)) (fun b o h => HAN.out b o (.inr h)) (by have := HGA.out; omega)
          have HS8 := hide (HS7.out.other (fun k hk hl => kp_block hk8 hl (by have := HIN.out; omega)) hz8)
          have HW8 : Hid (Below w.heap.size w w8) := HW7.out.trans (hk8.toBelow HW7.out.size (fun k hk => by have := HIN.out; omega))
          have HR8 : Hid (w8.ownsRow ga 24 4 (.slice (some ⟨gq, 0, none⟩) 5 cq) 5 _) := own_keep1 HR7.out (kp_block hk8 hgq7 (by have := HIN.out; omega))
          clear hk8
          obtain ⟨x0', x1', x2', x3'⟩ := HX8.out.cells
          obtain ⟨t0', t1', t2', t3'⟩ := HT8.out.cells
          go_wp2_with fail
          clear x0' x1' x2' x3' t0' t1' t2' t3'
          refine (kept_eq gy m0 cy cu au (turnB y0) w1.heap.size w8 HLY8.out HRU8.out (by have := HIN.out; omega)).mono ?_
          rintro e w9 ⟨rfl, hk9⟩
          have HK39 : Hid (∀ k, k < ga → k ≠ gx → k ≠ gy → w9.heap[k]? = w3.heap[k]?) := fun k hk h1 h2 => (kp_block hk9 (by omega) h2).trans (HK38.out k hk h1 h2)
          have hz9 : w8.heap.size ≤ w9.heap.size := hk9.2.2.2.1
          have HRT9 : Hid (Rd w9 at' n0 (turnB x0)) := rd_two HRT3.out (fun k hk => HK39.out k (by have := HGA.out; omega)) (fun b o h => HAN.out b o (.inl h)) (by have := HGA.out; omega)
          have HRU9 : Hid (Rd w9 au m0 (turnB y0)) := rd_two HRU3.out (fun k hk => HK39.out k (by have := HGA.out; omega)) (fun b o h => HAN.out b o (.inr h)) (by have := HGA.out; omega)
          have HS9 := hide (HS8.out.other (fun k hk hl => kp_block hk9 hl (by have := HIN.out; omega)) hz9)
          have HW9 : Hid (Below w.heap.size w w9) := HW8.out.trans (hk9.toBelow HW8.out.size (fun k hk => by have := HIN.out; omega))
          have HR9 : Hid (w9.ownsRow ga 24 4 (.slice (some ⟨gq, 0, none⟩) 5 cq) 5 _) := own_keep1 HR8.out (kp_block hk9 (by omega) (by have := HIN.out; omega))
          clear hk9
          obtain ⟨FS, hFS⟩ : ∃ FS, FS = es ++ [(o, L2)] := ⟨_, rfl⟩
          have HFL : Hid (FS.length = 5) := by show _ = _; rw [hFS]; simp [HLE4.out]
          have HFM : Hid (es.map ev ++ [.slice A N2 N2] = FS.map ev) := by
            show _ = _
            rw [hFS, List.map_append, HAE.out, HN2.out]
            rfl
          have HF2s : Hid (∀ j (h : j < FS.length), FS[j].2 = if j = 1 then L1 else if j = 4 then L2 else L0) := fun j h => by
            subst hFS
            by_cases hj : j < es.length
            · rw [List.getElem_append_left hj, HES.out j hj]
              have : j ≠ 4 := by have := HLE4.out; omega
              simp [this]
            · have hje : j = es.length := by simp at h; omega
              subst hje
              rw [List.getElem_append_right (Nat.le_refl _)]
              simp [HLE4.out]
          have HCM : Hid ((List.range 4).map (fun j => Value.int .i64 (if j = 1 then E1 else E0)) ++ [.int .i64 E0] = (List.range 5).map (fun j => Value.int .i64 (if j = 1 then E1 else E0))) := by
            show _ = _
            rw [List.range_succ (n := 4), List.map_append]
            rfl
          have HSF : Hid (St w9 w9 (ga + 1) 5 (.slice (some ⟨gn, 0, none⟩) 5 cn) (FS.map ev) FS 5 (.slice (some ⟨gc, 0, none⟩) 5 cc) ((List.range 5).map (fun j => .int .i64 (if j = 1 then E1 else E0)))) := by
            have := HS9.out
            rw [HFM.out, HCM.out, ← hFS] at this
            exact this
          clear hFS
          have HCELL : Hid (∀ k (hk : k < 5) W, Below w9.heap.size w9 W → W.cell? ⟨ga + 1, 0, none⟩ = some (.slice (some ⟨gn, 0, none⟩) 5 cn) ∧ W.cell? ⟨gn, k, none⟩ = some (ev (FS[k]'(by rw [HFL.out]; exact hk))) ∧ W.cell? ⟨gc, k, none⟩ = some (.int .i64 (if k = 1 then E1 else E0)) ∧ Rd W ((FS[k]'(by rw [HFL.out]; exact hk)).1.map (fun g => (⟨g, 0, none⟩ : Addr))) (FS[k]'(by rw [HFL.out]; exact hk)).2.length (FS[k]'(by rw [HFL.out]; exact hk)).2) := fun k hk W hW => by
            have hkl : k < FS.length := by rw [HFL.out]; exact hk
            have hSt := HSF.out
            obtain ⟨g1, _, e1, _, l1⟩ := own_shape hSt.2.1 (by omega)
            obtain ⟨g2, _, e2, _, l2⟩ := own_shape hSt.2.2.2.1 (by omega)
            simp only [Value.slice.injEq, Option.some.injEq, Addr.mk.injEq, and_true, true_and] at e1 e2
            have c1 := own4_at hSt.2.1 (i := k) (by omega)
            have c2 := own4_at hSt.2.2.2.1 (i := k) (by omega)
            refine ⟨(hW.cell (by show ga + 1 < _; have := hSt.2.2.2.2.2; omega)).trans (cell_of_blk hSt.1).1, (hW.cell (by show gn < _; omega)).trans ?_, (hW.cell (by show gc < _; omega)).trans ?_, (ents_rd1 hSt.2.2.1 hkl).below hW⟩
            · rw [c1, List.getElem?_map, List.getElem?_eq_getElem hkl]; rfl
            · rw [c2]; simp [List.getElem?_range hk]
          have HASKC : Hid (∀ i, i < 20 → ∀ W, Below w9.heap.size w9 W → W.cell? ⟨gq, i, none⟩ = (askA.toList ++ [.int .i64 ty0, .int .i64 ch0, .slice at' n0 ct, .slice au m0 cu])[i]?) := fun i hi W hW => by
            obtain ⟨g1, _, e1, _, l1, _⟩ := own4_shape HR9.out (by omega)
            simp only [Value.slice.injEq, Option.some.injEq, Addr.mk.injEq, and_true, true_and] at e1
            exact (hW.cell (by show gq < _; omega)).trans (own4_at HR9.out (by omega))
          rw [HASKA.out] at HASKC
          have HRS : Hid (∀ k (hk : k < 5), ∃ (t ch : Int) (a : Option Addr) (n c : Nat) (b : Option Addr) (m d : Nat), (∀ W, Below w9.heap.size w9 W → W.cell? ⟨gq, k * 4, none⟩ = some (.int .i64 t) ∧ W.cell? ⟨gq, k * 4 + 1, none⟩ = some (.int .i64 ch) ∧ W.cell? ⟨gq, k * 4 + 2, none⟩ = some (.slice a n c) ∧ W.cell? ⟨gq, k * 4 + 3, none⟩ = some (.slice b m d)) ∧ (∀ W, Below w9.heap.size w9 W → Calls Try.prog 12 #[.agg #[.int .i64 t, .int .i64 ch, .slice a n c, .slice b m d]] W fun e w' => ∃ a' c', e = .returned (.tuple #[.slice a' (FS[k]'(by rw [HFL.out]; exact hk)).2.length c', .int .i64 (if k = 1 then E1 else E0)]) ∧ Rd w' a' (FS[k]'(by rw [HFL.out]; exact hk)).2.length (FS[k]'(by rw [HFL.out]; exact hk)).2 ∧ Below W.heap.size W w')) := fun k hk => by
            have hkl : k < FS.length := by rw [HFL.out]; exact hk
            have hF2 := HF2s.out k hkl
            have hin := HIN.out
            have hww : ∀ W, Below w9.heap.size w9 W → Below w.heap.size w W := fun W hW => HW9.out.trans (hW.mono HW9.out.size)
            have d0 := fun W hW => HASKC.out (k * 4) (by omega) W hW
            have d1 := fun W hW => HASKC.out (k * 4 + 1) (by omega) W hW
            have d2 := fun W hW => HASKC.out (k * 4 + 2) (by omega) W hW
            have d3 := fun W hW => HASKC.out (k * 4 + 3) (by omega) W hW
            have hcase : k = 0 ∨ k = 1 ∨ k = 2 ∨ k = 3 ∨ k = 4 := by omega
            rw [hF2]
            rcases hcase with rfl | rfl | rfl | rfl | rfl
            · exact ⟨ty0, ch0, a0, n0, c0, b0, m0, e0, fun W hW => ⟨d0 W hW, d1 W hW, d2 W hW, d3 W hW⟩, fun W hW => by
                have := refseal_any ty0 ch0 a0 n0 c0 b0 m0 e0 x0 y0 W (RA0.out.below (hww W hW)) (RB0.out.below (hww W hW)) NA0.out NB0.out (by omega) (by omega)
                rw [← HL0.out, ← HE0.out] at this
                exact this⟩
            · exact ⟨ty1, ch1, a1, n1, c1, b1, m1, e1, fun W hW => ⟨d0 W hW, d1 W hW, d2 W hW, d3 W hW⟩, fun W hW => by
                have := refseal_any ty1 ch1 a1 n1 c1 b1 m1 e1 x1 y1 W (RA1.out.below (hww W hW)) (RB1.out.below (hww W hW)) NA1.out NB1.out (by omega) (by omega)
                rw [← HL1.out, ← HE1.out] at this
                exact this⟩
            · exact ⟨ty0, ch0, a0, n0, c0, b0, m0, e0, fun W hW => ⟨d0 W hW, d1 W hW, d2 W hW, d3 W hW⟩, fun W hW => by
                have := refseal_any ty0 ch0 a0 n0 c0 b0 m0 e0 x0 y0 W (RA0.out.below (hww W hW)) (RB0.out.below (hww W hW)) NA0.out NB0.out (by omega) (by omega)
                rw [← HL0.out, ← HE0.out] at this
                exact this⟩
            · exact ⟨ty0, ch0, a0, n0, c0, b0, m0, e0, fun W hW => ⟨d0 W hW, d1 W hW, d2 W hW, d3 W hW⟩, fun W hW => by
                have := refseal_any ty0 ch0 a0 n0 c0 b0 m0 e0 x0 y0 W (RA0.out.below (hww W hW)) (RB0.out.below (hww W hW)) NA0.out NB0.out (by omega) (by omega)
                rw [← HL0.out, ← HE0.out] at this
                exact this⟩
            · exact ⟨ty0, ch0, at', n0, ct, au, m0, cu, fun W hW => ⟨d0 W hW, d1 W hW, d2 W hW, d3 W hW⟩, fun W hW => by
                have := refseal_any ty0 ch0 at' n0 ct au m0 cu (turnB x0) (turnB y0) W (HRT9.out.below hW) (HRU9.out.below hW) HCT.out.2 HCU.out.2 (by omega) (by omega)
                rw [← HL2.out, ← HE0.out] at this
                exact this⟩
          have HSM : Hid (∀ j (h : j < FS.length), FS[j].2.length ≤ 1048576) := fun j h => by
            rw [HF2s.out j h]
            have := HN0.out; have := HN1.out; have := HN2.out
            split
            · omega
            · split <;> omega
          go_wp2
          clear HX7 HT7 HX8 HT8 HLX7 HLY7 HRT7 HRU7 HRU8 HLY8 HS7 HS8 HS9 HK37 HK38 HKK7 HG7 HR7 HR8 HASKd HSA HSB HSC
          go_loopw [19] (fun i wr => ∃ k : Nat, k ≤ 5 ∧ i = .int .i64 k ∧ Hid (Below w9.heap.size w9 wr)) (fun i _ => 5 - (intOf i).toNat)
          case atStart => exact ⟨0, Nat.zero_le _, rfl, hide (Below.refl _ _)⟩
          case round =>
            obtain ⟨k2, hk2, rfl, HBR⟩ := hrel
            by_cases hk5 : k2 < 5
            · have hk5' : (k2 : Int) < 5 := by omega
              obtain ⟨t, ch, a, n, c, b, m, d, hcl, hca⟩ := HRS.out k2 hk5
              obtain ⟨d0, d1, d2, d3⟩ := hcl _ HBR.out
              have HCA := hide (hca _ HBR.out)
              have HCE := hide (fun W hW => HCELL.out k2 hk5 W hW)
              have hkl : k2 < FS.length := by rw [HFL.out]; exact hk5
              unfold ev at HCE
              generalize hL : (FS[k2]'hkl).2 = L at *
              generalize hA2 : (FS[k2]'hkl).1.map (fun g => (⟨g, 0, none⟩ : Addr)) = A2 at *
              obtain ⟨N, hN⟩ : ∃ N, N = L.length := ⟨_, rfl⟩
              generalize hEE : (if k2 = 1 then E1 else E0) = EE at *
              rw [← hN] at HCA HCE
              clear hcl hca hL hA2 hEE hkl hN
              go_wp2_with fail
              refine HCA.out.mono ?_
              rintro e wz ⟨a', c', rfl, hrz, hbz⟩
              have HBZ : Hid (Below w9.heap.size w9 wz) := HBR.out.trans (hbz.mono HBR.out.size)
              obtain ⟨y0', y1', y2', y3'⟩ := HCE.out wz HBZ.out
              have HRZ := hide hrz
              have HRY := hide y3'
              have hv0 : ∀ q, (convert 22 9 (.slice A2 N N)).run Try.prog (wz.drewN q) = .ok (.string (mkS L)) (wz.drewN q) := fun q => conv_any (HRY.out.below (below_drewN (Below.refl _ _) q)) N
              have hv1 : ∀ q, (convert 22 9 (.slice a' N c')).run Try.prog (wz.drewN q) = .ok (.string (mkS L)) (wz.drewN q) := fun q => conv_any (HRZ.out.below (below_drewN (Below.refl _ _) q)) c'
              clear hrz hbz y3' d0 d1 d2 d3
              go_wp2
              go_quiet (fail)
              go_wp2
              go_roundw
              case rel => exact ⟨k2 + 1, by omega, by go_num, hide (below_drewN HBZ.out _)⟩
              case measure => simp [intOf]; omega
            · have hk5' : ¬ (k2 : Int) < 5 := by omega
              rename World => wy
              have HSY := hide (HSF.out.below HBR.out)
              have HWY : Hid (Below w.heap.size w wy) := HW9.out.trans (HBR.out.mono HW9.out.size)
              have HOW : Hid (wy.ownsRow (ga + 1) 22 1 (.slice (some ⟨gn, 0, none⟩) 5 cn) FS.length (FS.map ev)) := by rw [HFL.out]; exact HSY.out.2.1
              go_wp2_with fail
              refine (owned_ents (ga + 1) (ga + 1) _ FS wy HSY.out.1 HOW.out HSY.out.2.2.1 (by rw [HFL.out]; omega) (by rw [HFL.out]; omega) (fun j hj => by have := HSM.out j hj; omega)).mono ?_
              rintro e w12 ⟨rfl, hk12⟩
              have HFIN : Hid (Below w.heap.size w w12) := HWY.out.trans (hk12.toBelow HWY.out.size (fun k hk => by have := HIN.out; omega))
              clear hk12
              go_wp2
              go_ret
              exact ⟨rfl, HFIN.out⟩
end Go.Proofs.Ytboacpneoblklaa
