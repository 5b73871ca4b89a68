
/- Stage 6: StreamGives, the walk. -/
import Derived.Test.YtaijcnkmklibcaaSFrI
import Derived.Maps.AppendAt
import Derived.Deep.DeepCutAuto
namespace Go.Proofs.Ytaijcnkmklibcaa
open Go.RowKit Go.Deep
set_option linter.unusedVariables false
set_option linter.unusedSimpArgs false

theorem bl_row {W : World} {g N : Nat} {l : List Nat} (h : Bl W g l) (hN : N ≤ g) (hl : l.length ≤ 100000000) : W.ownsRow N 5 1 (.slice (some ⟨g, 0, none⟩) l.length l.length) l.length (l.map byteV) :=
  ⟨by simp, .inr ⟨g, l.length, _, rfl, hN, h, Nat.le_refl _, by unfold maxLen; omega, by simp, by simp [List.take_of_length_le]⟩⟩
theorem one_row (W : World) (N : Nat) (hN : N ≤ W.heap.size) (y : Gv) : (W.alloc (.cells y.cs.toArray 51)).ownsRow N 51 6 (.slice (some ⟨W.heap.size, 0, none⟩) 1 1) [y].length ([y].flatMap Gv.cs) :=
  ⟨by simp [Gv.cs], .inr ⟨W.heap.size, 1, _, rfl, hN, World.alloc_heap_new _ _, Nat.le_refl _, by unfold maxLen; omega, by simp [Gv.cs], by simp [Gv.cs]⟩⟩
theorem oneG (y : Gv) : ∀ u ∈ y.cs, u.oneCell' = true := fun u hu => by
  simp [Gv.cs] at hu
  rcases hu with rfl | rfl | rfl | rfl | rfl | rfl <;> rfl
theorem row_bytes {W : World} {N n : Nat} {v : Value} {l : List Nat} (h : W.ownsRow N 5 1 v n (l.map byteV)) (hl : l.length = n) (hb : ∀ c ∈ l, c < 256) : ∃ a c, v = .slice a n c ∧ Rd W a n l ∧ n ≤ c ∧ (a = none → c = 0) := by
  obtain ⟨a, c, e, h1, h2, h3⟩ := Rd.of_own0 h hb
  refine ⟨a, c, e, h3, h2, fun ha => ?_⟩
  subst ha
  obtain ⟨_, (⟨e2, _⟩ | ⟨g, cap, cur, e2, _⟩)⟩ := h
  · rw [e] at e2
    injection e2
  · rw [e] at e2
    injection e2 with e2
    cases e2

set_option maxRecDepth 100000 in
set_option maxHeartbeats 1500000 in
theorem gives_0 (af : Option Addr) (nf cf : Nat) (fs : Nat → Fr) (ac : Option Addr) (nc cc : Nat) (zs : List Int) (w : World) (hrf : RF w af nf fs) (hrc : Ri w ac nc zs) (hwz : ∀ j, j < nc → -9223372036854775808 ≤ zs.getD j 0 ∧ zs.getD j 0 < 9223372036854775808) (hnf : nf ≤ 140737488351232) (hzc : nc ≤ 140737488351232) :
    Calls Try.prog 5 #[.int .i64 0, .slice af nf cf, .slice ac nc cc] w fun e w' => e = .returned (.bool true) ∧ Below w.heap.size w w' := by
  have HIN := hide (And.intro hrf (And.intro hrc (And.intro hwz hzc)))
  clear hrf hrc hwz hzc
  go_enter Try.func5, Try.ntmps5
  go_wp2_with fail
  refine (awake_any w).mono ?_
  rintro e w1 ⟨rfl, hb1⟩
  have HB1 := hide hb1
  clear hb1
  go_wp2_with fail
  refine (header_yes 0 w1 (by omega)).mono ?_
  rintro e w2 ⟨rfl, hg2, hz2, hb2⟩
  have hN1 := HB1.out.size
  have hB2 : Below w.heap.size w w2 := HB1.out.trans (hb2.mono hN1)
  have HW0 : Hid (GC w 0 0 (hdr 0) [(((none, 0), (none, 0)), (1, 0, 0, 0), [], [])] (.slice (some ⟨w1.heap.size, 0, none⟩) 8 8) (.slice (some ⟨w2.heap.size, 0, none⟩) 1 1) (w2.alloc (.cells #[.int .i64 1, .int .i64 0, .int .i64 0, .int .i64 0, .slice none 0 0, .slice none 0 0] 51))) := by
    have hbl := bl_row hg2 hN1 (by decide)
    exact ⟨⟨hbl.alloc _, one_row w2 w.heap.size (by omega) (((none, 0), (none, 0)), (1, 0, 0, 0), [], [])⟩, (fun g hg => by simp at hg; subst hg; exact ⟨⟨rfl, (fun c h => by cases h), fun h => by simp at h⟩, ⟨rfl, (fun c h => by cases h), fun h => by simp at h⟩⟩), hB2.alloc hB2.size _, by decide, ⟨by decide, by decide⟩, 0, hdr0_its.2, hdr0_its.1⟩
  clear hg2 hb2 hB2 hz2
  go_wp2_with fail
  go_loopw [8, 10, 11] (fun vb vw vi wr => ∃ (i : Nat) (BL : List Nat) (gs : List Gv), vi = .int .i64 (i : Int) ∧ i ≤ 50 ∧ Hid (GC w 0 i BL gs vb vw wr)) (fun _ _ vi _ => 50 - (intOf vi).toNat)
  case atStart => exact ⟨0, _, _, rfl, by omega, HW0⟩
  case round =>
    obtain ⟨i, BL, gs, rfl, hi, HC⟩ := hrel
    clear HW0
    by_cases hgo : i < nf ∧ i < 50
    · obtain ⟨hi1, hi2⟩ := hgo
      obtain ⟨fb, fo, rfl, hfb, hcell⟩ := HIN.out.1.1 (by omega)
      obtain ⟨q0, q1, q2, q3⟩ := hcell i hi1
      obtain ⟨rx, ry, lx, ly⟩ := HIN.out.1.2 i hi1
      clear hcell
      generalize fs i = f at q0 q1 q2 q3 rx ry lx ly
      obtain ⟨⟨ty0, ch0⟩, ⟨a, n, c, X⟩, ⟨b, m, d, Y⟩⟩ := f
      dsimp only at q0 q1 q2 q3 rx ry lx ly
      obtain rfl := rx.1
      obtain rfl := ry.1
      have hbW := HC.out.2.2.1
      rw [← hbW.cell (p := ⟨fb, fo + i * 4, none⟩) hfb] at q0
      rw [← hbW.cell (p := ⟨fb, fo + i * 4 + 1, none⟩) hfb] at q1
      rw [← hbW.cell (p := ⟨fb, fo + i * 4 + 2, none⟩) hfb] at q2
      rw [← hbW.cell (p := ⟨fb, fo + i * 4 + 3, none⟩) hfb] at q3
      have hNW := hbW.size
      have HRX := hide (And.intro rx ry)
      clear rx ry hbW
      -- the frame that is sealed, and where it lies
      have HF : Hid (∀ W2, Below wr.heap.size wr W2 → Calls Try.prog 16 #[.agg #[.int .i64 0, .int .i64 ch0, .slice a X.length c, .slice b Y.length d]] W2 fun e w' => (sealE 0 ch0 X.length Y.length = 0 ∧ ∃ g ch : Nat, ch0 = (ch : Int) ∧ ch ≤ 65535 ∧ e = .returned (.tuple #[.slice (some ⟨g, 0, none⟩) (8 + X.length + Y.length) (8 + X.length + Y.length), .int .i64 0]) ∧ Hid (W2.heap.size ≤ g ∧ Bl w' g (sealB 0 ch X Y) ∧ Below W2.heap.size W2 w')) ∨ (∃ E : Int, (E == 0) = false ∧ e = .returned (.tuple #[.slice none 0 0, .int .i64 E]) ∧ Hid (Below W2.heap.size W2 w'))) := by
        intro W2 hb2
        by_cases hE : sealE 0 ch0 X.length Y.length = 0
        · have hok := (sealE_ok hE).1
          have hcv : ∃ ch : Nat, ch0 = (ch : Int) ∧ ch ≤ 65535 := ⟨(ch0 : Int).toNat, by omega, by omega⟩
          obtain ⟨ch, hcv, hch⟩ := hcv
          rw [hcv] at hE ⊢
          have hbb := HC.out.2.2.1.trans (hb2.mono hNW)
          refine (seal_yes 0 ch a X.length c b Y.length d X Y W2 (HRX.out.1.below hbb) (HRX.out.2.below hbb) hE).mono ?_
          rintro e w' ⟨g, h1, h2, h3, h4⟩
          exact .inl ⟨hE, g, ch, rfl, hch, h1, h2, h3, h4⟩
        · refine (seal_no 0 ch0 a X.length c b Y.length d W2 (by omega) (by omega) hE).mono ?_
          rintro e w' ⟨h1, h2⟩
          exact .inr ⟨_, by simpa using hE, h1, h2⟩
      go_wp2_with fail
      refine (HF.out _ (below_box wr _)).mono ?_
      rintro e w3 (⟨hE, g, ch, hcv, hch, rfl, HS⟩ | ⟨E, hE, rfl, HS⟩)
      · subst hcv
        obtain ⟨hE1, hE2, hE3, hE4⟩ := sealE_ok hE
        have hb3 : Below wr.heap.size wr w3 := (below_box wr _).trans (HS.out.2.2.mono (by simp))
        have hrow := ownsRow_below4 HC.out.1.1 hb3
        have hrw := ownsRow_below4 HC.out.1.2 hb3
        have hrd : Rd w3 (some ⟨g, 0, none⟩) (8 + X.length + Y.length) (sealB 0 ch X Y) := by
          have := HS.out.2.1.rd0 (sealB_lt (by omega) hE3 HRX.out.1.2.1 HRX.out.2.2.1)
          rwa [sealB_length] at this
        have hbx : w3.heap[wr.heap.size]? = some (.cells #[.int .i64 0, .int .i64 (ch : Int), .slice a X.length c, .slice b Y.length d] 49 (0, 0)) := (HS.out.2.2.block _ (by simp)).trans (World.alloc_heap_new _ _)
        have hz3 := hb3.size
        have hlB := HC.out.2.2.2.2.1
        obtain ⟨iI, hi0, hi1'', hi2'', hi3⟩ := info_six
        have HG := hide (And.intro hb3 (And.intro hrow (And.intro hrw (And.intro hrd (And.intro hbx (And.intro hlB (And.intro hE1 (And.intro hE2 (And.intro hE3 hE4)))))))))
        have HI := hide (And.intro hi0 (And.intro hi1'' (And.intro hi2'' hi3)))
        clear hE1 hE2 hE3 hE4 hb3 hrow hrw hrd hbx hlB hi0 hi1'' hi2'' hi3 hE HF q0 q1 q2 q3
        go_upto_region 18 with (at_builtin; refine wpList_append_any _ rfl (.tmp 63) (.tmp 64) rfl w.heap.size u8 BL.length BL rfl HG.out.2.1 (some ⟨g, 0, none⟩) (8 + X.length + Y.length) (8 + X.length + Y.length) (sealB 0 ch X Y) rfl (fun h => by cases h) HG.out.2.2.2.1 (by have := HG.out.2.2.2.2.2.1.1; have := HG.out.2.2.2.2.2.2.2.2.2; omega) (by omega) ?_; intro vn Wn r1 r2; have hbn := grown_keep HG.out.2.1 r2 _ _ _ _ (by decide) HG.out.2.2.2.2.1; have c0 : Wn.cell? ⟨wr.heap.size, 0, none⟩ = some (.int .i64 0) := (by simp [World.cell?, hbn]); have c1 : Wn.cell? ⟨wr.heap.size, 1, none⟩ = some (.int .i64 (ch : Int)) := (by simp [World.cell?, hbn]); have c2 : Wn.cell? ⟨wr.heap.size, 2, none⟩ = some (.slice a X.length c) := (by simp [World.cell?, hbn]); have c3 : Wn.cell? ⟨wr.heap.size, 3, none⟩ = some (.slice b Y.length d) := (by simp [World.cell?, hbn]); have hzn := r2.size; have HRW := hide (own_keep HG.out.2.2.1 (fun g cs _ hg => grown_keep HG.out.2.1 r2 g cs _ _ (by decide) hg)); have HR := hide (And.intro r1 r2); clear r1 r2 hbn)
        have hnW := new6 Wn (.int .i64 2) (.int .i64 0) (.int .i64 0) (.int .i64 (ch : Int)) (.slice a X.length c) (.slice b Y.length d)
        have HNW := hide hnW
        clear hnW
        go_wp2_with (at_builtin; refine wpList_append_own_at _ rfl (.tmp 66) (.tmp 69) 29 rfl w.heap.size 51 iI (.agg #[.int .i64 0, .int .i64 0, .int .i64 0, .int .i64 0, .slice none 0 0, .slice none 0 0]) 6 80 Try.underlying29 HI.out.1 HI.out.2.1 HI.out.2.2.1 HI.out.2.2.2 rfl (by omega) u10 gs.length (gs.flatMap Gv.cs) rfl (HRW.out.alloc _) ⟨Wn.heap.size, 0, none⟩ 1 1 (Gv.cs (((a, c), (b, d)), (2, 0, 0, (ch : Int)), X, Y)) rfl rfl HNW.out (oneG _) (by have := HG.out.2.2.2.2.2.1.2; unfold maxLen; omega) (by have := HG.out.2.2.2.2.2.1.2; omega) (by simp; omega) ?_; intro vm Wm s1 s2 s3 s4; have HR2 := hide (And.intro s1 s2); clear s1 s2 s3 s4)
        go_roundw
        case rel =>
          obtain ⟨hb3, hrow, hrw, hrd, hbx, hlB, hE1, hE2, hE3, hE4⟩ := HG.out
          exact ⟨i + 1, BL ++ sealB 0 ch X Y, gs ++ [(((a, c), (b, d)), (2, 0, 0, (ch : Int)), X, Y)], by go_num, by omega, GC.push (ty := 0) (f1 := (a, c)) (f2 := (b, d)) HC.out hb3 (by omega) hch (by omega) hE2 hE3 hE4 HRX.out.1 HRX.out.2 HR.out.1 HR.out.2 HR2.out.1 HR2.out.2⟩
        case measure => simp [intOf]; omega
      · go_wp2_with fail
        go_roundw
        case rel => exact ⟨i + 1, BL, gs, by go_num, by omega, GC.skip HC.out ((below_box wr _).trans (HS.out.mono (by simp)))⟩
        case measure => simp [intOf]; omega
    · obtain ⟨⟨r1, r2⟩, p3, p4, p5, ⟨p6, p7⟩, sz, p8, p9⟩ := HC.out
      obtain ⟨ab, cb, rfl, hRb, hcb, hnil⟩ := row_bytes r1 rfl p5
      obtain ⟨aw, cw, rfl⟩ := row_slice r2
      have HRUN := hide (run_any 1048576 ab cb BL ac nc cc zs wr hRb (HIN.out.2.1.below p4) HIN.out.2.2.1 hcb hnil (by omega) HIN.out.2.2.2)
      have HST : Hid (((sNew 1048576).go BL).st = .agg #[.int .i64 (BL.length : Int), .int .i64 0, .bool false, .int .i64 0, .int .i64 (BL.length : Int)]) := by rw [p8]; rfl
      have HP := hide (And.intro r2 (And.intro p3 (And.intro p4 (And.intro p7 p9))))
      clear r1 r2 p3 p4 p5 p6 p7 p8 p9 HC hRb hcb hnil
      go_upto_region 9 with fail
      go_cut [42] (fun v wx => v = .bool false ∧ wx = wr)
      case first =>
        clear HRUN HST HP HIN
        by_cases h0 : i < nf
        · have h50 : ¬ i < 50 := fun h => hgo ⟨h0, h⟩
          have hie : i = 50 := by omega
          subst hie
          go_wp2_with fail
          go_meet
          exact ⟨by simp, rfl⟩
        · go_wp2_with fail
          go_meet
          exact ⟨by simp, rfl⟩
      case rest =>
        obtain ⟨rfl, rfl⟩ := hcut
        go_wp2_with fail
        refine HRUN.out.mono ?_
        rintro e w3 ⟨hb3, ys, vo, hO, hok, hyes, _⟩
        obtain ⟨hits, rfl⟩ := hyes (by decide)
        obtain ⟨ao, co, rfl⟩ := row_slice hO
        rw [HST.out]
        obtain ⟨r2, p3, p4, p7, p9⟩ := HP.out
        have hr3 := ownsRow_below4 r2 hb3
        have hbw3 : Below w.heap.size w w3 := p4.trans (hb3.mono p4.size)
        have HX := hide (And.intro hO (And.intro hok (And.intro hits (And.intro hr3 hbw3))))
        clear hO hok hits hr3 hb3 r2 p4 hbw3
        go_wp2_with fail
        obtain ⟨hO, hok, hits, hr3, hbw3⟩ := HX.out
        refine (sameItems_any (ys.map Ev.g) gs (by rw [map_g, hits, p9]) (.slice ao ys.length co) (.slice aw gs.length cw) _ _ _ (by rw [flat_g, List.length_map]; exact hO.alloc _) (hr3.alloc _) (fun y hy => by obtain ⟨y', h1, rfl⟩ := List.mem_map.1 hy; exact ((hok y' h1).below (below_box _ _)).g) (fun z hz => (p3 z hz).below (hbw3.alloc hbw3.size _)) (by rw [List.length_map]; have h1 := congrArg List.length hits; rw [p9] at h1; simp at h1; omega)).mono ?_
        rintro e w4 ⟨rfl, hb4⟩
        have e1 : w4.heap[w3.heap.size]? = some (.cells #[.int .i64 (BL.length : Int), .int .i64 0, .bool false, .int .i64 0, .int .i64 (BL.length : Int)] 40 (0, 0)) := (hb4.block _ (by simp)).trans (World.alloc_heap_new _ _)
        obtain ⟨x0, x1, x2, x3, x4, _⟩ := st_facts e1
        have HB4 : Hid (Below w.heap.size w w4) := (hbw3.alloc hbw3.size _).trans (hb4.mono (by have := hbw3.size; simp; omega))
        have hl4 : w3.heap.size < w4.heap.size := (Array.getElem?_eq_some_iff.1 e1).1
        clear hb4 e1 hO hok hits hr3 hbw3 HX HP p3 p7 p9 HRUN
        go_wp2_with fail
        go_ret
        exact ⟨rfl, HB4.out⟩

set_option maxRecDepth 100000 in
set_option maxHeartbeats 1500000 in
theorem gives_3 (af : Option Addr) (nf cf : Nat) (fs : Nat → Fr) (ac : Option Addr) (nc cc : Nat) (zs : List Int) (w : World) (hrf : RF w af nf fs) (hrc : Ri w ac nc zs) (hwz : ∀ j, j < nc → -9223372036854775808 ≤ zs.getD j 0 ∧ zs.getD j 0 < 9223372036854775808) (hnf : nf ≤ 140737488351232) (hzc : nc ≤ 140737488351232) :
    Calls Try.prog 5 #[.int .i64 3, .slice af nf cf, .slice ac nc cc] w fun e w' => e = .returned (.bool true) ∧ Below w.heap.size w w' := by
  have HIN := hide (And.intro hrf (And.intro hrc (And.intro hwz hzc)))
  clear hrf hrc hwz hzc
  go_enter Try.func5, Try.ntmps5
  go_wp2_with fail
  refine (awake_any w).mono ?_
  rintro e w1 ⟨rfl, hb1⟩
  have HB1 := hide hb1
  clear hb1
  go_wp2_with fail
  refine (header_yes 3 w1 (by omega)).mono ?_
  rintro e w2 ⟨rfl, hg2, hz2, hb2⟩
  have hN1 := HB1.out.size
  have hB2 : Below w.heap.size w w2 := HB1.out.trans (hb2.mono hN1)
  have HW0 : Hid (GC w 1 0 (hdr 3) [(((none, 0), (none, 0)), (1, 3, 0, 0), [], [])] (.slice (some ⟨w1.heap.size, 0, none⟩) 8 8) (.slice (some ⟨w2.heap.size, 0, none⟩) 1 1) (w2.alloc (.cells #[.int .i64 1, .int .i64 3, .int .i64 0, .int .i64 0, .slice none 0 0, .slice none 0 0] 51))) := by
    have hbl := bl_row hg2 hN1 (by decide)
    exact ⟨⟨hbl.alloc _, one_row w2 w.heap.size (by omega) (((none, 0), (none, 0)), (1, 3, 0, 0), [], [])⟩, (fun g hg => by simp at hg; subst hg; exact ⟨⟨rfl, (fun c h => by cases h), fun h => by simp at h⟩, ⟨rfl, (fun c h => by cases h), fun h => by simp at h⟩⟩), hB2.alloc hB2.size _, by decide, ⟨by decide, by decide⟩, 0, hdr3_its.2, hdr3_its.1⟩
  clear hg2 hb2 hB2 hz2
  go_wp2_with fail
  go_loopw [8, 10, 11] (fun vb vw vi wr => ∃ (i : Nat) (BL : List Nat) (gs : List Gv), vi = .int .i64 (i : Int) ∧ i ≤ 50 ∧ Hid (GC w 1 i BL gs vb vw wr)) (fun _ _ vi _ => 50 - (intOf vi).toNat)
  case atStart => exact ⟨0, _, _, rfl, by omega, HW0⟩
  case round =>
    obtain ⟨i, BL, gs, rfl, hi, HC⟩ := hrel
    clear HW0
    by_cases hgo : i < nf ∧ i < 50
    · obtain ⟨hi1, hi2⟩ := hgo
      obtain ⟨fb, fo, rfl, hfb, hcell⟩ := HIN.out.1.1 (by omega)
      obtain ⟨q0, q1, q2, q3⟩ := hcell i hi1
      obtain ⟨rx, ry, lx, ly⟩ := HIN.out.1.2 i hi1
      clear hcell
      generalize fs i = f at q0 q1 q2 q3 rx ry lx ly
      obtain ⟨⟨ty0, ch0⟩, ⟨a, n, c, X⟩, ⟨b, m, d, Y⟩⟩ := f
      dsimp only at q0 q1 q2 q3 rx ry lx ly
      obtain rfl := rx.1
      obtain rfl := ry.1
      have hbW := HC.out.2.2.1
      rw [← hbW.cell (p := ⟨fb, fo + i * 4, none⟩) hfb] at q0
      rw [← hbW.cell (p := ⟨fb, fo + i * 4 + 1, none⟩) hfb] at q1
      rw [← hbW.cell (p := ⟨fb, fo + i * 4 + 2, none⟩) hfb] at q2
      rw [← hbW.cell (p := ⟨fb, fo + i * 4 + 3, none⟩) hfb] at q3
      have hNW := hbW.size
      have HRX := hide (And.intro rx ry)
      clear rx ry hbW
      -- the frame that is sealed, and where it lies
      have HF : Hid (∀ W2, Below wr.heap.size wr W2 → Calls Try.prog 16 #[.agg #[.int .i64 1, .int .i64 0, .slice a X.length c, .slice b Y.length d]] W2 fun e w' => (sealE 1 0 X.length Y.length = 0 ∧ ∃ g ch : Nat, 0 = (ch : Int) ∧ ch ≤ 65535 ∧ e = .returned (.tuple #[.slice (some ⟨g, 0, none⟩) (8 + X.length + Y.length) (8 + X.length + Y.length), .int .i64 0]) ∧ Hid (W2.heap.size ≤ g ∧ Bl w' g (sealB 1 ch X Y) ∧ Below W2.heap.size W2 w')) ∨ (∃ E : Int, (E == 0) = false ∧ e = .returned (.tuple #[.slice none 0 0, .int .i64 E]) ∧ Hid (Below W2.heap.size W2 w'))) := by
        intro W2 hb2
        by_cases hE : sealE 1 0 X.length Y.length = 0
        · have hok := (sealE_ok hE).1
          have hcv : ∃ ch : Nat, 0 = (ch : Int) ∧ ch ≤ 65535 := ⟨(0 : Int).toNat, by omega, by omega⟩
          obtain ⟨ch, hcv, hch⟩ := hcv
          obtain rfl : ch = 0 := by omega
          have hbb := HC.out.2.2.1.trans (hb2.mono hNW)
          refine (seal_yes 1 0 a X.length c b Y.length d X Y W2 (HRX.out.1.below hbb) (HRX.out.2.below hbb) hE).mono ?_
          rintro e w' ⟨g, h1, h2, h3, h4⟩
          exact .inl ⟨hE, g, 0, rfl, hch, h1, h2, h3, h4⟩
        · refine (seal_no 1 0 a X.length c b Y.length d W2 (by omega) (by omega) hE).mono ?_
          rintro e w' ⟨h1, h2⟩
          exact .inr ⟨_, by simpa using hE, h1, h2⟩
      go_wp2_with fail
      refine (HF.out _ (below_box wr _)).mono ?_
      rintro e w3 (⟨hE, g, ch, hcv, hch, rfl, HS⟩ | ⟨E, hE, rfl, HS⟩)
      · obtain rfl : ch = 0 := by omega
        clear hcv hch
        obtain ⟨hE1, hE2, hE3, hE4⟩ := sealE_ok hE
        have hb3 : Below wr.heap.size wr w3 := (below_box wr _).trans (HS.out.2.2.mono (by simp))
        have hrow := ownsRow_below4 HC.out.1.1 hb3
        have hrw := ownsRow_below4 HC.out.1.2 hb3
        have hrd : Rd w3 (some ⟨g, 0, none⟩) (8 + X.length + Y.length) (sealB 1 0 X Y) := by
          have := HS.out.2.1.rd0 (sealB_lt (by omega) hE3 HRX.out.1.2.1 HRX.out.2.2.1)
          rwa [sealB_length] at this
        have hbx : w3.heap[wr.heap.size]? = some (.cells #[.int .i64 1, .int .i64 (0 : Int), .slice a X.length c, .slice b Y.length d] 49 (0, 0)) := (HS.out.2.2.block _ (by simp)).trans (World.alloc_heap_new _ _)
        have hz3 := hb3.size
        have hlB := HC.out.2.2.2.2.1
        obtain ⟨iI, hi0, hi1'', hi2'', hi3⟩ := info_six
        have HG := hide (And.intro hb3 (And.intro hrow (And.intro hrw (And.intro hrd (And.intro hbx (And.intro hlB (And.intro hE1 (And.intro hE2 (And.intro hE3 hE4)))))))))
        have HI := hide (And.intro hi0 (And.intro hi1'' (And.intro hi2'' hi3)))
        clear hE1 hE2 hE3 hE4 hb3 hrow hrw hrd hbx hlB hi0 hi1'' hi2'' hi3 hE HF q0 q1 q2 q3
        go_upto_region 18 with (at_builtin; refine wpList_append_any _ rfl (.tmp 63) (.tmp 64) rfl w.heap.size u8 BL.length BL rfl HG.out.2.1 (some ⟨g, 0, none⟩) (8 + X.length + Y.length) (8 + X.length + Y.length) (sealB 1 0 X Y) rfl (fun h => by cases h) HG.out.2.2.2.1 (by have := HG.out.2.2.2.2.2.1.1; have := HG.out.2.2.2.2.2.2.2.2.2; omega) (by omega) ?_; intro vn Wn r1 r2; have hbn := grown_keep HG.out.2.1 r2 _ _ _ _ (by decide) HG.out.2.2.2.2.1; have c0 : Wn.cell? ⟨wr.heap.size, 0, none⟩ = some (.int .i64 1) := (by simp [World.cell?, hbn]); have c1 : Wn.cell? ⟨wr.heap.size, 1, none⟩ = some (.int .i64 (0 : Int)) := (by simp [World.cell?, hbn]); have c2 : Wn.cell? ⟨wr.heap.size, 2, none⟩ = some (.slice a X.length c) := (by simp [World.cell?, hbn]); have c3 : Wn.cell? ⟨wr.heap.size, 3, none⟩ = some (.slice b Y.length d) := (by simp [World.cell?, hbn]); have hzn := r2.size; have HRW := hide (own_keep HG.out.2.2.1 (fun g cs _ hg => grown_keep HG.out.2.1 r2 g cs _ _ (by decide) hg)); have HR := hide (And.intro r1 r2); clear r1 r2 hbn)
        have hnW := new6 Wn (.int .i64 2) (.int .i64 0) (.int .i64 1) (.int .i64 (0 : Int)) (.slice a X.length c) (.slice b Y.length d)
        have HNW := hide hnW
        clear hnW
        go_wp2_with (at_builtin; refine wpList_append_own_at _ rfl (.tmp 66) (.tmp 69) 29 rfl w.heap.size 51 iI (.agg #[.int .i64 0, .int .i64 0, .int .i64 0, .int .i64 0, .slice none 0 0, .slice none 0 0]) 6 80 Try.underlying29 HI.out.1 HI.out.2.1 HI.out.2.2.1 HI.out.2.2.2 rfl (by omega) u10 gs.length (gs.flatMap Gv.cs) rfl (HRW.out.alloc _) ⟨Wn.heap.size, 0, none⟩ 1 1 (Gv.cs (((a, c), (b, d)), (2, 0, 1, (0 : Int)), X, Y)) rfl rfl HNW.out (oneG _) (by have := HG.out.2.2.2.2.2.1.2; unfold maxLen; omega) (by have := HG.out.2.2.2.2.2.1.2; omega) (by simp; omega) ?_; intro vm Wm s1 s2 s3 s4; have HR2 := hide (And.intro s1 s2); clear s1 s2 s3 s4)
        go_roundw
        case rel =>
          obtain ⟨hb3, hrow, hrw, hrd, hbx, hlB, hE1, hE2, hE3, hE4⟩ := HG.out
          exact ⟨i + 1, BL ++ sealB 1 0 X Y, gs ++ [(((a, c), (b, d)), (2, 0, 1, (0 : Int)), X, Y)], by go_num, by omega, GC.push (ty := 1) (ch := 0) (f1 := (a, c)) (f2 := (b, d)) HC.out hb3 (by omega) (by omega) (by omega) hE2 hE3 hE4 HRX.out.1 HRX.out.2 HR.out.1 HR.out.2 HR2.out.1 HR2.out.2⟩
        case measure => simp [intOf]; omega
      · go_wp2_with fail
        go_roundw
        case rel => exact ⟨i + 1, BL, gs, by go_num, by omega, GC.skip HC.out ((below_box wr _).trans (HS.out.mono (by simp)))⟩
        case measure => simp [intOf]; omega
    · obtain ⟨⟨r1, r2⟩, p3, p4, p5, ⟨p6, p7⟩, sz, p8, p9⟩ := HC.out
      obtain ⟨ab, cb, rfl, hRb, hcb, hnil⟩ := row_bytes r1 rfl p5
      obtain ⟨aw, cw, rfl⟩ := row_slice r2
      have HRUN := hide (run_any 1048576 ab cb BL ac nc cc zs wr hRb (HIN.out.2.1.below p4) HIN.out.2.2.1 hcb hnil (by omega) HIN.out.2.2.2)
      have HST : Hid (((sNew 1048576).go BL).st = .agg #[.int .i64 (BL.length : Int), .int .i64 0, .bool false, .int .i64 0, .int .i64 (BL.length : Int)]) := by rw [p8]; rfl
      have HP := hide (And.intro r2 (And.intro p3 (And.intro p4 (And.intro p7 p9))))
      clear r1 r2 p3 p4 p5 p6 p7 p8 p9 HC hRb hcb hnil
      go_upto_region 9 with fail
      go_cut [42] (fun v wx => v = .bool false ∧ wx = wr)
      case first =>
        clear HRUN HST HP HIN
        by_cases h0 : i < nf
        · have h50 : ¬ i < 50 := fun h => hgo ⟨h0, h⟩
          have hie : i = 50 := by omega
          subst hie
          go_wp2_with fail
          go_meet
          exact ⟨by simp, rfl⟩
        · go_wp2_with fail
          go_meet
          exact ⟨by simp, rfl⟩
      case rest =>
        obtain ⟨rfl, rfl⟩ := hcut
        go_wp2_with fail
        refine HRUN.out.mono ?_
        rintro e w3 ⟨hb3, ys, vo, hO, hok, hyes, _⟩
        obtain ⟨hits, rfl⟩ := hyes (by decide)
        obtain ⟨ao, co, rfl⟩ := row_slice hO
        rw [HST.out]
        obtain ⟨r2, p3, p4, p7, p9⟩ := HP.out
        have hr3 := ownsRow_below4 r2 hb3
        have hbw3 : Below w.heap.size w w3 := p4.trans (hb3.mono p4.size)
        have HX := hide (And.intro hO (And.intro hok (And.intro hits (And.intro hr3 hbw3))))
        clear hO hok hits hr3 hb3 r2 p4 hbw3
        go_wp2_with fail
        obtain ⟨hO, hok, hits, hr3, hbw3⟩ := HX.out
        refine (sameItems_any (ys.map Ev.g) gs (by rw [map_g, hits, p9]) (.slice ao ys.length co) (.slice aw gs.length cw) _ _ _ (by rw [flat_g, List.length_map]; exact hO.alloc _) (hr3.alloc _) (fun y hy => by obtain ⟨y', h1, rfl⟩ := List.mem_map.1 hy; exact ((hok y' h1).below (below_box _ _)).g) (fun z hz => (p3 z hz).below (hbw3.alloc hbw3.size _)) (by rw [List.length_map]; have h1 := congrArg List.length hits; rw [p9] at h1; simp at h1; omega)).mono ?_
        rintro e w4 ⟨rfl, hb4⟩
        have e1 : w4.heap[w3.heap.size]? = some (.cells #[.int .i64 (BL.length : Int), .int .i64 0, .bool false, .int .i64 0, .int .i64 (BL.length : Int)] 40 (0, 0)) := (hb4.block _ (by simp)).trans (World.alloc_heap_new _ _)
        obtain ⟨x0, x1, x2, x3, x4, _⟩ := st_facts e1
        have HB4 : Hid (Below w.heap.size w w4) := (hbw3.alloc hbw3.size _).trans (hb4.mono (by have := hbw3.size; simp; omega))
        have hl4 : w3.heap.size < w4.heap.size := (Array.getElem?_eq_some_iff.1 e1).1
        clear hb4 e1 hO hok hits hr3 hbw3 HX HP p3 p7 p9 HRUN
        go_wp2_with fail
        go_ret
        exact ⟨rfl, HB4.out⟩

set_option maxRecDepth 100000 in
set_option maxHeartbeats 2000000 in
theorem gives_no (p : Int) (h0 : p ≠ 0) (h3 : p ≠ 3) (af : Option Addr) (nf cf : Nat) (ac : Option Addr) (nc cc : Nat) (w : World) :
    Calls Try.prog 5 #[.int .i64 p, .slice af nf cf, .slice ac nc cc] w fun e w' => e = .returned (.bool true) ∧ Below w.heap.size w w' := by
  have HP := hide (And.intro h0 h3)
  clear h0 h3
  go_enter Try.func5, Try.ntmps5
  go_wp2_with fail
  refine (awake_any w).mono ?_
  rintro e w1 ⟨rfl, hb1⟩
  have HB1 := hide hb1
  clear hb1
  go_wp2_with fail
  refine (header_no p w1 HP.out.1 HP.out.2).mono ?_
  rintro e w2 ⟨rfl, rfl⟩
  go_wp2_with fail
  go_ret
  exact ⟨rfl, HB1.out⟩
theorem gives_walk (p : Int) (af : Option Addr) (nf cf : Nat) (fs : Nat → Fr) (ac : Option Addr) (nc cc : Nat) (zs : List Int) (w : World) (hrf : RF w af nf fs) (hrc : Ri w ac nc zs) (hwz : ∀ j, j < nc → -9223372036854775808 ≤ zs.getD j 0 ∧ zs.getD j 0 < 9223372036854775808) (hnf : nf ≤ 140737488351232) (hzc : nc ≤ 140737488351232) :
    Calls Try.prog 5 #[.int .i64 p, .slice af nf cf, .slice ac nc cc] w fun e w' => e = .returned (.bool true) ∧ Below w.heap.size w w' := by
  by_cases h0 : p = 0
  · subst h0
    exact gives_0 af nf cf fs ac nc cc zs w hrf hrc hwz hnf hzc
  · by_cases h3 : p = 3
    · subst h3
      exact gives_3 af nf cf fs ac nc cc zs w hrf hrc hwz hnf hzc
    · exact gives_no p h0 h3 af nf cf ac nc cc w
end Go.Proofs.Ytaijcnkmklibcaa
