/- ValueEquals: its walk. -/
import Derived.Test.YtdlkakllcfkhfaaDoorVTurn2
import Derived.Deep.CutRange
import Derived.Test.YtdlkakllcfkhfaaDoorVREq
import Derived.Test.YtdlkakllcfkhfaaDoorVCopied
namespace Go.Proofs.YtdlkakllcfkhfaaDoor
open Go.RowKit
set_option linter.unusedVariables false
set_option linter.unusedSimpArgs false

theorem eqT_comm (x y : T) : eqT y x = eqT x y := by
  unfold eqT
  rw [neg_ord x y, Bool.eq_iff_iff]
  simp only [decide_eq_true_eq]
  omega
theorem eqT_self (x : T) : eqT x x = true := by
  unfold eqT
  have := neg_ord x x
  simp only [decide_eq_true_eq]
  omega

set_option maxRecDepth 100000 in
set_option maxHeartbeats 4000000 in
theorem equals_walk (a b : V) (w : World) (ha : Lies w.heap.size w a) (hb : Lies w.heap.size w b) :
    Calls Tryd.prog 4 #[a.val, b.val] w fun e w' => e = .returned (.bool true) ∧ Below w.heap.size w w' := by
  have HA := hide ha
  have HB := hide hb
  clear ha hb
  obtain ⟨r, hr⟩ : ∃ r, eqT a.t b.t = r := ⟨_, rfl⟩
  have hr2 : eqT b.t a.t = r := by rw [← hr]; exact eqT_comm _ _
  have hr0 : eqT a.t a.t = true := eqT_self _
  rw [V.val_eq, V.val_eq]
  go_enter Tryd.func4, Tryd.ntmps4
  go_wp2_with fail
  obtain ⟨W0, hW0⟩ : ∃ W0, (w.alloc (Obj.cells #[.int .i64 a.k, .int .u64 a.n, .string a.s, .slice a.a a.l.length a.c, .int .i64 a.e] 25)).alloc (Obj.cells #[.int .i64 b.k, .int .u64 b.n, .string b.s, .slice b.a b.l.length b.c, .int .i64 b.e] 25) = W0 := ⟨_, rfl⟩
  have hs0 : W0.heap.size = w.heap.size + 2 := by rw [← hW0]; simp
  have hb0 : Below w.heap.size w W0 := by rw [← hW0]; exact bel2 (Below.refl _ _) (Nat.le_refl _) _ _
  have xa : BoxV W0 w.heap.size a := by rw [← hW0]; exact heap_past (World.alloc_heap_new _ _) _
  have xb : BoxV W0 (w.heap.size + 1) b := by rw [← hW0]; exact heap_at1 _ _ _
  rw [hW0]
  clear hW0
  refine (awake_any W0).mono ?_
  rintro e w1 ⟨rfl, hb1⟩
  have hs1 := hb1.size
  obtain ⟨a0, a1, a2, a3, a4⟩ := (xa.below hb1 (by omega)).cells
  obtain ⟨b0, b1, b2, b3, b4⟩ := (xb.below hb1 (by omega)).cells
  go_wp2_with fail
  have hbA := bel1 (Below.refl w1.heap.size w1) (Nat.le_refl _) (Obj.cells #[.int .i64 a.k, .int .u64 a.n, .string a.s, .slice a.a a.l.length a.c, .int .i64 a.e, .int .i64 b.k, .int .u64 b.n, .string b.s, .slice b.a b.l.length b.c, .int .i64 b.e] 25)
  have hbw1 : Below w.heap.size w w1 := belOn hb0 (by omega) hb1
  have hbwA : Below w.heap.size w _ := belOn hbw1 (by omega) hbA
  refine (greatall_any w1.heap.size 0 2 w.heap.size [a, b] _ (by simp; omega) (row2 (World.alloc_heap_new _ _)) (by simp) (fun x hx => ?_) (by simp) (by omega)).mono ?_
  · simp only [List.mem_cons, List.not_mem_nil, or_false] at hx
    rcases hx with rfl | rfl
    · exact HA.out.keep hbwA (Nat.le_refl _)
    · exact HB.out.keep hbwA (Nat.le_refl _)
  rintro e w2 (⟨rfl, hb2⟩ | ⟨rfl, hwt, hb2⟩)
  · go_wp2
    go_ret
    exact ⟨rfl, belOn hbwA (by simp; omega) hb2⟩
  have hwa : T.wt a.t ≤ 100000 := by simp only [V.ts, T.wts] at hwt; omega
  have hwb : T.wt b.t ≤ 100000 := by simp only [V.ts, T.wts] at hwt; omega
  have hbW2 : Below W0.heap.size W0 w2 := (hb1.trans (hbA.mono hs1)).trans (hb2.mono (by simp; omega))
  have hbw2 : Below w.heap.size w w2 := belOn hbwA (by simp; omega) hb2
  have hs2 := hbW2.size
  clear hb2 hbA hbwA a0 a1 a2 a3 a4 b0 b1 b2 b3 b4 hwt hb1 hbw1
  obtain ⟨a0, a1, a2, a3, a4⟩ := (xa.below hbW2 (by omega)).cells
  go_wp2_with fail
  have q := lent_any a hwa w.heap.size w2 (by omega) (HA.out.keep hbw2 (Nat.le_refl _))
  rw [V.val_eq] at q
  refine q.mono ?_
  clear q a0 a1 a2 a3 a4
  rintro e w3 ⟨x, rfl, HX, hb3⟩
  have hs3 := hb3.size
  have hbW3 : Below W0.heap.size W0 w3 := belOn hbW2 hs2 hb3
  have hbw3 : Below w.heap.size w w3 := belOn hbw2 (by omega) hb3
  obtain ⟨b0, b1, b2, b3, b4⟩ := (xb.below hbW3 (by omega)).cells
  have hne : w.heap.size + 1 < w3.heap.size := by omega
  go_wp2_with fail
  clear b0 b1 b2 b3 b4 hne
  -- x in its box
  obtain ⟨W3, hW3⟩ : ∃ W3, w3.alloc (Obj.cells #[.int .i64 x.k, .int .u64 x.n, .string x.s, .slice x.a x.l.length x.c, .int .i64 x.e] 25) = W3 := ⟨_, rfl⟩
  have hb33 : Below w3.heap.size w3 W3 := by rw [← hW3]; exact bel1 (Below.refl _ _) (Nat.le_refl _) _
  have xx : BoxV W3 w3.heap.size x := by rw [← hW3]; exact BoxV.new w3 x
  have hs33 : W3.heap.size = w3.heap.size + 1 := by rw [← hW3]; simp
  rw [hW3]
  clear hW3
  have hbW33 : Below W0.heap.size W0 W3 := belOn hbW3 (by omega) hb33
  have hbw33 : Below w.heap.size w W3 := belOn hbw3 (by omega) hb33
  obtain ⟨hxt, hxl⟩ := HX.out
  have HXL := hide (hxl.keep (w := W3) (fun b o q1 q2 q3 => (hb33.block b q2).trans q3))
  clear hxl HX
  have q := lent_any b hwb w.heap.size W3 (by omega) (HB.out.keep hbw33 (Nat.le_refl _))
  rw [V.val_eq] at q
  refine q.mono ?_
  clear q
  rintro e w4 ⟨y, rfl, HY, hb4⟩
  have hs4 := hb4.size
  have hbW4 : Below W0.heap.size W0 w4 := belOn hbW33 (by omega) hb4
  have hbw4 : Below w.heap.size w w4 := belOn hbw33 (by omega) hb4
  have xx4 : BoxV w4 w3.heap.size x := xx.below hb4 (by omega)
  obtain ⟨x0, x1, x2, x3, x4⟩ := xx4.cells
  have hX4 : w3.heap.size < w4.heap.size := by omega
  go_wp2_with fail
  obtain ⟨W4, hW4⟩ : ∃ W4, w4.alloc (Obj.cells #[.int .i64 y.k, .int .u64 y.n, .string y.s, .slice y.a y.l.length y.c, .int .i64 y.e] 25) = W4 := ⟨_, rfl⟩
  have hb44 : Below w4.heap.size w4 W4 := by rw [← hW4]; exact bel1 (Below.refl _ _) (Nat.le_refl _) _
  have yy : BoxV W4 w4.heap.size y := by rw [← hW4]; exact BoxV.new w4 y
  have hs44 : W4.heap.size = w4.heap.size + 1 := by rw [← hW4]; simp
  rw [hW4]
  clear hW4 x0 x1 x2 x3 x4
  have hb34 : Below W3.heap.size W3 W4 := belOn hb4 (by omega) hb44
  have hbW44 : Below W0.heap.size W0 W4 := belOn hbW4 (by omega) hb44
  have hbw44 : Below w.heap.size w W4 := belOn hbw4 (by omega) hb44
  have xx44 : BoxV W4 w3.heap.size x := xx.below hb34 (by omega)
  obtain ⟨hyt, hyl⟩ := HY.out
  have HXL4 := hide (HXL.out.keep (w := W4) (fun b o q1 q2 q3 => (hb34.block b (by omega)).trans q3))
  have HYL4 := hide (hyl.keep (w := W4) (fun b o q1 q2 q3 => (hb44.block b q2).trans q3))
  clear hyl HY HXL hb33 hb4 hb44 xx xx4
  have hXlies : Lies w4.heap.size W4 x := HXL4.out.lies.keep (fun _ _ _ => rfl) (fun b h => by show b < w4.heap.size; omega)
  have hYlies : Lies w4.heap.size W4 y := HYL4.out.lies.keep (fun _ _ _ => rfl) (fun b h => by show b < w4.heap.size; omega)
  have HXS := hide hXlies
  have HYS := hide hYlies
  clear hXlies hYlies
  -- three orders
  have q := equal_any x y w4.heap.size W4 (by omega) HXS.out HYS.out
  rw [V.val_eq, V.val_eq, hxt, hyt, hr] at q
  refine q.mono ?_
  clear q
  rintro e w5 ⟨rfl, hb5⟩
  have hs5 := hb5.size
  obtain ⟨x0, x1, x2, x3, x4⟩ := (xx44.below hb5 (by omega)).cells
  obtain ⟨y0, y1, y2, y3, y4⟩ := (yy.below hb5 (by omega)).cells
  go_wp2_with fail
  have q := equal_any y x w4.heap.size w5 (by omega) (HYS.out.keep hb5 (by omega)) (HXS.out.keep hb5 (by omega))
  rw [V.val_eq, V.val_eq, hxt, hyt, hr2] at q
  refine q.mono ?_
  clear q x0 x1 x2 x3 x4 y0 y1 y2 y3 y4
  rintro e w6 ⟨rfl, hb6⟩
  have hs6 := hb6.size
  have hb46 : Below W4.heap.size W4 w6 := belOn hb5 hs5 hb6
  obtain ⟨x0, x1, x2, x3, x4⟩ := (xx44.below hb46 (by omega)).cells
  go_wp2_with fail
  have q := equal_any x x w4.heap.size w6 (by omega) (HXS.out.keep hb46 (by omega)) (HXS.out.keep hb46 (by omega))
  rw [V.val_eq, hxt, hr0] at q
  refine q.mono ?_
  clear q x0 x1 x2 x3 x4
  rintro e w7 ⟨rfl, hb7⟩
  have hs7 := hb7.size
  have hb47 : Below W4.heap.size W4 w7 := belOn hb46 (by omega) hb7
  have hbW7 : Below W0.heap.size W0 w7 := belOn hbW44 (by omega) hb47
  have hbw7 : Below w.heap.size w w7 := belOn hbw44 (by omega) hb47
  clear hb5 hb6 hb7 hb46
  obtain ⟨x0, x1, x2, x3, x4⟩ := (xx44.below hb47 (by omega)).cells
  obtain ⟨a0, a1, a2, a3, a4⟩ := (xa.below hbW7 (by omega)).cells
  go_wp2_with fail
  go_cut [12] from 40 to 43 (fun v wx => v = .bool true ∧ Below w7.heap.size w7 wx)
  case first =>
    have HC : Hid (∀ W, Below w7.heap.size w7 W → Calls Tryd.prog 20 #[.agg #[.int .i64 a.k, .int .u64 a.n, .string a.s, .slice a.a a.l.length a.c, .int .i64 a.e]] W fun e w' => ∃ y : V, e = .returned (.agg #[.int .i64 y.k, .int .u64 y.n, .string y.s, .slice y.a y.l.length y.c, .int .i64 y.e]) ∧ Hid (y.t = a.t ∧ Lies w'.heap.size w' y) ∧ Below w7.heap.size w7 w') := by
      intro W hW
      have hWs := hW.size
      have q := rcopied_any a hwa w.heap.size W (by omega) (HA.out.keep (hbw7.trans (hW.mono (by omega))) (Nat.le_refl _))
      rw [V.val_eq] at q
      refine q.mono ?_
      rintro e w' ⟨y, rfl, HY, hb⟩
      exact ⟨y, rfl, ⟨HY.out.1, HY.out.2.keep (fun _ _ _ => rfl) (fun b h => h.2)⟩, hW.trans (hb.mono hWs)⟩
    have HE : Hid (∀ (c : V) (W : World), c.t = a.t → Lies W.heap.size W c → Below w7.heap.size w7 W → Calls Tryd.prog 19 #[.agg #[.int .i64 x.k, .int .u64 x.n, .string x.s, .slice x.a x.l.length x.c, .int .i64 x.e], .agg #[.int .i64 c.k, .int .u64 c.n, .string c.s, .slice c.a c.l.length c.c, .int .i64 c.e]] W fun e w' => e = .returned (.bool true) ∧ Below w7.heap.size w7 w') := by
      intro c W hc hl hW
      have hWs := hW.size
      have q := equal_any x c W.heap.size W (Nat.le_refl _) (((HXS.out.keep hb47 (by omega)).keep hW (by omega)).mono (by omega)) hl
      rw [V.val_eq, V.val_eq, hxt, hc, hr0] at q
      exact q.mono (fun e w' h => ⟨h.1, hW.trans (h.2.mono hWs)⟩)
    have HXC : Hid (∀ W, Below w7.heap.size w7 W → BoxV W w3.heap.size x) := fun W hW => (xx44.below hb47 (by omega)).below hW (by omega)
    have hmx : Tryd.prog.follows .mixedOrders = true := by kernel_rfl
    have hd : Below w7.heap.size w7 w7.drew := (Below.refl _ _).drew
    clear HA HB hr hr2 hr0 xa xb hwa hwb hbW2 hbw2 hbW3 hbw3 hbW33 hbw33 hxt hbW4 hbw4 hb34 hbW44 hbw44 xx44 yy HXL4 HYL4 hyt HXS HYS hb47 hbW7 hbw7 hb3 hb0
    go_region_with (first | (go_at_call 20; refine Calls.mono (HC.out _ hd) ?_; rintro e1 w8 ⟨cc, rfl, HCC, hb8⟩; obtain ⟨z0, z1, z2, z3, z4⟩ := (HXC.out w8 hb8).cells) | (go_at_call 19; refine Calls.mono (HE.out cc w8 HCC.out.1 HCC.out.2 hb8) ?_; rintro e2 w9 ⟨rfl, hb9⟩))
    all_goals
      go_wp2_with fail
      go_meet
      exact ⟨rfl, hb9⟩
  case rest =>
    obtain ⟨rfl, hcc⟩ := hcut
    have hs77 := hcc.size
    clear x0 x1 x2 x3 x4 a0 a1 a2 a3 a4
    have hb47 : Below W4.heap.size W4 wc := belOn hb47 (by omega) hcc
    have hbW7 : Below W0.heap.size W0 wc := belOn hbW7 (by omega) hcc
    have hbw7 : Below w.heap.size w wc := belOn hbw7 (by omega) hcc
    obtain ⟨b0, b1, b2, b3, b4⟩ := (xb.below hbW7 (by omega)).cells
    go_wp2_with fail
    have q := turned_any b hwb w.heap.size wc (by omega) (HB.out.keep hbw7 (Nat.le_refl _))
    rw [V.val_eq] at q
    refine q.mono ?_
    clear q b0 b1 b2 b3 b4
    rintro e w8 ⟨t, rfl, HT, hb8⟩
    have hs8 := hb8.size
    have hb48 : Below W4.heap.size W4 w8 := belOn hb47 (by omega) hb8
    obtain ⟨y0, y1, y2, y3, y4⟩ := (yy.below hb48 (by omega)).cells
    have hY8 : w4.heap.size < w8.heap.size := by omega
    go_wp2_with fail
    obtain ⟨W8, hW8⟩ : ∃ W8, w8.alloc (Obj.cells #[.int .i64 t.k, .int .u64 t.n, .string t.s, .slice t.a t.l.length t.c, .int .i64 t.e] 25) = W8 := ⟨_, rfl⟩
    have hb88 : Below w8.heap.size w8 W8 := by rw [← hW8]; exact bel1 (Below.refl _ _) (Nat.le_refl _) _
    have tt : BoxV W8 w8.heap.size t := by rw [← hW8]; exact BoxV.new w8 t
    have hs88 : W8.heap.size = w8.heap.size + 1 := by rw [← hW8]; simp
    rw [hW8]
    clear hW8 y0 y1 y2 y3 y4
    have hb4' : Below W4.heap.size W4 W8 := belOn hb48 (by omega) hb88
    have hbw8 : Below w.heap.size w W8 := belOn hbw44 (by omega) hb4'
    have hbW8 : Below W0.heap.size W0 W8 := belOn hbW44 (by omega) hb4'
    obtain ⟨htt, htl⟩ := HT.out
    have HTL : Hid (LiesIn (fun b => wc.heap.size ≤ b ∧ b < w8.heap.size) W8 t) := htl.keep (fun b hb o => hb88.cell (p := ⟨b, o, none⟩) hb.2) (fun _ h => h)
    have HXL8 := hide (HXL4.out.keep (w := W8) (fun b o q1 q2 q3 => (hb4'.block b (by omega)).trans q3))
    have HYL8 := hide (HYL4.out.keep (w := W8) (fun b o q1 q2 q3 => (hb4'.block b (by omega)).trans q3))
    have xa8 := xa.below hbW8 (by omega)
    have xb8 := xb.below hbW8 (by omega)
    have xx8 := xx44.below hb4' (by omega)
    have yy8 := yy.below hb4' (by omega)
    clear htl HT HXL4 HYL4 xx44 yy hb88 hb8 hb48 hb47 hbW7 hbw7
    have hty : t.t = T.turn y.t := by rw [htt, hyt]
    have q := over_any y t W3.heap.size w4.heap.size (fun b => wc.heap.size ≤ b ∧ b < w8.heap.size) W8 HYL8.out (by omega) HTL.out (fun b hb => ⟨by omega, by omega⟩) hty
    refine q.mono ?_
    clear q
    rintro e w9 ⟨rfl, HL9, ht9⟩
    have hs9 := ht9.size
    have xa9 := ht9.box xa8 (by omega)
    have xb9 := ht9.box xb8 (by omega)
    have xx9 := ht9.box xx8 (by omega)
    have yy9 := ht9.box yy8 (by omega)
    have tt9 := ht9.box tt (by omega)
    have fy := yy9.blk.free 1
    obtain ⟨x0, x1, x2, x3, x4⟩ := xx9.cells
    obtain ⟨y0, y1, y2, y3, y4⟩ := yy9.cells
    obtain ⟨t0, t1, t2, t3, t4⟩ := tt9.cells
    have hne1 : w3.heap.size ≠ w4.heap.size := by omega
    go_wp2_with fail
    clear x0 x1 x2 x3 x4 y0 y1 y2 y3 y4 t0 t1 t2 t3 t4 fy hne1
    obtain ⟨l', hll, hlt', hLz⟩ := HL9.out
    have okz := hLz.ok
    have okt := HTL.out.acc
    have htk : t.k = y.k := by
      have := congrArg V.k hty
      rw [V.t_acc t, V.t_acc y, T.turn_of] at this
      simpa [T.of, V.k_of] using this
    have hts : t.s = y.s := by
      have := congrArg V.s hty
      rw [V.t_acc t, V.t_acc y, T.turn_of] at this
      simpa [T.of, V.s_of] using this
    have hte : t.e = y.e := by
      have := congrArg V.e hty
      rw [V.t_acc t, V.t_acc y, T.turn_of] at this
      simpa [T.of, V.e_of] using this
    have hzt : (V.of y.k t.n y.s y.a y.c y.e l').t = t.t := by
      rw [V.t_of, V.t_acc t, htk, hts, hte, hlt']
    have hLz1 : Lent w9 (V.of y.k t.n y.s y.a y.c y.e l') W3.heap.size w4.heap.size := hLz.other ⟨okz.k, okt.n, okz.s, okz.e, okz.l, okz.c⟩
    clear hLz okz okt htk hts hte
    obtain ⟨W9, hW9⟩ : ∃ W9, w9.setCell ⟨w4.heap.size, 1, none⟩ (.int .u64 t.n) = W9 := ⟨_, rfl⟩
    have hs99 : W9.heap.size = w9.heap.size := by rw [← hW9]; simp [World.setCell]
    have tW9 : Turn2 w2.heap.size w3.heap.size W3.heap.size (w4.heap.size + 1) W8 W9 := by
      rw [← hW9]
      exact (Turn2.snd ht9 (Nat.le_refl _) (by omega)).setCell (by omega) (by omega) 1 _
    have hset : ∀ i, i ≠ w4.heap.size → W9.heap[i]? = w9.heap[i]? := fun i hi => by rw [← hW9]; exact Below.heap_setCell _ _ _ _ hi
    have HZ : Hid (Lent W9 (V.of y.k t.n y.s y.a y.c y.e l') W3.heap.size w4.heap.size) := hLz1.keep (fun b o q1 q2 q3 => (hset b (by omega)).trans q3)
    have HX : Hid (Lent W9 x w2.heap.size w3.heap.size) := HXL8.out.keep (fun b o q1 q2 q3 => (hset b (by omega)).trans ((ht9.block b (by omega) (by omega)).trans q3))
    have zz : BoxV W9 w4.heap.size (V.of y.k t.n y.s y.a y.c y.e l') := by rw [← hW9]; exact yy9.num t.n hll
    rw [hW9]
    clear hW9 hLz1 yy9 xa9 xb9 xx9 tt9 HXL8 HYL8 HL9 yy8 HXS HYS
    have xa9 := tW9.box xa8 (by omega) (by omega)
    have xb9 := tW9.box xb8 (by omega) (by omega)
    have xx9 := tW9.box xx8 (by omega) (by omega)
    have tt9 := tW9.box tt (by omega) (by omega)
    have HT9 : Hid (LiesIn (fun b => wc.heap.size ≤ b ∧ b < w8.heap.size) W9 t) := tW9.lies HTL.out (fun b hb => ⟨by omega, by omega, by omega⟩)
    have hbw9 : Below w.heap.size w W9 := hbw8.trans (tW9.below (by omega) (by omega) (by omega))
    clear xa8 xb8 xx8 tt HTL ht9 hset tW9 hbw8 hbW8 hb4'
    obtain ⟨r3, hr3⟩ : ∃ r3, eqT a.t t.t = r3 := ⟨_, rfl⟩
    have q := equal_any x (V.of y.k t.n y.s y.a y.c y.e l') w4.heap.size W9 (by omega) (HX.out.lies.keep (fun _ _ _ => rfl) (fun b h => by show b < w4.heap.size; omega)) (HZ.out.lies.keep (fun _ _ _ => rfl) (fun b h => by show b < w4.heap.size; omega))
    rw [V.val_eq, V.val_of, hll, hxt, hzt, hr3] at q
    refine q.mono ?_
    clear q
    rintro e w10 ⟨rfl, hb10⟩
    have hs10 := hb10.size
    obtain ⟨x0, x1, x2, x3, x4⟩ := (xx9.below hb10 (by omega)).cells
    obtain ⟨a0, a1, a2, a3, a4⟩ := (xa9.below hb10 (by omega)).cells
    go_wp2_with fail
    have hbw10 : Below w.heap.size w w10 := belOn hbw9 (by omega) hb10
    have q := asLent_any x a w2.heap.size w3.heap.size (fun b => b < w.heap.size) w10 (HX.out.keep (fun b o q1 q2 q3 => (hb10.block b (by omega)).trans q3)) (by omega) (HA.out.keep hbw10 (Nat.le_refl _)) (fun b hb => ⟨by omega, by omega⟩) hxt
    rw [V.val_eq, V.val_eq] at q
    refine q.mono ?_
    clear q x0 x1 x2 x3 x4 a0 a1 a2 a3 a4
    rintro e w11 ⟨rfl, ht11⟩
    have hs11 := ht11.size
    have zz11 := ht11.box (zz.below hb10 (by omega)) (by omega)
    have tt11 := ht11.box (tt9.below hb10 (by omega)) (by omega)
    obtain ⟨z0, z1, z2, z3, z4⟩ := zz11.cells
    obtain ⟨t0, t1, t2, t3, t4⟩ := tt11.cells
    rw [V.k_of] at z0
    rw [V.n_of] at z1
    rw [V.s_of] at z2
    rw [V.a_of, V.c_of, V.l_of, hll] at z3
    rw [V.e_of] at z4
    go_wp2_with fail
    have hbw11 : Below w.heap.size w w11 := hbw10.trans (ht11.below (by omega) (by omega))
    have hl11 : Lent w11 (V.of y.k t.n y.s y.a y.c y.e l') W3.heap.size w4.heap.size := HZ.out.keep (fun b o q1 q2 q3 => (ht11.block b (by omega) (by omega)).trans ((hb10.block b (by omega)).trans q3))
    have hT11 : LiesIn (fun b => wc.heap.size ≤ b ∧ b < w8.heap.size) w11 t := HT9.out.keep (fun b hb o => World.cell?_of_block ((ht11.block b (by omega) (by omega)).trans (hb10.block b (by omega)))) (fun _ h => h)
    have q := asLent_any (V.of y.k t.n y.s y.a y.c y.e l') t W3.heap.size w4.heap.size (fun b => wc.heap.size ≤ b ∧ b < w8.heap.size) w11 hl11 (by omega) hT11 (fun b hb => ⟨by omega, by omega⟩) hzt
    rw [V.val_of, V.val_eq, hll] at q
    refine q.mono ?_
    clear q t0 t1 t2 t3 t4 z0 z1 z2 z3 z4
    rintro e w12 ⟨rfl, ht12⟩
    have hs12 := ht12.size
    have HT12 : Hid (LiesIn (fun b => wc.heap.size ≤ b ∧ b < w8.heap.size) w12 t) := hT11.keep (fun b hb o => World.cell?_of_block (ht12.block b (by omega) (by omega))) (fun _ h => h)
    have hbw12 : Below w.heap.size w w12 := hbw11.trans (ht12.below (by omega) (by omega))
    have xa12 := ht12.box (ht11.box (xa9.below hb10 (by omega)) (by omega)) (by omega)
    have xb12 := ht12.box (ht11.box (xb9.below hb10 (by omega)) (by omega)) (by omega)
    have tt12 := ht12.box tt11 (by omega)
    clear hT11 hl11 HZ HX zz zz11 tt11 tt9 xa9 xb9 xx9 HT9 hbw9 hbw10 hbw11 ht11 ht12 hb10
    obtain ⟨a0, a1, a2, a3, a4⟩ := xa12.cells
    obtain ⟨b0, b1, b2, b3, b4⟩ := xb12.cells
    go_wp2_with fail
    have q := requal_any a b w.heap.size w12 (by omega) (HA.out.keep hbw12 (Nat.le_refl _)) (HB.out.keep hbw12 (Nat.le_refl _))
    rw [V.val_eq, V.val_eq, hr] at q
    refine q.mono ?_
    clear q a0 a1 a2 a3 a4 b0 b1 b2 b3 b4
    rintro e w14 ⟨rfl, hb24⟩
    have hs14 := hb24.size
    have hbw14 : Below w.heap.size w w14 := belOn hbw12 (by omega) hb24
    obtain ⟨a0, a1, a2, a3, a4⟩ := (xa12.below hb24 (by omega)).cells
    obtain ⟨t0, t1, t2, t3, t4⟩ := (tt12.below hb24 (by omega)).cells
    go_wp2_with fail
    have q := requal_any a t w8.heap.size w14 (by omega) ((HA.out.keep hbw14 (Nat.le_refl _)).mono (by omega)) (HT12.out.keep (fun b hb o => hb24.cell (p := ⟨b, o, none⟩) (by show b < w12.heap.size; omega)) (fun b h => h.2))
    rw [V.val_eq, V.val_eq, hr3] at q
    refine q.mono ?_
    clear q a0 a1 a2 a3 a4 t0 t1 t2 t3 t4
    rintro e w15 ⟨rfl, hb15⟩
    have hbw15 : Below w.heap.size w w15 := belOn hbw14 (by omega) hb15
    clear hr hr2 hr0 hr3
    cases r <;> cases r3
    all_goals
      go_wp2
      go_ret
      exact ⟨by simp, hbw15⟩
end Go.Proofs.YtdlkakllcfkhfaaDoor
