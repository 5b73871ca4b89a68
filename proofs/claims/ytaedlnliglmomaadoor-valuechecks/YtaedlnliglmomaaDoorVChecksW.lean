/- longshoreref02.check. What Check answers hangs on the tree alone. longshoreref02.Great; longshoreref02.Check. ValueChecks: its walk. ValueChecks: its walk, whole. -/
import Derived.Test.YtaedlnliglmomaaDoorVROwn
import Derived.Test.YtaedlnliglmomaaDoorVCheckA
import Derived.Test.YtaedlnliglmomaaDoorVAll
import Derived.Test.YtaedlnliglmomaaDoorVWeigh
import Derived.Test.YtaedlnliglmomaaDoorVTurn2
import Derived.Test.YtaedlnliglmomaaDoorVREq
import Derived.Test.YtaedlnliglmomaaDoorVSpell
namespace Go.Proofs.YtaedlnliglmomaaDoor
open Go.RowKit
set_option linter.unusedVariables false
set_option linter.unusedSimpArgs false

theorem firstE_append (z : Int × V → Int) (p q : List (Int × V)) : firstE z (p ++ q) = if firstE z p ≠ 0 then firstE z p else firstE z q := by
  induction p with
  | nil => simp [firstE]
  | cons x p ih =>
    rw [List.cons_append, firstE, firstE]
    by_cases h : z x ≠ 0
    · rw [if_pos h, if_pos h, if_pos h]
    · rw [if_neg h, if_neg h]
      exact ih
theorem alls_drop (d : Int) (l : List V) (i : Nat) (h : i < l.length) : V.alls d (l.drop i) = l[i].all d ++ V.alls d (l.drop (i + 1)) := by
  rw [List.drop_eq_getElem_cons h, V.alls]

/-- what check is asked -/
def RChkOk (x : V) : Prop := ∀ (d : Int) (n₀ : Nat) (w : World), n₀ ≤ w.heap.size → Lies n₀ w x →
  Calls Tryd.prog 36 #[x.val, .int .i64 d] w fun e w' => e = .returned (.int .i64 (firstE checkZ (x.all d))) ∧ Below w.heap.size w w'

set_option maxRecDepth 100000 in
set_option maxHeartbeats 4000000 in
theorem rcheck_any (hsp : SpellOk) : ∀ x, RChkOk x := by
  refine V.ind ?_
  intro k n s a c e l ih d n₀ w hn hx
  have HX := hide hx
  have IH := hide ih
  have hll := hx.ok.c
  have hlc := hx.ok.l
  have HO : Hid (∀ W, Below w.heap.size w W → Calls Tryd.prog 58 #[.agg #[.int .i64 k, .int .u64 n, .string s, .slice a l.length c, .int .i64 e], .int .i64 d] W fun e' w' => e' = .returned (.int .i64 (faultT d (V.of k n s a c e l).t)) ∧ Below W.heap.size W w') := fun W hW => by
    have q := own_any hsp (.of k n s a c e l) d n₀ W (by have := hW.size; omega) (hx.keep hW hn)
    rw [V.val_of] at q
    exact q
  obtain ⟨r, hr⟩ : ∃ r, faultT d (V.of k n s a c e l).t = r := ⟨_, rfl⟩
  have HF : Hid (firstE checkZ ((V.of k n s a c e l).all d) = if r ≠ 0 then r else firstE checkZ (V.alls (wrap64 (d + 1)) l)) := by
    show firstE checkZ ((V.of k n s a c e l).all d) = _
    rw [V.all_of, firstE]
    show (if faultT d (V.of k n s a c e l).t ≠ 0 then faultT d (V.of k n s a c e l).t else _) = _
    rw [hr]
  rw [hr] at HO
  clear hr hx ih hsp
  obtain ⟨W0, hW0⟩ : ∃ W0, w.alloc (Obj.cells #[.int .i64 k, .int .u64 n, .string s, .slice a l.length c, .int .i64 e] 25) = W0 := ⟨_, rfl⟩
  have hs0 : W0.heap.size = w.heap.size + 1 := by rw [← hW0]; simp
  have hb0 : Below w.heap.size w W0 := by rw [← hW0]; exact bel1 (Below.refl _ _) (Nat.le_refl _) _
  have xx : BoxV W0 w.heap.size (.of k n s a c e l) := by
    rw [← hW0]
    unfold BoxV
    rw [V.k_of, V.n_of, V.s_of, V.a_of, V.l_of, V.c_of, V.e_of]
    exact World.alloc_heap_new _ _
  rw [V.val_of]
  go_enter Tryd.func36, Tryd.ntmps36
  have HW0 := hide hW0
  clear hW0
  go_wp2_with fail
  rw [HW0.out]
  clear HW0
  refine (HO.out W0 hb0).mono ?_
  rintro e1 w1 ⟨rfl, hb1⟩
  have hs1 := hb1.size
  have hbw1 : Below w.heap.size w w1 := belOn hb0 (by omega) hb1
  by_cases hr0 : r = 0
  · subst hr0
    go_wp2_with fail
    go_loopw [5, 6] (fun ev u wr => ∃ i : Nat, ev = .int .i64 0 ∧ u = .int .i64 i ∧ i ≤ l.length ∧ Below W0.heap.size W0 wr ∧ Hid (firstE checkZ (V.alls (wrap64 (d + 1)) l) = firstE checkZ (V.alls (wrap64 (d + 1)) (l.drop i)))) (fun _ u _ => l.length - (intOf u).toNat)
    case atStart => exact ⟨0, rfl, rfl, Nat.zero_le _, hb1, rfl⟩
    case round =>
      obtain ⟨i, rfl, rfl, hi, hb, HI⟩ := hrel
      have hsz := hb.size
      have hbw : Below w.heap.size w wr := belOn hb0 (by omega) hb
      obtain ⟨m0, m1, m2, m3, m4⟩ := (xx.below hb (by omega)).cells
      rw [V.a_of, V.c_of, V.l_of] at m3
      clear m0 m1 m2 m4
      by_cases hil : i < l.length
      · obtain ⟨b, o, rfl, hlt, hr⟩ := HX.out.row (by omega)
        obtain ⟨x0, x1, x2, x3, x4⟩ := (hr.below hbw (by omega)) i hil
        have hbl : b < wr.heap.size := by omega
        have HR := hide hr
        clear hr
        have q := IH.out l[i] (List.getElem_mem hil) (wrap64 (d + 1)) n₀ wr (by omega) ((HX.out.sub _ (List.getElem_mem hil)).keep hbw hn)
        rw [V.val_eq] at q
        obtain ⟨z, hz⟩ : ∃ z, firstE checkZ (l[i].all (wrap64 (d + 1))) = z := ⟨_, rfl⟩
        rw [hz] at q
        have HST : Hid (firstE checkZ (V.alls (wrap64 (d + 1)) (l.drop i)) = if z ≠ 0 then z else firstE checkZ (V.alls (wrap64 (d + 1)) (l.drop (i + 1)))) := by
          show firstE checkZ (V.alls (wrap64 (d + 1)) (l.drop i)) = _
          rw [alls_drop _ l i hil, firstE_append, hz]
        have HQ := hide q
        clear q hz
        go_wp2_with fail
        refine HQ.out.mono ?_
        clear HQ x0 x1 x2 x3 x4 m3
        rintro e2 w2 ⟨rfl, hb2⟩
        have hs2 := hb2.size
        have hbn : Below W0.heap.size W0 w2 := belOn hb hsz hb2
        have hbwn : Below w.heap.size w w2 := belOn hbw (by omega) hb2
        by_cases hz0 : z = 0
        · subst hz0
          go_wp2
          go_roundw
          case rel => exact ⟨i + 1, rfl, by go_num, hil, hbn, by rw [HI.out, HST.out, if_neg (by simp)]; rfl⟩
          case measure => simp [intOf]; omega
        · have hzb : ((z : Int) == 0) = false := by simpa using hz0
          go_wp2
          go_ret
          refine ⟨?_, hbwn⟩
          rw [HF.out, if_neg (by simp), HI.out, HST.out, if_pos hz0]
          rfl
      · obtain rfl : i = l.length := by omega
        have HE : Hid (firstE checkZ (V.alls (wrap64 (d + 1)) l) = 0) := by
          show firstE checkZ (V.alls (wrap64 (d + 1)) l) = 0
          rw [HI.out, List.drop_length, V.alls, firstE]
        go_wp2
        go_ret
        refine ⟨?_, hbw⟩
        rw [HF.out, if_neg (by simp), HE.out]
        rfl
  · have hrb : ((r : Int) == 0) = false := by simpa using hr0
    go_wp2
    go_ret
    refine ⟨?_, hbw1⟩
    rw [HF.out, if_pos hr0]
    rfl
end Go.Proofs.YtaedlnliglmomaaDoor
namespace Go.Proofs.YtaedlnliglmomaaDoor
open Go.RowKit
set_option linter.unusedVariables false

theorem firstE_bare (p q : List (Int × V)) (h : bare p = bare q) : firstE checkZ p = firstE checkZ q := by
  induction p generalizing q with
  | nil =>
    cases q with
    | nil => rfl
    | cons y q => simp [bare] at h
  | cons x p ih =>
    cases q with
    | nil => simp [bare] at h
    | cons y q =>
      simp only [bare, List.map_cons, List.cons.injEq] at h
      obtain ⟨h1, h2⟩ := h
      have hz : checkZ x = checkZ y := by
        unfold checkZ
        simp only [Prod.mk.injEq] at h1
        rw [h1.1, h1.2]
      rw [firstE, firstE, hz, ih q h2]
theorem bare_append (p q : List (Int × V)) : bare (p ++ q) = bare p ++ bare q := by unfold bare; simp
theorem all_bare : ∀ x : V, ∀ (y : V) (d : Int), x.t = y.t → bare (x.all d) = bare (y.all d) := by
  refine V.ind ?_
  intro k n s a c e l ih y d h
  obtain ⟨k', n', s', a', c', e', m, rfl⟩ := V.ex y
  have h' := h
  rw [V.t_of, V.t_of] at h
  obtain ⟨rfl, rfl, rfl, _, _, rfl, hl⟩ := V.of_inj h
  rw [V.all_of, V.all_of]
  have hall : ∀ (l m : List V), (∀ x ∈ l, ∀ (y : V) (d : Int), x.t = y.t → bare (x.all d) = bare (y.all d)) → V.ts l = V.ts m → bare (V.alls (wrap64 (d + 1)) l) = bare (V.alls (wrap64 (d + 1)) m) := by
    intro l
    induction l with
    | nil =>
      intro m _ hm
      cases m with
      | nil => rfl
      | cons y m => simp [V.ts] at hm
    | cons x l ihl =>
      intro m hi hm
      cases m with
      | nil => simp [V.ts] at hm
      | cons y m =>
        simp only [V.ts, List.cons.injEq] at hm
        rw [V.alls, V.alls, bare_append, bare_append, hi x (by simp) y _ hm.1, ihl m (fun z hz => hi z (by simp [hz])) hm.2]
  have := hall l m ih hl
  unfold bare at this ⊢
  rw [List.map_cons, List.map_cons, this, h']
theorem check_same {x y : V} (h : x.t = y.t) (d : Int) : firstE checkZ (x.all d) = firstE checkZ (y.all d) := firstE_bare _ _ (all_bare x y d h)
end Go.Proofs.YtaedlnliglmomaaDoor
namespace Go.Proofs.YtaedlnliglmomaaDoor
open Go.RowKit
set_option linter.unusedVariables false
set_option linter.unusedSimpArgs false

/-- Great -/
theorem great_any (x : V) (n₀ : Nat) (w : World) (hn : n₀ ≤ w.heap.size) (hx : Lies n₀ w x) :
    Calls Tryd.prog 9 #[x.val] w fun e w' => (e = .returned (.bool true) ∧ Below w.heap.size w w') ∨ (e = .returned (.bool false) ∧ T.wt x.t ≤ 100000 ∧ Below w.heap.size w w') := by
  rw [V.val_eq]
  have HW : Hid (∀ w1, Below w.heap.size w w1 → Calls Tryd.prog 33 #[.agg #[.int .i64 x.k, .int .u64 x.n, .string x.s, .slice x.a x.l.length x.c, .int .i64 x.e], .int .i64 0] w1 fun e w' => ∃ z, e = .returned (.int .i64 z) ∧ Hid (0 ≤ z ∧ z ≤ 35184372088832 ∧ (z ≤ 100000 → z = 0 + T.wt x.t)) ∧ Below w1.heap.size w1 w') := by
    intro w1 hb
    have := weigh_any x 0 n₀ w1 (by have := hb.size; omega) (hx.keep hb hn) (by omega) (by omega)
    rwa [V.val_eq] at this
  clear hx
  go_enter Tryd.func9, Tryd.ntmps9
  go_wp2_with fail
  refine Calls.mono (HW.out _ (bel1 (Below.refl _ _) (Nat.le_refl _) _)) ?_
  rintro e w1 ⟨z, rfl, HZ, hb1⟩
  have hbw := belOn (bel1 (Below.refl w.heap.size w) (Nat.le_refl _) _) (by simp) hb1
  by_cases hz : z ≤ 100000
  · go_wp2
    go_ret
    exact .inr ⟨by first | rfl | (simp; omega), by have := HZ.out.2.2 hz; omega, hbw⟩
  · go_wp2
    go_ret
    exact .inl ⟨by first | rfl | (simp; omega), hbw⟩

set_option maxRecDepth 100000 in
set_option maxHeartbeats 1000000 in
theorem refcheck_any (hsp : SpellOk) (x : V) (n₀ : Nat) (w : World) (hn : n₀ ≤ w.heap.size) (hx : Lies n₀ w x) :
    Calls Tryd.prog 16 #[x.val] w fun e w' => e = .returned (.int .i64 (firstE checkZ (x.all 1))) ∧ Below w.heap.size w w' := by
  rw [V.val_eq]
  have HC : Hid (∀ w1, Below w.heap.size w w1 → Calls Tryd.prog 36 #[.agg #[.int .i64 x.k, .int .u64 x.n, .string x.s, .slice x.a x.l.length x.c, .int .i64 x.e], .int .i64 1] w1 fun e w' => e = .returned (.int .i64 (firstE checkZ (x.all 1))) ∧ Below w1.heap.size w1 w') := by
    intro w1 hb
    have := rcheck_any hsp x 1 n₀ w1 (by have := hb.size; omega) (hx.keep hb hn)
    rwa [V.val_eq] at this
  clear hx
  go_enter Tryd.func16, Tryd.ntmps16
  go_wp2_with fail
  refine Calls.mono (HC.out _ (bel1 (Below.refl _ _) (Nat.le_refl _) _)) ?_
  rintro e w1 ⟨rfl, hb1⟩
  have hbw := belOn (bel1 (Below.refl w.heap.size w) (Nat.le_refl _) _) (by simp) hb1
  go_wp2
  go_ret
  exact ⟨rfl, hbw⟩
end Go.Proofs.YtaedlnliglmomaaDoor
namespace Go.Proofs.YtaedlnliglmomaaDoor
open Go.RowKit
set_option linter.unusedVariables false
set_option linter.unusedSimpArgs false

theorem eqT_self2 (x : T) : eqT x x = true := by
  unfold eqT
  have := neg_ord x x
  simp only [decide_eq_true_eq]
  omega

set_option maxRecDepth 100000 in
set_option maxHeartbeats 4000000 in
theorem checks_walk0 (hsp : SpellOk) (b : V) (w : World) (hb : Lies w.heap.size w b) (hT : Lib.Utf8Tabs 0 1 w) :
    Calls Tryd.prog 3 #[b.val] w fun e w' => e = .returned (.bool true) ∧ Below w.heap.size w w' := by
  have HB := hide hb
  have HT := hide hT
  have HSP := hide hsp
  clear hb hT hsp
  rw [V.val_eq]
  go_enter Tryd.func3, Tryd.ntmps3
  go_wp2_with fail
  obtain ⟨W0, hW0⟩ : ∃ W0, w.alloc (Obj.cells #[.int .i64 b.k, .int .u64 b.n, .string b.s, .slice b.a b.l.length b.c, .int .i64 b.e] 25) = W0 := ⟨_, rfl⟩
  have hs0 : W0.heap.size = w.heap.size + 1 := by rw [← hW0]; simp
  have hb0 : Below w.heap.size w W0 := by rw [← hW0]; exact bel1 (Below.refl _ _) (Nat.le_refl _) _
  have xb : BoxV W0 w.heap.size b := by rw [← hW0]; exact BoxV.new w b
  rw [hW0]
  clear hW0
  refine (awake_any W0).mono ?_
  rintro e w1 ⟨rfl, hb1⟩
  have hs1 := hb1.size
  obtain ⟨b0, b1, b2, b3, b4⟩ := (xb.below hb1 (by omega)).cells
  go_wp2_with fail
  have hbw1 : Below w.heap.size w w1 := belOn hb0 (by omega) hb1
  have q := great_any b w.heap.size w1 (by omega) (HB.out.keep hbw1 (Nat.le_refl _))
  rw [V.val_eq] at q
  refine q.mono ?_
  clear q
  rintro e w2 (⟨rfl, hb2⟩ | ⟨rfl, hwb, hb2⟩)
  · go_wp2
    go_ret
    exact ⟨rfl, belOn hbw1 (by omega) hb2⟩
  have hbW2 : Below W0.heap.size W0 w2 := belOn hb1 hs1 hb2
  have hbw2 : Below w.heap.size w w2 := belOn hbw1 (by omega) hb2
  have hs2 := hbW2.size
  clear b0 b1 b2 b3 b4 hb2 hb1 hbw1
  obtain ⟨b0, b1, b2, b3, b4⟩ := (xb.below hbW2 (by omega)).cells
  go_wp2_with fail
  have q := lent_any b hwb w.heap.size w2 (by omega) (HB.out.keep hbw2 (Nat.le_refl _))
  rw [V.val_eq] at q
  refine q.mono ?_
  clear q b0 b1 b2 b3 b4
  rintro e w4 ⟨y, rfl, HY, hb4⟩
  have hs4 := hb4.size
  have hbW4 : Below W0.heap.size W0 w4 := belOn hbW2 hs2 hb4
  have hbw4 : Below w.heap.size w w4 := belOn hbw2 (by omega) hb4
  go_wp2_with fail
  obtain ⟨W4, hW4⟩ : ∃ W4, w4.alloc (Obj.cells #[.int .i64 y.k, .int .u64 y.n, .string y.s, .slice y.a y.l.length y.c, .int .i64 y.e] 25) = W4 := ⟨_, rfl⟩
  have hb44 : Below w4.heap.size w4 W4 := by rw [← hW4]; exact bel1 (Below.refl _ _) (Nat.le_refl _) _
  have yy : BoxV W4 w4.heap.size y := by rw [← hW4]; exact BoxV.new w4 y
  have hs44 : W4.heap.size = w4.heap.size + 1 := by rw [← hW4]; simp
  rw [hW4]
  clear hW4
  have hbW44 : Below W0.heap.size W0 W4 := belOn hbW4 (by omega) hb44
  have hbw44 : Below w.heap.size w W4 := belOn hbw4 (by omega) hb44
  obtain ⟨hyt, hyl⟩ := HY.out
  have HYL4 := hide (hyl.keep (w := W4) (fun b o q1 q2 q3 => (hb44.block b q2).trans q3))
  clear hyl HY hb44 hb4
  obtain ⟨z1, hz1⟩ : ∃ z1, firstE checkZ (b.all 1) = z1 := ⟨_, rfl⟩
  have q := check_any y W4.heap.size W4 (Nat.le_refl _) (HYL4.out.lies.keep (fun _ _ _ => rfl) (fun b h => by show b < W4.heap.size; have := h.2; omega)) (tabs_below HT.out hbw44)
  rw [V.val_eq, check_same hyt 1, hz1] at q
  refine q.mono ?_
  clear q
  rintro e w5 ⟨rfl, hb5⟩
  have hs5 := hb5.size
  have hbW5 : Below W0.heap.size W0 w5 := belOn hbW44 (by omega) hb5
  have hbw5 : Below w.heap.size w w5 := belOn hbw44 (by omega) hb5
  obtain ⟨b0, b1, b2, b3, b4⟩ := (xb.below hbW5 (by omega)).cells
  go_wp2_with fail
  have q := turned_any b hwb w.heap.size w5 (by omega) (HB.out.keep hbw5 (Nat.le_refl _))
  rw [V.val_eq] at q
  refine q.mono ?_
  clear q b0 b1 b2 b3 b4
  rintro e w8 ⟨t, rfl, HTT, hb8⟩
  have hs8 := hb8.size
  have hb48 : Below W4.heap.size W4 w8 := belOn hb5 (by omega) hb8
  have hbW8 : Below W0.heap.size W0 w8 := belOn hbW44 (by omega) hb48
  have hbw8 : Below w.heap.size w w8 := belOn hbw44 (by omega) hb48
  obtain ⟨y0, y1, y2, y3, y4⟩ := (yy.below hb48 (by omega)).cells
  obtain ⟨b0, b1, b2, b3, b4⟩ := (xb.below hbW8 (by omega)).cells
  have hY8 : w4.heap.size < w8.heap.size := by omega
  have hB8 : w.heap.size < w8.heap.size := by omega
  go_wp2_with fail
  clear y0 y1 y2 y3 y4 b0 b1 b2 b3 b4
  obtain ⟨W8, hW8⟩ : ∃ W8, w8.alloc (Obj.cells #[.int .i64 t.k, .int .u64 t.n, .string t.s, .slice t.a t.l.length t.c, .int .i64 t.e] 25) = W8 := ⟨_, rfl⟩
  have hb88 : Below w8.heap.size w8 W8 := by rw [← hW8]; exact bel1 (Below.refl _ _) (Nat.le_refl _) _
  have tt : BoxV W8 w8.heap.size t := by rw [← hW8]; exact BoxV.new w8 t
  have hs88 : W8.heap.size = w8.heap.size + 1 := by rw [← hW8]; simp
  rw [hW8]
  clear hW8
  have hb4' : Below W4.heap.size W4 W8 := belOn hb48 (by omega) hb88
  have hbw88 : Below w.heap.size w W8 := belOn hbw44 (by omega) hb4'
  have hbW88 : Below W0.heap.size W0 W8 := belOn hbW44 (by omega) hb4'
  obtain ⟨htt, htl⟩ := HTT.out
  have HTL : Hid (LiesIn (fun b => w5.heap.size ≤ b ∧ b < w8.heap.size) W8 t) := htl.keep (fun b hb o => hb88.cell (p := ⟨b, o, none⟩) hb.2) (fun _ h => h)
  have HYL8 := hide (HYL4.out.keep (w := W8) (fun b o q1 q2 q3 => (hb4'.block b (by omega)).trans q3))
  have yy8 := yy.below hb4' (by omega)
  clear htl HTT HYL4 hb8 hb48 hb88 hbw8 hbW8
  have q := requal_any y b w8.heap.size W8 (by omega) (HYL8.out.lies.keep (fun _ _ _ => rfl) (fun b h => by show b < w8.heap.size; have := h.2; omega)) ((HB.out.keep hbw88 (Nat.le_refl _)).mono (by omega))
  rw [V.val_eq, V.val_eq, hyt, eqT_self2] at q
  refine q.mono ?_
  clear q
  rintro e w10 ⟨rfl, hb10⟩
  have hs10 := hb10.size
  have hbw10 : Below w.heap.size w w10 := belOn hbw88 (by omega) hb10
  have hbW10 : Below W0.heap.size W0 w10 := belOn hbW88 (by omega) hb10
  have HYL10 := hide (HYL8.out.keep (w := w10) (fun b o q1 q2 q3 => (hb10.block b (by omega)).trans q3))
  have HTL10 : Hid (LiesIn (fun b => w5.heap.size ≤ b ∧ b < w8.heap.size) w10 t) := HTL.out.keep (fun b hb o => hb10.cell (p := ⟨b, o, none⟩) (by show b < W8.heap.size; have := hb.2; omega)) (fun _ h => h)
  have yy10 := yy8.below hb10 (by omega)
  have tt10 := tt.below hb10 (by omega)
  have xb10 := xb.below hbW10 (by omega)
  clear yy8 tt HYL8 HTL hb10 hb4'
  obtain ⟨y0, y1, y2, y3, y4⟩ := yy10.cells
  obtain ⟨t0, t1, t2, t3, t4⟩ := tt10.cells
  have hty : t.t = T.turn y.t := by rw [htt, hyt]
  go_wp2_with fail
  clear y0 y1 y2 y3 y4 t0 t1 t2 t3 t4
  have q := over_any y t w2.heap.size w4.heap.size (fun b => w5.heap.size ≤ b ∧ b < w8.heap.size) w10 HYL10.out (by omega) HTL10.out (fun b hb => ⟨by have := hb.2; omega, by have := hb.1; omega⟩) hty
  refine q.mono ?_
  clear q
  rintro e w9 ⟨rfl, HL9, ht9⟩
  have hs9 := ht9.size
  have xb9 := ht9.box xb10 (by omega)
  have yy9 := ht9.box yy10 (by omega)
  have tt9 := ht9.box tt10 (by omega)
  have fy := yy9.blk.free 1
  obtain ⟨y0, y1, y2, y3, y4⟩ := yy9.cells
  obtain ⟨t0, t1, t2, t3, t4⟩ := tt9.cells
  go_wp2_with fail
  clear y0 y1 y2 y3 y4 t0 t1 t2 t3 t4 fy
  obtain ⟨l', hll, hlt', hLz⟩ := HL9.out
  have okz := hLz.ok
  have okt := HTL10.out.acc
  have htk : t.k = y.k := by
    have := congrArg V.k hty
    rw [V.t_acc t, V.t_acc y, T.turn_of] at this
    simpa [T.of, V.k_of] using this
  have hts : t.s = y.s := by
    have := congrArg V.s hty
    rw [V.t_acc t, V.t_acc y, T.turn_of] at this
    simpa [T.of, V.s_of] using this
  have hte : t.e = y.e := by
    have := congrArg V.e hty
    rw [V.t_acc t, V.t_acc y, T.turn_of] at this
    simpa [T.of, V.e_of] using this
  have hzt : (V.of y.k t.n y.s y.a y.c y.e l').t = t.t := by
    rw [V.t_of, V.t_acc t, htk, hts, hte, hlt']
  have hLz1 : Lent w9 (V.of y.k t.n y.s y.a y.c y.e l') w2.heap.size w4.heap.size := hLz.other ⟨okz.k, okt.n, okz.s, okz.e, okz.l, okz.c⟩
  clear hLz okz okt htk hts hte
  obtain ⟨W9, hW9⟩ : ∃ W9, w9.setCell ⟨w4.heap.size, 1, none⟩ (.int .u64 t.n) = W9 := ⟨_, rfl⟩
  have hs99 : W9.heap.size = w9.heap.size := by rw [← hW9]; simp [World.setCell]
  have hset : ∀ i, i ≠ w4.heap.size → W9.heap[i]? = w9.heap[i]? := fun i hi => by rw [← hW9]; exact Below.heap_setCell _ _ _ _ hi
  have HZ : Hid (Lent W9 (V.of y.k t.n y.s y.a y.c y.e l') w2.heap.size w4.heap.size) := hLz1.keep (fun b o q1 q2 q3 => (hset b (by omega)).trans q3)
  have zz : BoxV W9 w4.heap.size (V.of y.k t.n y.s y.a y.c y.e l') := by rw [← hW9]; exact yy9.num t.n hll
  have hbw9 : Below w.heap.size w W9 := by
    rw [← hW9]
    exact (hbw10.trans (ht9.below (by omega) (by omega))).setCell (p := ⟨w4.heap.size, 1, none⟩) (by show w.heap.size ≤ w4.heap.size; omega) _
  rw [hW9]
  clear hW9 hLz1
  have xb99 : BoxV W9 w.heap.size b := (hset _ (by omega)).trans xb9
  have tt99 : BoxV W9 w8.heap.size t := (hset _ (by omega)).trans tt9
  have HT9 : Hid (LiesIn (fun b => w5.heap.size ≤ b ∧ b < w8.heap.size) W9 t) := HTL10.out.keep (fun b hb o => World.cell?_of_block ((hset b (by have := hb.1; omega)).trans (ht9.block b (by have := hb.2; omega) (by have := hb.1; omega)))) (fun _ h => h)
  clear yy9 xb9 tt9 yy10 tt10 xb10 HYL10 HTL10 HL9 ht9 hset
  obtain ⟨z2, hz2⟩ : ∃ z2, firstE checkZ (t.all 1) = z2 := ⟨_, rfl⟩
  have q := check_any (V.of y.k t.n y.s y.a y.c y.e l') W9.heap.size W9 (Nat.le_refl _) (HZ.out.lies.keep (fun _ _ _ => rfl) (fun b h => by show b < W9.heap.size; have := h.2; omega)) (tabs_below HT.out hbw9)
  rw [V.val_of, hll, check_same hzt 1, hz2] at q
  refine q.mono ?_
  clear q
  rintro e w11 ⟨rfl, hb11⟩
  have hs11 := hb11.size
  have hbw11 : Below w.heap.size w w11 := belOn hbw9 (by omega) hb11
  have zz11 := zz.below hb11 (by omega)
  have tt11 := tt99.below hb11 (by omega)
  have xb11 := xb99.below hb11 (by omega)
  obtain ⟨y0, y1, y2, y3, y4⟩ := zz11.cells
  rw [V.k_of] at y0
  rw [V.n_of] at y1
  rw [V.s_of] at y2
  rw [V.a_of, V.c_of, V.l_of, hll] at y3
  rw [V.e_of] at y4
  obtain ⟨t0, t1, t2, t3, t4⟩ := tt11.cells
  go_wp2_with fail
  have hl11 : Lent w11 (V.of y.k t.n y.s y.a y.c y.e l') w2.heap.size w4.heap.size := HZ.out.keep (fun b o q1 q2 q3 => (hb11.block b (by omega)).trans q3)
  have hT11 : LiesIn (fun b => w5.heap.size ≤ b ∧ b < w8.heap.size) w11 t := HT9.out.keep (fun b hb o => hb11.cell (p := ⟨b, o, none⟩) (by show b < W9.heap.size; have := hb.2; omega)) (fun _ h => h)
  have q := asLent_any (V.of y.k t.n y.s y.a y.c y.e l') t w2.heap.size w4.heap.size (fun b => w5.heap.size ≤ b ∧ b < w8.heap.size) w11 hl11 (by omega) hT11 (fun b hb => ⟨by have := hb.2; omega, by have := hb.1; omega⟩) hzt
  rw [V.val_of, V.val_eq, hll] at q
  refine q.mono ?_
  clear q t0 t1 t2 t3 t4 y0 y1 y2 y3 y4
  rintro e w12 ⟨rfl, ht12⟩
  have hs12 := ht12.size
  have HT12 : Hid (LiesIn (fun b => w5.heap.size ≤ b ∧ b < w8.heap.size) w12 t) := hT11.keep (fun b hb o => World.cell?_of_block (ht12.block b (by have := hb.2; omega) (by have := hb.1; omega))) (fun _ h => h)
  have hbw12 : Below w.heap.size w w12 := hbw11.trans (ht12.below (by omega) (by omega))
  have xb12 := ht12.box xb11 (by omega)
  have tt12 := ht12.box tt11 (by omega)
  clear hl11 hT11 ht12 HZ HT9
  obtain ⟨b0, b1, b2, b3, b4⟩ := xb12.cells
  go_wp2_with fail
  have q := check_any b w.heap.size w12 (by omega) (HB.out.keep hbw12 (Nat.le_refl _)) (tabs_below HT.out hbw12)
  rw [V.val_eq, hz1] at q
  refine q.mono ?_
  clear q b0 b1 b2 b3 b4
  rintro e w13 ⟨rfl, hb13⟩
  have hs13 := hb13.size
  have hbw13 : Below w.heap.size w w13 := belOn hbw12 (by omega) hb13
  obtain ⟨b0, b1, b2, b3, b4⟩ := (xb12.below hb13 (by omega)).cells
  go_wp2_with fail
  have q := refcheck_any HSP.out b w.heap.size w13 (by omega) (HB.out.keep hbw13 (Nat.le_refl _))
  rw [V.val_eq, hz1] at q
  refine q.mono ?_
  clear q b0 b1 b2 b3 b4
  rintro e w14 ⟨rfl, hb14⟩
  have hs14 := hb14.size
  have hbw14 : Below w.heap.size w w14 := belOn hbw13 (by omega) hb14
  have hb24 : Below w12.heap.size w12 w14 := belOn hb13 hs13 hb14
  obtain ⟨t0, t1, t2, t3, t4⟩ := (tt12.below hb24 (by omega)).cells
  go_wp2_with fail
  have q := refcheck_any HSP.out t w8.heap.size w14 (by omega) (LiesIn.keep HT12.out (fun b hb o => hb24.cell (p := ⟨b, o, none⟩) (by show b < w12.heap.size; have := hb.2; omega)) (fun b h => h.2))
  rw [V.val_eq, hz2] at q
  refine q.mono ?_
  clear q t0 t1 t2 t3 t4
  rintro e w15 ⟨rfl, hb15⟩
  have hbw15 : Below w.heap.size w w15 := belOn hbw14 (by omega) hb15
  clear hz1 hz2
  go_wp2
  go_ret
  exact ⟨by simp, hbw15⟩
end Go.Proofs.YtaedlnliglmomaaDoor
namespace Go.Proofs.YtaedlnliglmomaaDoor
open Go.RowKit
theorem checks_walk (b : V) (w : World) (hb : Lies w.heap.size w b) (hT : Lib.Utf8Tabs 0 1 w) :
    Calls Tryd.prog 3 #[b.val] w fun e w' => e = .returned (.bool true) ∧ Below w.heap.size w w' := checks_walk0 spelled_any b w hb hT
end Go.Proofs.YtaedlnliglmomaaDoor
