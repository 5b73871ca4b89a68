/- value.Find. -/
import Derived.Test.YtaedlnliglmomaaDoorVCopyO
import Derived.Test.YtaedlnliglmomaaDoorVEq
import Derived.Test.YtaedlnliglmomaaDoorVWalk
import Derived.Deep.RegionWith
namespace Go.Proofs.YtaedlnliglmomaaDoor
open Go.RowKit
set_option linter.unusedVariables false
set_option linter.unusedSimpArgs false

/-- what stands behind a key -/
def findL (key : T) : List T → Option T
  | a :: b :: r => if eqT a key then some b else findL key r
  | _ => none
/-- what a map has at a key -/
def findT (m key : T) : Option T := if V.k m = 22 then findL key (V.l m) else none
def zeroT : T := T.of 0 0 ⟨#[]⟩ 0 []
theorem findL_end (key : T) (l : List T) (h : l.length ≤ 1) : findL key l = none := by
  match l with
  | [] => rfl
  | [_] => rfl
  | _ :: _ :: _ => simp at h
theorem findL_step (key : T) (l : List T) (j : Nat) (h : j + 1 < l.length) : findL key (l.drop j) = if eqT l[j] key then some l[j + 1] else findL key (l.drop (j + 2)) := by
  rw [List.drop_eq_getElem_cons (by omega), List.drop_eq_getElem_cons h, findL]
theorem ts_get (l : List V) (j : Nat) (h : j < l.length) : (V.ts l)[j]'(by rw [V.ts_length]; exact h) = l[j].t := by
  simp [V.ts_map]
theorem findT_not {m key : T} (h : V.k m ≠ 22) : findT m key = none := by unfold findT; rw [if_neg h]
theorem findT_map {m key : T} (h : V.k m = 22) : findT m key = findL key (V.l m) := by unfold findT; rw [if_pos h]

theorem BoxV.own5 {W : World} {b : Nat} {v : V} (h : BoxV W b v) : Blk W b 25 5 := ⟨_, h, rfl⟩

/-- what Find hands back -/
def FindPost (m key : V) (w : World) (e : Ending) (w' : World) : Prop := ∃ (y : V) (b : Bool), e = .returned (.tuple #[.agg #[.int .i64 y.k, .int .u64 y.n, .string y.s, .slice y.a y.l.length y.c, .int .i64 y.e], .bool b]) ∧
  Hid ((b = (findT m.t key.t).isSome ∧ y.t = (findT m.t key.t).getD zeroT) ∧ LiesIn (fun b => w.heap.size ≤ b ∧ b < w'.heap.size) w' y ∧ Owns w' w.heap.size w'.heap.size y.slots) ∧ Below w.heap.size w w'

set_option maxRecDepth 100000 in
set_option maxHeartbeats 2000000 in
theorem find_any (m y : V) (n₀ : Nat) (w : World) (hn : n₀ ≤ w.heap.size) (hm : Lies n₀ w m) (hy : Lies n₀ w y) :
    Calls Tryd.prog 18 #[m.val, y.val] w (FindPost m y w) := by
  obtain ⟨k, n, s, a, c, e, l, rfl⟩ := V.ex m
  have HM := hide hm
  have HY := hide hy
  have hll := hm.ok.c
  have hlc := hm.ok.l
  clear hm hy
  rw [V.val_of, V.val_eq]
  obtain ⟨W0, hW0⟩ : ∃ W0, ((w.alloc (Obj.cells #[.int .i64 k, .int .u64 n, .string s, .slice a l.length c, .int .i64 e] 25)).alloc (Obj.cells #[.int .i64 y.k, .int .u64 y.n, .string y.s, .slice y.a y.l.length y.c, .int .i64 y.e] 25)).alloc (Obj.cells #[.int .i64 0, .int .u64 0, .string ⟨#[]⟩, .slice none 0 0, .int .i64 0] 25) = W0 := ⟨_, rfl⟩
  have hs0 : W0.heap.size = w.heap.size + 3 := by rw [← hW0]; simp
  have hb0 : Below w.heap.size w W0 := by rw [← hW0]; exact bel1 (bel2 (Below.refl _ _) (Nat.le_refl _) _ _) (by simp; omega) _
  have xm : BoxV W0 w.heap.size (.of k n s a c e l) := by
    rw [← hW0]
    unfold BoxV
    rw [V.k_of, V.n_of, V.s_of, V.a_of, V.l_of, V.c_of, V.e_of]
    exact heap_past (heap_past (World.alloc_heap_new _ _) _) _
  have xy : BoxV W0 (w.heap.size + 1) y := by
    rw [← hW0]
    exact heap_past (heap_at1 _ _ _) _
  have xz : BoxV W0 (w.heap.size + 1 + 1) (.of 0 0 ⟨#[]⟩ none 0 0 []) := by
    rw [← hW0]
    unfold BoxV
    rw [V.k_of, V.n_of, V.s_of, V.a_of, V.l_of, V.c_of, V.e_of]
    exact heap_at2 _ _ _ _
  have HW0 := hide hW0
  clear hW0
  have HNONE : Hid (∀ wr e', findT (V.of k n s a c e l).t y.t = none → Below w.heap.size w wr → e' = .returned (.tuple #[.agg #[.int .i64 0, .int .u64 0, .string ⟨#[]⟩, .slice none 0 0, .int .i64 0], .bool false]) → FindPost (.of k n s a c e l) y w e' wr) := fun wr e' hf hb he => by
    subst he
    refine ⟨.of 0 0 ⟨#[]⟩ none 0 0 [], false, rfl, ⟨⟨by rw [hf]; rfl, by rw [hf, V.t_of]; rfl⟩, .mk ⟨by decide, by decide, by decide, by decide, by simp, by simp⟩ (by simp) (by simp), ?_⟩, hb⟩
    rw [V.slots_of]
    exact Owns.nought _ _ _
  by_cases hk : k = 22
  · subst hk
    have HF : Hid (findT (V.of 22 n s a c e l).t y.t = findL y.t (V.ts l)) := by
      show findT (V.of 22 n s a c e l).t y.t = findL y.t (V.ts l)
      rw [V.t_of, findT_map (by show V.k (V.of 22 n s none 0 e (V.ts l)) = 22; rw [V.k_of])]
      show findL y.t (V.l (V.of 22 n s none 0 e (V.ts l))) = _
      rw [V.l_of]
    go_enter Tryd.func18, Tryd.ntmps18
    go_wp2
    rw [HW0.out]
    clear HW0
    go_loopw [6] (fun u wr => ∃ i : Nat, u = .int .i64 i ∧ i ≤ l.length + 1 ∧ Below W0.heap.size W0 wr ∧ Hid (findL y.t (V.ts l) = findL y.t ((V.ts l).drop i))) (fun u _ => l.length + 2 - (intOf u).toNat)
    case atStart => exact ⟨0, rfl, by omega, Below.refl _ _, rfl⟩
    case round =>
      obtain ⟨i, rfl, hi, hb, HO⟩ := hrel
      have hsz := hb.size
      have hbw : Below w.heap.size w wr := belOn hb0 (by omega) hb
      obtain ⟨m0, m1, m2, m3, m4⟩ := (xm.below hb (by omega)).cells
      rw [V.a_of, V.c_of, V.l_of] at m3
      clear m0 m1 m2 m4
      by_cases hil : i + 1 < l.length
      · obtain ⟨b, o, rfl, hlt, hr⟩ := HM.out.row (by omega)
        obtain ⟨x0, x1, x2, x3, x4⟩ := (hr.below hbw (by omega)) i (by omega)
        obtain ⟨y0, y1, y2, y3, y4⟩ := (xy.below hb (by omega)).cells
        have hbl : b < wr.heap.size := by omega
        have hmx : Tryd.prog.follows .mixedOrders = true := by kernel_rfl
        have hx := equal_any l[i] y n₀ wr.drew (by show _ ≤ wr.heap.size; omega) ((HM.out.sub _ (List.getElem_mem (by omega))).keep hbw.drew hn) (HY.out.keep hbw.drew hn)
        rw [V.val_eq, V.val_eq] at hx
        have HH := hide hx
        have HST : Hid (findL y.t ((V.ts l).drop i) = if eqT l[i].t y.t then some l[i + 1].t else findL y.t ((V.ts l).drop (i + 2))) := by
          show findL y.t ((V.ts l).drop i) = _
          rw [findL_step _ _ _ (by rw [V.ts_length]; exact hil), ts_get l i (by omega), ts_get l (i + 1) hil]
        have HR := hide hr
        clear hx hr
        go_wp2
        go_region_with (go_at_call 32; refine HH.out.mono ?_; rintro e1 w1 ⟨rfl, hb1⟩; have hbn : Below W0.heap.size W0 w1 := hb.drew.trans (hb1.mono (by show _ ≤ wr.heap.size; omega)))
        all_goals
          generalize hr0 : eqT l[i].t y.t = r
          rw [hr0] at HST
          clear hr0 m3 x0 x1 x2 x3 x4 y0 y1 y2 y3 y4 HH
          have hs1 := hbn.size
          have hbwn : Below w.heap.size w w1 := belOn hb0 (by omega) hbn
          cases r
          · go_wp2
            go_roundw
            case rel => exact ⟨i + 2, by go_num, by omega, hbn, by rw [HO.out, HST.out]; rfl⟩
            case measure => simp [intOf]; omega
          · obtain ⟨x0, x1, x2, x3, x4⟩ := (HR.out.below hbwn (by omega)) (i + 1) hil
            obtain ⟨m0, m1, m2, m3, m4⟩ := (xm.below hbn (by omega)).cells
            rw [V.a_of, V.c_of, V.l_of] at m3
            clear m0 m1 m2 m4
            have HC := hide (copiedO_any l[i + 1] n₀ w1 (by omega) ((HM.out.sub _ (List.getElem_mem hil)).keep hbwn hn))
            rw [V.val_eq] at HC
            go_wp2_with fail
            refine HC.out.mono ?_
            rintro e2 w2 ⟨z, rfl, HZ, hb2⟩
            have hs2 := hb2.size
            have xz2 := (xz.below hbn (by omega)).below hb2 (by omega)
            obtain ⟨c0, c1, c2, c3, c4⟩ := xz2.cells
            have f0 := xz2.own5.free
            have hbw2 : Below w.heap.size w w2 := belOn hbwn (by omega) hb2
            have hz2 : w.heap.size + 1 + 1 < w2.heap.size := by omega
            have HB2 := hide hb2
            clear hb2 x0 x1 x2 x3 x4 m3 HC xz2
            go_wp2
            have hsm : ∀ b', b' ≠ w.heap.size + 1 + 1 → (put5 w2 (w.heap.size + 1 + 1) 0 z).heap[b']? = w2.heap[b']? := fun b' n1 => put5_heap _ _ _ _ _ n1
            have hsn := put5_size w2 (w.heap.size + 1 + 1) 0 z
            have hbz : Below w.heap.size w _ := put5_below (y := z) (o := 0) (b := w.heap.size + 1 + 1) hbw2 (by omega)
            rw [← put5_eq] at hsm hsn hbz
            obtain ⟨⟨t1, t2⟩, t3⟩ := HZ.out
            have hfs : findT (V.of 22 n s (some ⟨b, o, none⟩) c e l).t y.t = some l[i + 1].t := by rw [HF.out, HO.out, HST.out]; rfl
            refine bodyPost_ret (v := .tuple #[.agg #[.int .i64 z.k, .int .u64 z.n, .string z.s, .slice z.a z.l.length z.c, .int .i64 z.e], .bool true]) (by simp [results, Tryd.results18, go_sem, c0, c1, c2, c3, c4]) rfl ⟨z, true, rfl, ⟨⟨by rw [hfs]; rfl, by rw [hfs]; exact t1⟩, t2.keep (fun b' hb' o' => World.cell?_of_block (hsm b' (by have := hb'.1; omega))) (fun b' hb' => ⟨by have := hb'.1; omega, by rw [hsn]; exact hb'.2⟩), t3.keep (fun b' q1 q2 => hsm b' (by omega)) (by omega) (by rw [hsn]; exact Nat.le_refl _)⟩, hbz⟩
      · have hz2 : w.heap.size + 1 + 1 < wr.heap.size := by omega
        have xz2 := xz.below hb (by omega)
        obtain ⟨c0, c1, c2, c3, c4⟩ := xz2.cells
        have f0 := xz2.own5.free
        clear xz2
        go_wp2
        have hfs : findT (V.of 22 n s a c e l).t y.t = none := by
          rw [HF.out, HO.out]
          exact findL_end _ _ (by rw [List.length_drop, V.ts_length]; omega)
        have hbz : Below w.heap.size w _ := put5_below (y := .of 0 0 ⟨#[]⟩ none 0 0 []) (o := 0) (b := w.heap.size + 1 + 1) hbw (by omega)
        rw [← put5_of] at hbz
        exact bodyPost_ret (v := .tuple #[.agg #[.int .i64 0, .int .u64 0, .string ⟨#[]⟩, .slice none 0 0, .int .i64 0], .bool false]) (by simp [results, Tryd.results18, go_sem, c0, c1, c2, c3, c4]) rfl (HNONE.out _ _ hfs hbz rfl)
  · have hkb : ((k : Int) == 22) = false := by simpa using hk
    have hkn : (k != 22) = true := by simpa using hk
    go_enter Tryd.func18, Tryd.ntmps18
    go_wp2
    rw [HW0.out]
    obtain ⟨z0, z1, z2, z3, z4⟩ := xz.cells
    rw [V.k_of] at z0
    rw [V.n_of] at z1
    rw [V.s_of] at z2
    rw [V.a_of, V.c_of, V.l_of] at z3
    rw [V.e_of] at z4
    exact bodyPost_ret (v := .tuple #[.agg #[.int .i64 0, .int .u64 0, .string ⟨#[]⟩, .slice none 0 0, .int .i64 0], .bool false]) (by simp [results, Tryd.results18, go_sem, z0, z1, z2, z3, z4]) rfl (HNONE.out _ _ (by rw [V.t_of]; exact findT_not (by show V.k (V.of k n s none 0 e (V.ts l)) ≠ 22; rw [V.k_of]; exact hk)) hb0 rfl)
end Go.Proofs.YtaedlnliglmomaaDoor
