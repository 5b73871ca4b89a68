/- VChecksW -/
import Derived.Test.YthhlpjhkeendcaaGreatDoorS31
import Derived.Test.YthhlpjhkeendcaaGreatDoorS30
import Derived.Test.YthhlpjhkeendcaaGreatDoorS21
import Derived.Test.YthhlpjhkeendcaaGreatDoorS07
import Derived.Test.YthhlpjhkeendcaaGreatDoorS22
import Derived.Test.YthhlpjhkeendcaaGreatDoorS10
import Derived.Test.YthhlpjhkeendcaaGreatDoorS32
namespace Go.Proofs.YthhlpjhkeendcaaGreatDoor
open Go.RowKit
set_option linter.unusedVariables false
set_option linter.unusedSimpArgs false
theorem firstE_append (z : Int × V → Int) (p q : List (Int × V)) : firstE z (p ++ q) = if firstE z p ≠ 0 then firstE z p else firstE z q := by
  induction p with
  | nil => simp [firstE]
  | cons x p ih =>
    rw [List.cons_append, firstE, firstE]
    by_cases h : z x ≠ 0
    · rw [if_pos h, if_pos h, if_pos h]
    · rw [if_neg h, if_neg h]
      exact ih
theorem alls_drop (d : Int) (l : List V) (i : Nat) (h : i < l.length) : V.alls d (l.drop i) = l[i].all d ++ V.alls d (l.drop (i + 1)) := by
  rw [List.drop_eq_getElem_cons h, V.alls]
def RChkOk (x : V) : Prop := ∀ (d : Int) (n₀ : Nat) (w : World), n₀ ≤ w.heap.size → Lies n₀ w x →
  Calls Tryz.prog 31 #[x.val, .int .i64 d] w fun e w' => e = .returned (.int .i64 (firstE checkZ (x.all d))) ∧ Below w.heap.size w w'
set_option maxRecDepth 100000 in
set_option maxHeartbeats 4000000 in
theorem rcheck_any (hsp : SpellOk) : ∀ x, RChkOk x := by
  refine V.ind ?_
  intro k n s a c e l ih d n₀ w hn hx
  have HX := hide hx
  have IH := hide ih
  have hll := hx.ok.c
  have hlc := hx.ok.l
  have HO : Hid (∀ W, Below w.heap.size w W → Calls Tryz.prog 43 #[.agg #[.int .i64 k, .int .u64 n, .string s, .slice a l.length c, .int .i64 e], .int .i64 d] W fun e' w' => e' = .returned (.int .i64 (faultT d (V.of k n s a c e l).t)) ∧ Below W.heap.size W w') := fun W hW => by
    have q := own_any hsp (.of k n s a c e l) d n₀ W (by have := hW.size; omega) (hx.keep hW hn)
    rw [V.val_of] at q
    exact q
  obtain ⟨r, hr⟩ : ∃ r, faultT d (V.of k n s a c e l).t = r := ⟨_, rfl⟩
  have HF : Hid (firstE checkZ ((V.of k n s a c e l).all d) = if r ≠ 0 then r else firstE checkZ (V.alls (wrap64 (d + 1)) l)) := by
    show firstE checkZ ((V.of k n s a c e l).all d) = _
    rw [V.all_of, firstE]
    show (if faultT d (V.of k n s a c e l).t ≠ 0 then faultT d (V.of k n s a c e l).t else _) = _
    rw [hr]
  rw [hr] at HO
  clear hr hx ih hsp
  obtain ⟨W0, hW0⟩ : ∃ W0, w.alloc (Obj.cells #[.int .i64 k, .int .u64 n, .string s, .slice a l.length c, .int .i64 e] 25) = W0 := ⟨_, rfl⟩
  have hs0 : W0.heap.size = w.heap.size + 1 := by rw [← hW0]; simp
  have hb0 : Below w.heap.size w W0 := by rw [← hW0]; exact bel1 (Below.refl _ _) (Nat.le_refl _) _
  have xx : BoxV W0 w.heap.size (.of k n s a c e l) := by
    rw [← hW0]
    unfold BoxV
    rw [V.k_of, V.n_of, V.s_of, V.a_of, V.l_of, V.c_of, V.e_of]
    exact World.alloc_heap_new _ _
  rw [V.val_of]
  go_enter Tryz.func31, Tryz.ntmps31
  have HW0 := hide hW0
  clear hW0
  go_wp2_with fail
  rw [HW0.out]
  clear HW0
  refine (HO.out W0 hb0).mono ?_
  rintro e1 w1 ⟨rfl, hb1⟩
  have hs1 := hb1.size
  have hbw1 : Below w.heap.size w w1 := belOn hb0 (by omega) hb1
  by_cases hr0 : r = 0
  · subst hr0
    go_wp2_with fail
    go_loopw [5, 6] (fun ev u wr => ∃ i : Nat, ev = .int .i64 0 ∧ u = .int .i64 i ∧ i ≤ l.length ∧ Below W0.heap.size W0 wr ∧ Hid (firstE checkZ (V.alls (wrap64 (d + 1)) l) = firstE checkZ (V.alls (wrap64 (d + 1)) (l.drop i)))) (fun _ u _ => l.length - (intOf u).toNat)
    case atStart => exact ⟨0, rfl, rfl, Nat.zero_le _, hb1, rfl⟩
    case round =>
      obtain ⟨i, rfl, rfl, hi, hb, HI⟩ := hrel
      have hsz := hb.size
      have hbw : Below w.heap.size w wr := belOn hb0 (by omega) hb
      obtain ⟨m0, m1, m2, m3, m4⟩ := (xx.below hb (by omega)).cells
      rw [V.a_of, V.c_of, V.l_of] at m3
      clear m0 m1 m2 m4
      by_cases hil : i < l.length
      · obtain ⟨b, o, rfl, hlt, hr⟩ := HX.out.row (by omega)
        obtain ⟨x0, x1, x2, x3, x4⟩ := (hr.below hbw (by omega)) i hil
        have hbl : b < wr.heap.size := by omega
        have HR := hide hr
        clear hr
        have q := IH.out l[i] (List.getElem_mem hil) (wrap64 (d + 1)) n₀ wr (by omega) ((HX.out.sub _ (List.getElem_mem hil)).keep hbw hn)
        rw [V.val_eq] at q
        obtain ⟨z, hz⟩ : ∃ z, firstE checkZ (l[i].all (wrap64 (d + 1))) = z := ⟨_, rfl⟩
        rw [hz] at q
        have HST : Hid (firstE checkZ (V.alls (wrap64 (d + 1)) (l.drop i)) = if z ≠ 0 then z else firstE checkZ (V.alls (wrap64 (d + 1)) (l.drop (i + 1)))) := by
          show firstE checkZ (V.alls (wrap64 (d + 1)) (l.drop i)) = _
          rw [alls_drop _ l i hil, firstE_append, hz]
        have HQ := hide q
        clear q hz
        go_wp2_with fail
        refine HQ.out.mono ?_
        clear HQ x0 x1 x2 x3 x4 m3
        rintro e2 w2 ⟨rfl, hb2⟩
        have hs2 := hb2.size
        have hbn : Below W0.heap.size W0 w2 := belOn hb hsz hb2
        have hbwn : Below w.heap.size w w2 := belOn hbw (by omega) hb2
        by_cases hz0 : z = 0
        · subst hz0
          go_wp2
          go_roundw
          case rel => exact ⟨i + 1, rfl, by go_num, hil, hbn, by rw [HI.out, HST.out, if_neg (by simp)]; rfl⟩
          case measure => simp [intOf]; omega
        · have hzb : ((z : Int) == 0) = false := by simpa using hz0
          go_wp2
          go_ret
          refine ⟨?_, hbwn⟩
          rw [HF.out, if_neg (by simp), HI.out, HST.out, if_pos hz0]
          rfl
      · obtain rfl : i = l.length := by omega
        have HE : Hid (firstE checkZ (V.alls (wrap64 (d + 1)) l) = 0) := by
          show firstE checkZ (V.alls (wrap64 (d + 1)) l) = 0
          rw [HI.out, List.drop_length, V.alls, firstE]
        go_wp2
        go_ret
        refine ⟨?_, hbw⟩
        rw [HF.out, if_neg (by simp), HE.out]
        rfl
  · have hrb : ((r : Int) == 0) = false := by simpa using hr0
    go_wp2
    go_ret
    refine ⟨?_, hbw1⟩
    rw [HF.out, if_pos hr0]
    rfl
theorem firstE_bare (p q : List (Int × V)) (h : bare p = bare q) : firstE checkZ p = firstE checkZ q := by
  induction p generalizing q with
  | nil =>
    cases q with
    | nil => rfl
    | cons y q => simp [bare] at h
  | cons x p ih =>
    cases q with
    | nil => simp [bare] at h
    | cons y q =>
      simp only [bare, List.map_cons, List.cons.injEq] at h
      obtain ⟨h1, h2⟩ := h
      have hz : checkZ x = checkZ y := by
        unfold checkZ
        simp only [Prod.mk.injEq] at h1
        rw [h1.1, h1.2]
      rw [firstE, firstE, hz, ih q h2]
theorem bare_append (p q : List (Int × V)) : bare (p ++ q) = bare p ++ bare q := by unfold bare; simp
theorem all_bare : ∀ x : V, ∀ (y : V) (d : Int), x.t = y.t → bare (x.all d) = bare (y.all d) := by
  refine V.ind ?_
  intro k n s a c e l ih y d h
  obtain ⟨k', n', s', a', c', e', m, rfl⟩ := V.ex y
  have h' := h
  rw [V.t_of, V.t_of] at h
  obtain ⟨rfl, rfl, rfl, _, _, rfl, hl⟩ := V.of_inj h
  rw [V.all_of, V.all_of]
  have hall : ∀ (l m : List V), (∀ x ∈ l, ∀ (y : V) (d : Int), x.t = y.t → bare (x.all d) = bare (y.all d)) → V.ts l = V.ts m → bare (V.alls (wrap64 (d + 1)) l) = bare (V.alls (wrap64 (d + 1)) m) := by
    intro l
    induction l with
    | nil =>
      intro m _ hm
      cases m with
      | nil => rfl
      | cons y m => simp [V.ts] at hm
    | cons x l ihl =>
      intro m hi hm
      cases m with
      | nil => simp [V.ts] at hm
      | cons y m =>
        simp only [V.ts, List.cons.injEq] at hm
        rw [V.alls, V.alls, bare_append, bare_append, hi x (by simp) y _ hm.1, ihl m (fun z hz => hi z (by simp [hz])) hm.2]
  have := hall l m ih hl
  unfold bare at this ⊢
  rw [List.map_cons, List.map_cons, this, h']
theorem check_same {x y : V} (h : x.t = y.t) (d : Int) : firstE checkZ (x.all d) = firstE checkZ (y.all d) := firstE_bare _ _ (all_bare x y d h)
set_option maxRecDepth 100000 in
set_option maxHeartbeats 1000000 in
theorem refcheck_any (hsp : SpellOk) (x : V) (n₀ : Nat) (w : World) (hn : n₀ ≤ w.heap.size) (hx : Lies n₀ w x) :
    Calls Tryz.prog 19 #[x.val] w fun e w' => e = .returned (.int .i64 (firstE checkZ (x.all 1))) ∧ Below w.heap.size w w' := by
  rw [V.val_eq]
  have HC : Hid (∀ w1, Below w.heap.size w w1 → Calls Tryz.prog 31 #[.agg #[.int .i64 x.k, .int .u64 x.n, .string x.s, .slice x.a x.l.length x.c, .int .i64 x.e], .int .i64 1] w1 fun e w' => e = .returned (.int .i64 (firstE checkZ (x.all 1))) ∧ Below w1.heap.size w1 w') := by
    intro w1 hb
    have := rcheck_any hsp x 1 n₀ w1 (by have := hb.size; omega) (hx.keep hb hn)
    rwa [V.val_eq] at this
  clear hx
  go_enter Tryz.func19, Tryz.ntmps19
  go_wp2_with fail
  refine Calls.mono (HC.out _ (bel1 (Below.refl _ _) (Nat.le_refl _) _)) ?_
  rintro e w1 ⟨rfl, hb1⟩
  have hbw := belOn (bel1 (Below.refl w.heap.size w) (Nat.le_refl _) _) (by simp) hb1
  go_wp2
  go_ret
  exact ⟨rfl, hbw⟩
end Go.Proofs.YthhlpjhkeendcaaGreatDoor
