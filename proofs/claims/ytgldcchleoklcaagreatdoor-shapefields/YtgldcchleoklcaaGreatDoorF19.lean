/- HKind -/
import Derived.Test.YtgldcchleoklcaaGreatDoorF13
import Derived.Test.YtgldcchleoklcaaGreatDoorF05
import Derived.Deep.RegionHeld
namespace Go.Proofs.YtgldcchleoklcaaGreatDoor
open Go.RowKit
set_option linter.unusedVariables false
set_option linter.unusedSimpArgs false
def kindL (x : T) : List (Int × ByteArray × Value) → Option Int
  | [] => none
  | r :: rs => if (eqT x (leaf 5 r.1 ⟨#[]⟩).t || eqT x (leaf 20 0 r.2.1).t) = true then some r.1 else kindL x rs
theorem kindL_step (x : T) (l : List (Int × ByteArray × Value)) (i : Nat) (h : i < l.length) : kindL x (l.drop i) = if (eqT x (leaf 5 l[i].1 ⟨#[]⟩).t || eqT x (leaf 20 0 l[i].2.1).t) = true then some l[i].1 else kindL x (l.drop (i + 1)) := by
  rw [List.drop_eq_getElem_cons h, kindL]
def kindV (k : Int) : List V → Option Int
  | [x, _] => if k = 24 then kindL x.t krows else none
  | _ => none
theorem kindV_two (x y : V) : kindV 24 [x, y] = kindL x.t krows := rfl
theorem kindV_k {k : Int} (h : k ≠ 24) (l : List V) : kindV k l = none := by
  unfold kindV
  split
  · rw [if_neg h]
  · rfl
theorem kindV_l {l : List V} (k : Int) (h : l.length ≠ 2) : kindV k l = none := by
  unfold kindV
  split
  · exact absurd rfl h
  · rfl
set_option maxRecDepth 100000 in
theorem krows_ok : ∀ i (h : i < krows.length), (0 ≤ krows[i].1 ∧ krows[i].1 ≤ 200 ∧ krows[i].2.1.size ≤ 100) ∧ ((∃ g, krows[i].2.2 = .func (.func g) #[] #[]) ∨ krows[i].2.2 = .nilFunc) := by
  intro i h
  have h' : i < 36 := h
  match i, h' with
  | 0, _ => exact ⟨⟨of_decide_eq_true rfl, of_decide_eq_true rfl, of_decide_eq_true rfl⟩, .inl ⟨_, rfl⟩⟩
  | 1, _ => exact ⟨⟨of_decide_eq_true rfl, of_decide_eq_true rfl, of_decide_eq_true rfl⟩, .inl ⟨_, rfl⟩⟩
  | 2, _ => exact ⟨⟨of_decide_eq_true rfl, of_decide_eq_true rfl, of_decide_eq_true rfl⟩, .inl ⟨_, rfl⟩⟩
  | 3, _ => exact ⟨⟨of_decide_eq_true rfl, of_decide_eq_true rfl, of_decide_eq_true rfl⟩, .inl ⟨_, rfl⟩⟩
  | 4, _ => exact ⟨⟨of_decide_eq_true rfl, of_decide_eq_true rfl, of_decide_eq_true rfl⟩, .inl ⟨_, rfl⟩⟩
  | 5, _ => exact ⟨⟨of_decide_eq_true rfl, of_decide_eq_true rfl, of_decide_eq_true rfl⟩, .inl ⟨_, rfl⟩⟩
  | 6, _ => exact ⟨⟨of_decide_eq_true rfl, of_decide_eq_true rfl, of_decide_eq_true rfl⟩, .inl ⟨_, rfl⟩⟩
  | 7, _ => exact ⟨⟨of_decide_eq_true rfl, of_decide_eq_true rfl, of_decide_eq_true rfl⟩, .inl ⟨_, rfl⟩⟩
  | 8, _ => exact ⟨⟨of_decide_eq_true rfl, of_decide_eq_true rfl, of_decide_eq_true rfl⟩, .inl ⟨_, rfl⟩⟩
  | 9, _ => exact ⟨⟨of_decide_eq_true rfl, of_decide_eq_true rfl, of_decide_eq_true rfl⟩, .inl ⟨_, rfl⟩⟩
  | 10, _ => exact ⟨⟨of_decide_eq_true rfl, of_decide_eq_true rfl, of_decide_eq_true rfl⟩, .inl ⟨_, rfl⟩⟩
  | 11, _ => exact ⟨⟨of_decide_eq_true rfl, of_decide_eq_true rfl, of_decide_eq_true rfl⟩, .inl ⟨_, rfl⟩⟩
  | 12, _ => exact ⟨⟨of_decide_eq_true rfl, of_decide_eq_true rfl, of_decide_eq_true rfl⟩, .inl ⟨_, rfl⟩⟩
  | 13, _ => exact ⟨⟨of_decide_eq_true rfl, of_decide_eq_true rfl, of_decide_eq_true rfl⟩, .inl ⟨_, rfl⟩⟩
  | 14, _ => exact ⟨⟨of_decide_eq_true rfl, of_decide_eq_true rfl, of_decide_eq_true rfl⟩, .inl ⟨_, rfl⟩⟩
  | 15, _ => exact ⟨⟨of_decide_eq_true rfl, of_decide_eq_true rfl, of_decide_eq_true rfl⟩, .inl ⟨_, rfl⟩⟩
  | 16, _ => exact ⟨⟨of_decide_eq_true rfl, of_decide_eq_true rfl, of_decide_eq_true rfl⟩, .inl ⟨_, rfl⟩⟩
  | 17, _ => exact ⟨⟨of_decide_eq_true rfl, of_decide_eq_true rfl, of_decide_eq_true rfl⟩, .inl ⟨_, rfl⟩⟩
  | 18, _ => exact ⟨⟨of_decide_eq_true rfl, of_decide_eq_true rfl, of_decide_eq_true rfl⟩, .inl ⟨_, rfl⟩⟩
  | 19, _ => exact ⟨⟨of_decide_eq_true rfl, of_decide_eq_true rfl, of_decide_eq_true rfl⟩, .inl ⟨_, rfl⟩⟩
  | 20, _ => exact ⟨⟨of_decide_eq_true rfl, of_decide_eq_true rfl, of_decide_eq_true rfl⟩, .inl ⟨_, rfl⟩⟩
  | 21, _ => exact ⟨⟨of_decide_eq_true rfl, of_decide_eq_true rfl, of_decide_eq_true rfl⟩, .inl ⟨_, rfl⟩⟩
  | 22, _ => exact ⟨⟨of_decide_eq_true rfl, of_decide_eq_true rfl, of_decide_eq_true rfl⟩, .inl ⟨_, rfl⟩⟩
  | 23, _ => exact ⟨⟨of_decide_eq_true rfl, of_decide_eq_true rfl, of_decide_eq_true rfl⟩, .inl ⟨_, rfl⟩⟩
  | 24, _ => exact ⟨⟨of_decide_eq_true rfl, of_decide_eq_true rfl, of_decide_eq_true rfl⟩, .inl ⟨_, rfl⟩⟩
  | 25, _ => exact ⟨⟨of_decide_eq_true rfl, of_decide_eq_true rfl, of_decide_eq_true rfl⟩, .inl ⟨_, rfl⟩⟩
  | 26, _ => exact ⟨⟨of_decide_eq_true rfl, of_decide_eq_true rfl, of_decide_eq_true rfl⟩, .inl ⟨_, rfl⟩⟩
  | 27, _ => exact ⟨⟨of_decide_eq_true rfl, of_decide_eq_true rfl, of_decide_eq_true rfl⟩, .inl ⟨_, rfl⟩⟩
  | 28, _ => exact ⟨⟨of_decide_eq_true rfl, of_decide_eq_true rfl, of_decide_eq_true rfl⟩, .inl ⟨_, rfl⟩⟩
  | 29, _ => exact ⟨⟨of_decide_eq_true rfl, of_decide_eq_true rfl, of_decide_eq_true rfl⟩, .inr rfl⟩
  | 30, _ => exact ⟨⟨of_decide_eq_true rfl, of_decide_eq_true rfl, of_decide_eq_true rfl⟩, .inr rfl⟩
  | 31, _ => exact ⟨⟨of_decide_eq_true rfl, of_decide_eq_true rfl, of_decide_eq_true rfl⟩, .inr rfl⟩
  | 32, _ => exact ⟨⟨of_decide_eq_true rfl, of_decide_eq_true rfl, of_decide_eq_true rfl⟩, .inr rfl⟩
  | 33, _ => exact ⟨⟨of_decide_eq_true rfl, of_decide_eq_true rfl, of_decide_eq_true rfl⟩, .inr rfl⟩
  | 34, _ => exact ⟨⟨of_decide_eq_true rfl, of_decide_eq_true rfl, of_decide_eq_true rfl⟩, .inr rfl⟩
  | 35, _ => exact ⟨⟨of_decide_eq_true rfl, of_decide_eq_true rfl, of_decide_eq_true rfl⟩, .inr rfl⟩
  | n + 36, h => omega
theorem take_skip {P : Program} {md : Region.Mode} {ops : Array Oper} {Q : Exit → Act → World → Prop} {S : World → Prop} {i d j : Nat} {b : Bool} {oi : Oper} {fuel : Nat} {listed : Array Bool} {tmps : Array Value} {df : List Deferred} {w : World} (hi : ops[i]? = some oi) (hd : oi.dst = some d)
    (hs : Region.noSelect ops = true) (hf : Region.free md ops listed i = true) (hr : (Region.ready md ops listed).contains i = true)
    (hQ : ∀ c a w, Q (.panic c) (a.put (some d) undef) w → Q (.panic c) a w) (hg : oi.guard = some (j, b)) (hy : yielded ops tmps j = some (!b)) (hS : S w)
    (h : wpAnyH P md ops Q S fuel (listed.setIfInBounds i true) ⟨tmps.setIfInBounds d undef, df⟩ w) : wpAnyH P md ops Q S (fuel + 1) listed ⟨tmps, df⟩ w :=
  wpAnyH_take hi hs hf hr (by rw [hd]; exact hQ) (.inr ⟨by unfold Region.wanted; rw [hg]; show (yielded ops tmps j == some b) = false; rw [hy]; cases b <;> rfl, rfl⟩) hS (by rw [hd]; exact h)
theorem take_do {P : Program} {md : Region.Mode} {ops : Array Oper} {Q : Exit → Act → World → Prop} {S : World → Prop} {i d : Nat} {v : Value} {oi : Oper} {fuel : Nat} {listed : Array Bool} {tmps : Array Value} {df : List Deferred} {w : World} (hi : ops[i]? = some oi) (hd : oi.dst = some d)
    (hs : Region.noSelect ops = true) (hf : Region.free md ops listed i = true) (hr : (Region.ready md ops listed).contains i = true)
    (hQ : ∀ c a w, Q (.panic c) (a.put (some d) v) w → Q (.panic c) a w) (hg : oi.guard = none) (hy : ∀ w, S w → (execOp (Act.eval ⟨tmps, df⟩) oi).run P w = .ok (.value v) w) (hS : S w)
    (h : wpAnyH P md ops Q S fuel (listed.setIfInBounds i true) ⟨tmps.setIfInBounds d v, df⟩ w) : wpAnyH P md ops Q S (fuel + 1) listed ⟨tmps, df⟩ w :=
  wpAnyH_take hi hs hf hr (by rw [hd]; exact hQ) (.inl ⟨by unfold Region.wanted; rw [hg], hy⟩) hS (by rw [hd]; exact h)
def KindPost (o : Option Int) (w : World) (e : Ending) (w' : World) : Prop := e = .returned (.tuple #[.int .i64 (o.getD 0), .bool o.isSome]) ∧ Below w.heap.size w w'
set_option maxRecDepth 100000 in
set_option maxHeartbeats 20000000 in
theorem kind_any (v : V) (n₀ : Nat) (w : World) (hn : n₀ ≤ w.heap.size) (hl : Lies n₀ w v) :
    Calls Tryz.prog 105 #[v.val] w (KindPost (kindV v.k v.l) w) := by
  obtain ⟨k, n, s, a, c, e, l, rfl⟩ := V.ex v
  rw [V.k_of, V.l_of]
  have HM := hide hl
  have hll := hl.ok.c
  have hlc := hl.ok.l
  clear hl
  rw [V.val_of]
  by_cases hk : k = 24
  · subst hk
    by_cases h2 : l.length = 2
    · obtain ⟨x, y, rfl⟩ : ∃ x y, l = [x, y] := by
        match l, h2 with
        | [x, y], _ => exact ⟨x, y, rfl⟩
      rw [kindV_two]
      obtain ⟨b, o, rfl, hlt, hr⟩ := HM.out.row (by simp)
      have hx := HM.out.sub x (by simp)
      have hr0 := hr 0 (by simp)
      obtain ⟨W0, hW0⟩ : ∃ W0, w.alloc (Obj.cells #[.int .i64 24, .int .u64 n, .string s, .slice (some ⟨b, o, none⟩) 2 c, .int .i64 e] 42) = W0 := ⟨_, rfl⟩
      have hs0 : W0.heap.size = w.heap.size + 1 := by rw [← hW0]; simp
      have hb0 : Below w.heap.size w W0 := by rw [← hW0]; exact bel1 (Below.refl _ _) (Nat.le_refl _) _
      have hv0 : W0.cell? ⟨w.heap.size, 3, none⟩ = some (.slice (some ⟨b, o, none⟩) 2 c) := by
        rw [← hW0]
        unfold World.cell?
        simp only [World.alloc_heap_new]
        rfl
      have HK := hide (kinds_any W0)
      have HX := hide hx
      clear hx HM
      have HW0 := hide hW0
      clear hW0
      show Calls Tryz.prog 105 #[.agg #[.int .i64 24, .int .u64 n, .string s, .slice (some ⟨b, o, none⟩) 2 c, .int .i64 e]] w _
      go_enter Tryz.func105, Tryz.ntmps105
      go_wp2_with fail
      rw [HW0.out]
      clear HW0
      refine HK.out.mono ?_
      rintro e w1 ⟨rfl, rfl⟩
      obtain ⟨W1, hW1⟩ : ∃ W1, W0.alloc (.cells kcells 61) = W1 := ⟨_, rfl⟩
      have hs1 : W1.heap.size = w.heap.size + 2 := by rw [← hW1]; simp; omega
      have hb1 : Below w.heap.size w W1 := by rw [← hW1]; exact bel1 hb0 (by omega) _
      have hv1 : W1.cell? ⟨w.heap.size, 3, none⟩ = some (.slice (some ⟨b, o, none⟩) 2 c) := by
        rw [← hW1, ← hv0]
        exact (bel1 (Below.refl _ _) (Nat.le_refl W0.heap.size) _).cell (p := ⟨w.heap.size, 3, none⟩) (by show w.heap.size < _; omega)
      have hk1 : KT W1 W0.heap.size := by rw [← hW1]; exact World.alloc_heap_new _ _
      rw [hs0] at hk1 ⊢
      rw [hW1]
      clear hW1 HK
      go_wp2
      go_loopw [17] (fun u wr => ∃ i : Nat, u = .int .i64 i ∧ i ≤ 36 ∧ Below W1.heap.size W1 wr ∧ Hid (kindL x.t krows = kindL x.t (krows.drop i))) (fun u _ => 37 - (intOf u).toNat)
      case atStart => exact ⟨0, rfl, by omega, Below.refl _ _, rfl⟩
      case round =>
        obtain ⟨i, rfl, hi, hb, HO⟩ := hrel
        have hsz := hb.size
        have hbw : Below w.heap.size w wr := belOn hb1 (by omega) hb
        by_cases h36 : i < 36
        · obtain ⟨k0, k1, k2⟩ := (hk1.below hb (by omega)).cells i h36
          obtain ⟨⟨n0a, n0b, n1c⟩, hf⟩ := krows_ok i h36
          have hst := kindL_step x.t krows i h36
          generalize (krows[i]'h36).1 = m0 at k0 hst n0a n0b
          generalize (krows[i]'h36).2.1 = m1 at k1 hst n1c
          generalize (krows[i]'h36).2.2 = m2 at k2 hf
          have HST := hide hst
          clear hst
          have hki : w.heap.size + 1 < wr.heap.size := by omega
          obtain ⟨WR, hWR⟩ : ∃ WR, wr.alloc (.cells #[.int .i64 m0, .string m1, m2] 61) = WR := ⟨_, rfl⟩
          have hsR : WR.heap.size = wr.heap.size + 1 := by rw [← hWR]; simp
          have hbR : Below w.heap.size w WR := by rw [← hWR]; exact bel1 hbw (by omega) _
          have hbR1 : Below W1.heap.size W1 WR := by rw [← hWR]; exact bel1 hb (by omega) _
          have hkR : WR.heap[wr.heap.size]? = some (.cells #[.int .i64 m0, .string m1, m2] 61) := by rw [← hWR]; exact World.alloc_heap_new _ _
          have HS : Hid (∀ W', Below WR.heap.size WR W' → W'.cell? ⟨w.heap.size, 3, none⟩ = some (.slice (some ⟨b, o, none⟩) 2 c) ∧ W'.cell? ⟨b, o, none⟩ = some (.int .i64 x.k) ∧ W'.cell? ⟨b, o + 1, none⟩ = some (.int .u64 x.n) ∧ W'.cell? ⟨b, o + 2, none⟩ = some (.string x.s) ∧ W'.cell? ⟨b, o + 3, none⟩ = some (.slice x.a x.l.length x.c) ∧ W'.cell? ⟨b, o + 4, none⟩ = some (.int .i64 x.e) ∧ W'.cell? ⟨wr.heap.size, 0, none⟩ = some (.int .i64 m0) ∧ W'.cell? ⟨wr.heap.size, 1, none⟩ = some (.string m1)) := by
            intro W' hb'
            have hbW := belOn hbR (by omega) hb'
            have e1 : ∀ o', W'.cell? ⟨b, o', none⟩ = w.cell? ⟨b, o', none⟩ := fun o' => hbW.cell (p := ⟨b, o', none⟩) (by show b < _; omega)
            have e2 : W'.heap[wr.heap.size]? = some (.cells #[.int .i64 m0, .string m1, m2] 61) := (hb'.block _ (by omega)).trans hkR
            have e3 : W'.cell? ⟨w.heap.size, 3, none⟩ = W1.cell? ⟨w.heap.size, 3, none⟩ := (hbR1.trans (hb'.mono (by omega))).cell (p := ⟨w.heap.size, 3, none⟩) (by show w.heap.size < _; omega)
            obtain ⟨q0, q1, q2, q3, q4⟩ := hr0
            refine ⟨e3.trans hv1, (e1 _).trans q0, (e1 _).trans q1, (e1 _).trans q2, (e1 _).trans q3, (e1 _).trans q4, ?_, ?_⟩
            · unfold World.cell?; simp only [e2]; rfl
            · unfold World.cell?; simp only [e2]; rfl
          have HB0 : Hid (Below WR.heap.size WR WR.drew) := (Below.refl _ _).drew
          have HN := hide (fun W => numbered_any m0 n0a (by omega) W)
          have HD := hide (fun W => named_any m1 W)
          have HE1 : Hid (∀ W', Below WR.heap.size WR W' → Calls Tryz.prog 114 #[x.val, (leaf 5 m0 ⟨#[]⟩).val] W' (fun e w' => e = .returned (.bool (eqT x.t (leaf 5 m0 ⟨#[]⟩).t)) ∧ Below W'.heap.size W' w')) := fun W' hb' => by
            have hbW := belOn hbR (by omega) hb'
            exact equal_any x (leaf 5 m0 ⟨#[]⟩) n₀ W' (Nat.le_trans hn hbW.size) (HX.out.keep hbW hn) (leaf_lies _ _ _ _ _ (by decide) ⟨n0a, by omega⟩ (by decide))
          have HE2 : Hid (∀ W', Below WR.heap.size WR W' → Calls Tryz.prog 114 #[x.val, (leaf 20 0 m1).val] W' (fun e w' => e = .returned (.bool (eqT x.t (leaf 20 0 m1).t)) ∧ Below W'.heap.size W' w')) := fun W' hb' => by
            have hbW := belOn hbR (by omega) hb'
            exact equal_any x (leaf 20 0 m1) n₀ W' (Nat.le_trans hn hbW.size) (HX.out.keep hbW hn) (leaf_lies _ _ _ _ _ (by decide) (by decide) (by omega))
          rw [leaf_val, V.val_eq] at HE1 HE2
          rw [leaf_val] at HN HD
          have HF := hide hf
          have HWR := hide hWR
          have hbl : b < wr.heap.size := by omega
          clear hWR hf hr hr0
          generalize hg1 : eqT x.t (leaf 5 m0 ⟨#[]⟩).t = r1 at HE1 HST
          generalize hg2 : eqT x.t (leaf 20 0 m1).t = r2 at HE2 HST
          clear hg1 hg2
          rcases HF.out with ⟨g, rfl⟩ | rfl
          all_goals
            clear HF
            go_wp2_with fail
            rw [HWR.out]
            cases r1
            · cases r2
              · go_region_held (fun W' => W'.cell? ⟨w.heap.size, 3, none⟩ = some (.slice (some ⟨b, o, none⟩) 2 c) ∧ W'.cell? ⟨b, o, none⟩ = some (.int .i64 x.k) ∧ W'.cell? ⟨b, o + 1, none⟩ = some (.int .u64 x.n) ∧ W'.cell? ⟨b, o + 2, none⟩ = some (.string x.s) ∧ W'.cell? ⟨b, o + 3, none⟩ = some (.slice x.a x.l.length x.c) ∧ W'.cell? ⟨b, o + 4, none⟩ = some (.int .i64 x.e) ∧ W'.cell? ⟨wr.heap.size, 0, none⟩ = some (.int .i64 m0) ∧ W'.cell? ⟨wr.heap.size, 1, none⟩ = some (.string m1)) (first | exact HS.out _ HB4.out | exact HS.out _ HB3.out | exact HS.out _ HB2.out | exact HS.out _ HB1.out | exact HS.out _ HB0.out) (first | (go_at_call 115; refine Calls.mono (HN.out _) ?_; rintro e1 w1 ⟨rfl, hb1⟩; have HB1 : Hid (Below WR.heap.size WR w1) := belOn HB0.out HB0.out.size hb1; clear hb1) | (go_at_call 125; refine Calls.mono (HD.out _) ?_; rintro e3 w3 ⟨rfl, hb3⟩; have HB3 : Hid (Below WR.heap.size WR w3) := belOn HB2.out HB2.out.size hb3; clear hb3) | (go_at_call 114; have HB5 := HB3; refine Calls.mono (HE2.out _ HB5.out) ?_; clear HB5; rintro e4 w4 ⟨rfl, hb4⟩; have HB4 : Hid (Below WR.heap.size WR w4) := belOn HB3.out HB3.out.size hb4; clear hb4) | (go_at_call 114; refine Calls.mono (HE1.out _ HB1.out) ?_; rintro e2 w2 ⟨rfl, hb2⟩; have HB2 : Hid (Below WR.heap.size WR w2) := belOn HB1.out HB1.out.size hb2; clear hb2))
                have hsz' := HB4.out.size
                go_wp2
                go_roundw
                case rel => exact ⟨i + 1, by go_num, by omega, hbR1.trans (HB4.out.mono (by omega)), by rw [HO.out, HST.out]; rfl⟩
                case measure => simp [intOf]; omega
              · go_region_held (fun W' => W'.cell? ⟨w.heap.size, 3, none⟩ = some (.slice (some ⟨b, o, none⟩) 2 c) ∧ W'.cell? ⟨b, o, none⟩ = some (.int .i64 x.k) ∧ W'.cell? ⟨b, o + 1, none⟩ = some (.int .u64 x.n) ∧ W'.cell? ⟨b, o + 2, none⟩ = some (.string x.s) ∧ W'.cell? ⟨b, o + 3, none⟩ = some (.slice x.a x.l.length x.c) ∧ W'.cell? ⟨b, o + 4, none⟩ = some (.int .i64 x.e) ∧ W'.cell? ⟨wr.heap.size, 0, none⟩ = some (.int .i64 m0) ∧ W'.cell? ⟨wr.heap.size, 1, none⟩ = some (.string m1)) (first | exact HS.out _ HB4.out | exact HS.out _ HB3.out | exact HS.out _ HB2.out | exact HS.out _ HB1.out | exact HS.out _ HB0.out) (first | (go_at_call 115; refine Calls.mono (HN.out _) ?_; rintro e1 w1 ⟨rfl, hb1⟩; have HB1 : Hid (Below WR.heap.size WR w1) := belOn HB0.out HB0.out.size hb1; clear hb1) | (go_at_call 125; refine Calls.mono (HD.out _) ?_; rintro e3 w3 ⟨rfl, hb3⟩; have HB3 : Hid (Below WR.heap.size WR w3) := belOn HB2.out HB2.out.size hb3; clear hb3) | (go_at_call 114; have HB5 := HB3; refine Calls.mono (HE2.out _ HB5.out) ?_; clear HB5; rintro e4 w4 ⟨rfl, hb4⟩; have HB4 : Hid (Below WR.heap.size WR w4) := belOn HB3.out HB3.out.size hb4; clear hb4) | (go_at_call 114; refine Calls.mono (HE1.out _ HB1.out) ?_; rintro e2 w2 ⟨rfl, hb2⟩; have HB2 : Hid (Below WR.heap.size WR w2) := belOn HB1.out HB1.out.size hb2; clear hb2))
                have hkk := (HS.out _ HB4.out).2.2.2.2.2.2.1
                have hsz' := HB4.out.size
                have hwl : wr.heap.size < w4.heap.size := by omega
                go_wp2
                refine bodyPost_ret (v := .tuple #[.int .i64 m0, .bool true]) (by simp [results, Tryz.results105, go_sem]) rfl ⟨?_, belOn hbR (by omega) HB4.out⟩
                rw [HO.out, HST.out]
                rfl
            · refine wp_region_held_drew (S := (fun W' => W'.cell? ⟨w.heap.size, 3, none⟩ = some (.slice (some ⟨b, o, none⟩) 2 c) ∧ W'.cell? ⟨b, o, none⟩ = some (.int .i64 x.k) ∧ W'.cell? ⟨b, o + 1, none⟩ = some (.int .u64 x.n) ∧ W'.cell? ⟨b, o + 2, none⟩ = some (.string x.s) ∧ W'.cell? ⟨b, o + 3, none⟩ = some (.slice x.a x.l.length x.c) ∧ W'.cell? ⟨b, o + 4, none⟩ = some (.int .i64 x.e) ∧ W'.cell? ⟨wr.heap.size, 0, none⟩ = some (.int .i64 m0) ∧ W'.cell? ⟨wr.heap.size, 1, none⟩ = some (.string m1))) (by kernel_rfl) (HS.out _ HB0.out) (fun hHeld => ?_)
              refine take_do (i := 0) (d := 21) (v := ?_) rfl rfl (by kernel_rfl) (by kernel_rfl) (by kernel_rfl) (fun _ _ _ h => h) rfl ?_ (by assumption) ?_
              rotate_left
              · intro w hSw
                try dsimp only at hSw
                go_simp
                try with_reducible rfl
              try simp only [List.setIfInBounds_toArray, List.set_cons_zero, List.set_cons_succ]
              refine take_do (i := 1) (d := 22) (v := ?_) rfl rfl (by kernel_rfl) (by kernel_rfl) (by kernel_rfl) (fun _ _ _ h => h) rfl ?_ (by assumption) ?_
              rotate_left
              · intro w hSw
                try dsimp only at hSw
                go_simp
                try with_reducible rfl
              try simp only [List.setIfInBounds_toArray, List.set_cons_zero, List.set_cons_succ]
              refine take_do (i := 2) (d := 23) (v := ?_) rfl rfl (by kernel_rfl) (by kernel_rfl) (by kernel_rfl) (fun _ _ _ h => h) rfl ?_ (by assumption) ?_
              rotate_left
              · intro w hSw
                try dsimp only at hSw
                go_simp
                try with_reducible rfl
              try simp only [List.setIfInBounds_toArray, List.set_cons_zero, List.set_cons_succ]
              refine take_do (i := 3) (d := 24) (v := ?_) rfl rfl (by kernel_rfl) (by kernel_rfl) (by kernel_rfl) (fun _ _ _ h => h) rfl ?_ (by assumption) ?_
              rotate_left
              · intro w hSw
                try dsimp only at hSw
                go_simp
                try with_reducible rfl
              try simp only [List.setIfInBounds_toArray, List.set_cons_zero, List.set_cons_succ]
              refine take_do (i := 4) (d := 25) (v := ?_) rfl rfl (by kernel_rfl) (by kernel_rfl) (by kernel_rfl) (fun _ _ _ h => h) rfl ?_ (by assumption) ?_
              rotate_left
              · intro w hSw
                try dsimp only at hSw
                go_simp
                try with_reducible rfl
              try simp only [List.setIfInBounds_toArray, List.set_cons_zero, List.set_cons_succ]
              refine take_do (i := 5) (d := 26) (v := ?_) rfl rfl (by kernel_rfl) (by kernel_rfl) (by kernel_rfl) (fun _ _ _ h => h) rfl ?_ (by assumption) ?_
              rotate_left
              · intro w hSw
                try dsimp only at hSw
                go_simp
                try with_reducible rfl
              try simp only [List.setIfInBounds_toArray, List.set_cons_zero, List.set_cons_succ]
              refine wpAnyH_ready (rs := [6]) (by kernel_rfl) (by simp) ?_
              refine AllReadyH.cons rfl (fun K hK => ?_) AllReadyH.nil
              go_simp
              go_wp2_with (go_at_call 115; refine Calls.mono (HN.out _) ?_; rintro e1 w1 ⟨rfl, hb1⟩; have HB1 : Hid (Below WR.heap.size WR w1) := belOn HB0.out HB0.out.size hb1; clear hb1)
              refine hK.out _ _ (HS.out _ HB1.out) (fun hHeld => ?_)
              clear hK K
              refine wpAnyH_ready (rs := [7]) (by kernel_rfl) (by simp) ?_
              refine AllReadyH.cons rfl (fun K hK => ?_) AllReadyH.nil
              go_simp
              go_wp2_with (go_at_call 114; refine Calls.mono (HE1.out _ HB1.out) ?_; rintro e2 w2 ⟨rfl, hb2⟩; have HB2 : Hid (Below WR.heap.size WR w2) := belOn HB1.out HB1.out.size hb2; clear hb2)
              refine hK.out _ _ (HS.out _ HB2.out) (fun hHeld => ?_)
              clear hK K
              refine take_do (i := 8) (d := 29) (v := ?_) rfl rfl (by kernel_rfl) (by kernel_rfl) (by kernel_rfl) (fun _ _ _ h => h) rfl ?_ (by assumption) ?_
              rotate_left
              · intro w hSw
                try dsimp only at hSw
                go_simp
                try with_reducible rfl
              try simp only [List.setIfInBounds_toArray, List.set_cons_zero, List.set_cons_succ]
              refine take_skip (i := 9) (d := 30) (j := 8) (b := false) rfl rfl (by kernel_rfl) (by kernel_rfl) (by kernel_rfl) (fun _ _ _ h => h) rfl rfl (by assumption) ?_
              try simp only [List.setIfInBounds_toArray, List.set_cons_zero, List.set_cons_succ]
              refine take_skip (i := 10) (d := 31) (j := 8) (b := false) rfl rfl (by kernel_rfl) (by kernel_rfl) (by kernel_rfl) (fun _ _ _ h => h) rfl rfl (by assumption) ?_
              try simp only [List.setIfInBounds_toArray, List.set_cons_zero, List.set_cons_succ]
              refine take_skip (i := 11) (d := 32) (j := 8) (b := false) rfl rfl (by kernel_rfl) (by kernel_rfl) (by kernel_rfl) (fun _ _ _ h => h) rfl rfl (by assumption) ?_
              try simp only [List.setIfInBounds_toArray, List.set_cons_zero, List.set_cons_succ]
              refine take_skip (i := 12) (d := 33) (j := 8) (b := false) rfl rfl (by kernel_rfl) (by kernel_rfl) (by kernel_rfl) (fun _ _ _ h => h) rfl rfl (by assumption) ?_
              try simp only [List.setIfInBounds_toArray, List.set_cons_zero, List.set_cons_succ]
              refine take_skip (i := 13) (d := 34) (j := 8) (b := false) rfl rfl (by kernel_rfl) (by kernel_rfl) (by kernel_rfl) (fun _ _ _ h => h) rfl rfl (by assumption) ?_
              try simp only [List.setIfInBounds_toArray, List.set_cons_zero, List.set_cons_succ]
              refine take_skip (i := 14) (d := 35) (j := 8) (b := false) rfl rfl (by kernel_rfl) (by kernel_rfl) (by kernel_rfl) (fun _ _ _ h => h) rfl rfl (by assumption) ?_
              try simp only [List.setIfInBounds_toArray, List.set_cons_zero, List.set_cons_succ]
              refine take_skip (i := 15) (d := 36) (j := 8) (b := false) rfl rfl (by kernel_rfl) (by kernel_rfl) (by kernel_rfl) (fun _ _ _ h => h) rfl rfl (by assumption) ?_
              try simp only [List.setIfInBounds_toArray, List.set_cons_zero, List.set_cons_succ]
              refine take_skip (i := 16) (d := 37) (j := 8) (b := false) rfl rfl (by kernel_rfl) (by kernel_rfl) (by kernel_rfl) (fun _ _ _ h => h) rfl rfl (by assumption) ?_
              try simp only [List.setIfInBounds_toArray, List.set_cons_zero, List.set_cons_succ]
              refine take_do (i := 17) (d := 38) (v := ?_) rfl rfl (by kernel_rfl) (by kernel_rfl) (by kernel_rfl) (fun _ _ _ h => h) rfl ?_ (by assumption) ?_
              rotate_left
              · intro w hSw
                try dsimp only at hSw
                go_simp
                try with_reducible rfl
              try simp only [List.setIfInBounds_toArray, List.set_cons_zero, List.set_cons_succ]
              refine wpAnyH_done (by kernel_rfl) ?_ _
              have hkk := (HS.out _ HB2.out).2.2.2.2.2.2.1
              have hsz' := HB2.out.size
              have hwl : wr.heap.size < w2.heap.size := by omega
              go_wp2
              refine bodyPost_ret (v := .tuple #[.int .i64 m0, .bool true]) (by simp [results, Tryz.results105, go_sem]) rfl ⟨?_, belOn hbR (by omega) HB2.out⟩
              rw [HO.out, HST.out]
              rfl
        · have h36' : i = 36 := by omega
          subst h36'
          go_wp2
          refine bodyPost_ret (v := .tuple #[.int .i64 0, .bool false]) (by simp [results, Tryz.results105, go_sem]) rfl ⟨?_, hbw⟩
          rw [HO.out]
          rfl
    · rw [kindV_l _ h2]
      go_enter Tryz.func105, Tryz.ntmps105
      have h2' : ((l.length : Int) == 2) = false := by rw [beq_eq_false_iff_ne]; omega
      have h2n : ((l.length : Int) != 2) = true := by simpa using h2'
      go_wp2
      exact bodyPost_ret (v := .tuple #[.int .i64 0, .bool false]) (by simp [results, Tryz.results105, go_sem]) rfl ⟨rfl, bel1 (Below.refl _ _) (Nat.le_refl _) _⟩
  · rw [kindV_k hk]
    go_enter Tryz.func105, Tryz.ntmps105
    have hkb : ((k : Int) == 24) = false := by simpa using hk
    have hkn : (k != 24) = true := by simpa using hk
    go_wp2
    exact bodyPost_ret (v := .tuple #[.int .i64 0, .bool false]) (by simp [results, Tryz.results105, go_sem]) rfl ⟨rfl, bel1 (Below.refl _ _) (Nat.le_refl _) _⟩
end Go.Proofs.YtgldcchleoklcaaGreatDoor
