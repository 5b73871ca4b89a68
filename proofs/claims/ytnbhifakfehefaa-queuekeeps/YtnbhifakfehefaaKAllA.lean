
/- The iterator that All makes, of any queue. -/
import Derived.Test.YtnbhifakfehefaaKSeq
import Derived.Test.YtnbhifakfehefaaKAll
namespace Go.Proofs.Ytnbhifakfehefaa
open Go.RowKit Go.Shelf
set_option linter.unusedVariables false
set_option linter.unusedSimpArgs false
attribute [local go_sem] Oper.semAt_some
theorem perm_map_inv {α β : Type} (f : α → β) {M K : List β} (h : K.Perm M) : ∀ L : List α, L.map f = M → ∃ L' : List α, L'.Perm L ∧ L'.map f = K := by
  induction h with
  | nil => exact fun L e => ⟨L, List.Perm.refl _, e⟩
  | cons x h ih =>
    intro L e
    cases L with
    | nil => cases e
    | cons y L =>
      simp only [List.map_cons, List.cons.injEq] at e
      obtain ⟨L', h1, h2⟩ := ih L e.2
      exact ⟨y :: L', h1.cons y, by rw [List.map_cons, h2, e.1]⟩
  | swap x y l =>
    intro L e
    match L, e with
    | [], e => cases e
    | [a], e => simp at e
    | a :: b :: L, e =>
      simp only [List.map_cons, List.cons.injEq] at e
      exact ⟨b :: a :: L, List.Perm.swap a b L, by rw [List.map_cons, List.map_cons, e.1, e.2.1, e.2.2]⟩
  | trans h1 h2 ih1 ih2 =>
    intro L e
    obtain ⟨L2, p2, e2⟩ := ih2 L e
    obtain ⟨L3, p3, e3⟩ := ih1 L2 e2
    exact ⟨L3, p3.trans p2, e3⟩
def encQ (x : Ev) : Array Value := #[.agg #[.int .i64 x.seq, .int .i64 x.pri, .int .i64 x.exp, .bool x.dur, .int .i64 x.cnt, .int .i64 x.hol, .slice x.a x.n x.c]]
def GQ (B qb bq : Nat) (c : Cf) (hi : Int) (A F : Value) (L H : List Nat) (E : Nat → It) (D : Nat → List Nat) (t : List Nat) (W : World) : Prop := Qs W B qb c hi A F L H E D ∧ W.heap[bq]? = some (.cells #[.pointer (some ⟨qb, 0, none⟩)] 25 (0, 0))
def TolQ (L : List Nat) (E : Nat → It) (D : Nat → List Nat) (t : List Nat) (x : Ev) (t' : List Nat) (A A' : World) : Prop := ∃ b ∈ L, b ∉ t ∧ t' = t ++ [b] ∧ Below A.heap.size A A' ∧ Gm A.heap.size A' x (E b) (D b)
def FinQ (L : List Nat) (E : Nat → It) (t : List Nat) : Prop := t.Perm L ∧ ∀ i j (hi : i < t.length) (hj : j < t.length), i < j → 0 ≤ ordZ (E t[j]) (E t[i])
theorem own_belowJ {β : Type} {N : Nat} {I : β → World → Prop} (h : OwnFrom N I) {s : β} {A W : World} (hs : I s A) (hb : Below A.heap.size A W) : I s W :=
  h s A W none hs ⟨hb.os, hb.tape, hb.output, hb.size, fun k hk _ => hb.block k hk⟩ (fun r e => by cases e)
set_option maxRecDepth 100000 in
set_option maxHeartbeats 4000000 in
theorem allq_seq (B qb bq : Nat) (c : Cf) (hi : Int) (A F : Value) (L H : List Nat) (E : Nat → It) (D : Nat → List Nat) :
    SeqJ Try.prog 36 #[.pointer (some ⟨bq, 0, none⟩)] encQ (GQ B qb bq c hi A F L H E D) (fun _ _ _ _ => False) (TolQ L E D) (fun t t' => t' = t) (fun t => t = []) (FinQ L E) := by
  intro yl n t0 J Jx W hyl hJ hJx hG hS hY hini h0
  subst hini
  have hdd : ∀ k : Nat, (Fence.wide.depth.isSome = true → 1 ≤ k) := fun k h => by cases h
  obtain ⟨hQ0, hbq⟩ := hG _ _ h0
  have hcq : W.cell? ⟨bq, 0, none⟩ = some (.pointer (some ⟨qb, 0, none⟩)) := by simp [World.cell?, hbq]
  have HPR := hide (present_any B qb c hi A F L H E D W hQ0)
  have hL4 := hQ0.len
  have HND := hide hQ0.nd
  obtain ⟨nL, hnL⟩ : ∃ nL, L.length = nL := ⟨_, rfl⟩
  have HNL := hide hnL
  rw [hnL] at HPR hL4
  have HJ := hide hJ
  have HG := hide hG
  have HY := hide hY
  have H0 := hide h0
  clear hQ0 hbq hJ hG hY h0 hJx hS hnL
  refine callsIn_of_wp Try.func36 rfl trivial ?_ rfl
  simp only [Try.ntmps36, List.size_toArray, List.length_cons, List.length_nil, Nat.reduceAdd, Nat.reduceSub, Array.replicate_succ, Array.replicate_zero, List.push_toArray, List.append_toArray, List.nil_append, List.cons_append]
  gi_wp2_with fail
  refine ⟨trivial, hdd _, ?_⟩
  refine (callsIn_wide.2 HPR.out).mono ?_
  rintro e w1 ⟨rfl, HK⟩
  obtain ⟨ks, hp, hso, hwy, hb1⟩ := HK.out
  obtain ⟨L', hpL, hmap⟩ := perm_map_inv (evB E D) hp L rfl
  have HSO : Hid (∀ i j (hi : i < L'.length) (hj : j < L'.length), i < j → 0 ≤ ordZ (E L'[j]) (E L'[i])) := fun i j hi hj hij => by
    subst hmap
    have := hso i j (by simpa using hi) (by simpa using hj) hij
    simp only [List.getElem_map] at this
    exact this
  have HPL := hide hpL
  have HMP := hide hmap
  have HW1 := hide hwy
  have HJ1 : Hid (J [] w1) := own_belowJ HJ.out H0.out hb1
  have HZ1 : Hid (W.heap.size ≤ w1.heap.size) := hb1.size
  have hL'n : L'.length = nL := by rw [hpL.length_eq]; exact HNL.out
  have HLN := hide hL'n
  have hksn : ks.length = nL := by rw [← hmap, List.length_map]; exact hL'n
  have HKN := hide hksn
  clear hp hso hwy hb1 hpL hmap HK hL'n hksn HPR hcq
  gi_wp2_with fail
  gi_loopw [8] (fun v8 wr => ∃ i : Nat, v8 = .int .i64 (i : Int) ∧ i ≤ nL ∧ Hid (J (L'.take i) wr) ∧ Hid (W.heap.size ≤ wr.heap.size ∧ Wy EK wr W.heap.size (.slice (some ⟨W.heap.size, 0, none⟩) nL nL) ks)) (fun v8 _ => nL - (intOf v8).toNat)
  case atStart => exact ⟨0, rfl, Nat.zero_le _, HJ1, HZ1.out, HW1.out⟩
  case round =>
    rename World => wr
    clear HJ1 HW1
    obtain ⟨i, rfl, hi, HJr, HWr⟩ := hrel
    by_cases hil : i < nL
    · have hil' : (i : Int) < (nL : Int) := by omega
      have hwn : IntKind.i64.wrap ((i : Int) + 1) = (i : Int) + 1 := by rw [IntKind.wrap_i64]; omega
      have hiL : i < L'.length := by rw [HLN.out]; exact hil
      obtain ⟨b, hb⟩ : ∃ b, L'[i] = b := ⟨_, rfl⟩
      have hbL : b ∈ L := by rw [← HPL.out.mem_iff, ← hb]; exact List.getElem_mem _
      have hbn : b ∉ L'.take i := fun e => by
        obtain ⟨j, hj, he⟩ := List.mem_iff_getElem.1 e
        rw [List.length_take] at hj
        rw [List.getElem_take, ← hb] at he
        have := (List.getElem_inj (HPL.out.nodup_iff.2 HND.out)).1 he
        omega
      obtain ⟨g, off, cap, e1, hcap, hg1, hg2, hce⟩ := HWr.out.2.ent i (by rw [HKN.out]; exact hil)
      rw [HKN.out] at e1
      cases e1
      have hke : ks[i]'(by rw [HKN.out]; exact hil) = evB E D b := by
        have := HMP.out
        subst this
        rw [List.getElem_map, hb]
      rw [hke] at hce
      have y0 := hce 0 _ rfl
      have y1 := hce 1 _ rfl
      have y2 := hce 2 _ rfl
      have y3 := hce 3 _ rfl
      have y4 := hce 4 _ rfl
      have y5 := hce 5 _ rfl
      have y6 := hce 6 _ rfl
      rw [Nat.add_zero] at y0
      simp only [Nat.zero_add] at y0 y1 y2 y3 y4 y5 y6
      have hQr := (HG.out _ _ HJr.out).1
      have hob := hQr.dat b hbL
      have hdl := hQr.dl b hbL
      have hdat := evB_dat hob
      obtain ⟨W2, hW2⟩ : ∃ W2, wr.alloc (Obj.cells #[.int .i64 (E b).seq, .int .i64 (E b).pri, .int .i64 (E b).exp, .bool (E b).dur, .int .i64 (E b).cnt, .int .i64 (E b).hol, .slice (slA (E b).dat) (D b).length (slC (E b).dat)] 37) = W2 := ⟨_, rfl⟩
      have hb2 : Below wr.heap.size wr W2 := by rw [← hW2]; exact bel1 (Below.refl _ _) (Nat.le_refl _) _
      have HOW : Hid (Calls Try.prog 25 #[.agg #[.int .i64 (E b).seq, .int .i64 (E b).pri, .int .i64 (E b).exp, .bool (E b).dur, .int .i64 (E b).cnt, .int .i64 (E b).hol, .slice (slA (E b).dat) (D b).length (slC (E b).dat)]] W2 fun e w' => ∃ v, e = .returned ((E b).put v).ent ∧ Hid (Ob W2.heap.size w' v (D b)) ∧ Below W2.heap.size W2 w') := by
        have := own_any (E b) (D b) W2 ((hob.below hb2).rb) (by omega)
        unfold It.ent at this
        rw [hdat] at this
        exact this
      have HB2 := hide hb2
      have HW2 := hide hW2
      have HBN := hide hbn
      have HBE := hide hb
      unfold It.put It.ent at HOW
      clear hce hQr hob hdl hdat hb2 hW2 hbn hb hke hg2
      unfold evB at y0 y1 y2 y3 y4 y5 y6
      simp only at y0 y1 y2 y3 y4 y5 y6
      gi_wp2_with fail
      rw [HW2.out]
      refine ⟨trivial, hdd _, ?_⟩
      refine (callsIn_wide.2 HOW.out).mono ?_
      rintro e w3 ⟨v, rfl, HOB, hb3⟩
      obtain ⟨av, cv, hv'⟩ := row_form HOB.out.1
      subst hv'
      have hb23 : Below wr.heap.size wr w3 := belOn HB2.out HB2.out.size hb3
      have HB23 := hide hb23
      obtain ⟨fn, tm, asg, bdy, hy, hR⟩ := HY.out (n - 1) (L'.take i) ⟨(E b).seq, (E b).pri, (E b).exp, (E b).dur, (E b).cnt, (E b).hol, av, (D b).length, cv⟩ (L'.take i ++ [b]) wr w3 HJr.out ⟨b, hbL, HBN.out, rfl, hb23, ⟨rfl, rfl, rfl, rfl, rfl, rfl⟩, rfl, HOB.out.mono HB2.out.size⟩
      simp only [encQ] at hy
      have HR := hide hR
      have HT1 : Hid (L'.take (i + 1) = L'.take i ++ [b]) := by show _ = _; rw [List.take_succ_eq_append_getElem hiL, HBE.out]
      clear hR hb3 hb23
      gi_wp2_with fail
      refine ⟨hdd _, ?_⟩
      refine HR.out.mono ?_
      rintro e W3 ⟨hkp, (⟨rfl, t'', ht, hJ1⟩ | ⟨rfl, hx1⟩)⟩
      · subst ht
        have HJ1 : Hid (J (L'.take (i + 1)) W3) := by rw [HT1.out]; exact hJ1
        have HWn : Hid (W.heap.size ≤ W3.heap.size ∧ Wy EK W3 W.heap.size (.slice (some ⟨W.heap.size, 0, none⟩) nL nL) ks) := by
          refine ⟨Nat.le_trans (Nat.le_trans HWr.out.1 HB23.out.size) hkp.1, ?_⟩
          have hw3 := HWr.out.2.ke (KE.below HB23.out)
          refine hw3.at (fun k e => ?_)
          obtain ⟨cur, hc⟩ := hw3.typ e
          rw [hc]
          exact hkp.2 k _ (hw3.lt e).1 (fun cs f => ⟨fun e => by simp only [Obj.cells.injEq] at e; exact absurd e.2.1 (by decide), fun e => by simp only [Obj.cells.injEq] at e; exact absurd e.2.1 (by decide)⟩) hc
        clear hJ1 hkp
        gi_wp2_with fail
        go_roundw
        case rel => exact ⟨i + 1, by go_num, by omega, HJ1, HWn⟩
        case measure => simp [intOf]; omega
      · have HX1 := hide hx1
        clear hx1 hkp
        gi_wp2
        refine bodyPost_ret (results_none rfl _ _ _) rfl ?_
        exact ⟨⟨_, rfl⟩, .inr HX1.out⟩
    · obtain rfl : nL = i := by omega
      gi_wp2
      go_end0
      have e : L'.take nL = L' := List.take_of_length_le (by rw [HLN.out]; exact Nat.le_refl _)
      have hj := HJr.out
      rw [e] at hj
      exact ⟨⟨_, rfl⟩, .inl ⟨L', ⟨HPL.out, HSO.out⟩, hj⟩⟩
end Go.Proofs.Ytnbhifakfehefaa
