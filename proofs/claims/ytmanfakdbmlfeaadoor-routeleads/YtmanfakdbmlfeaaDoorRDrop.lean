
/- Stage 18: Drop. -/
import Derived.Test.YtmanfakdbmlfeaaDoorRBindN
namespace Go.Proofs.YtmanfakdbmlfeaaDoor
open Go.RowKit Go.Maps
set_option linter.unusedVariables false
set_option linter.unusedSimpArgs false
theorem wp_del_B {o : Oper} {a : Act} {w : World} {C : Act → World → Prop} {Q : Exit → Act → World → Prop} (m x : Operand) (hop : o.op = Op.call { callee := Callee.builtin Builtin.delete, args := #[m, x], argTypes := #[54, 36] }) (b r n : Nat) (D : DataW Value) (left : Lit → Bool) (cnt : Nat) (hm : a.eval m = .map (some b)) (h : w.ranges Tryd.prog 36 rH b r n D left cnt) (k : Bd) (hx : a.eval x = bdV k) (hk : okB k)
    (hK : ∀ w' cnt', w'.ranges Tryd.prog 36 rH b r n (D.del (.string (kb k).data.toList)) (fun z => left z && !z.sameKey (.string (kb k).data.toList)) cnt' → cnt' ≤ cnt → w.mapTurned w' b → C (a.put o.dst (.tuple #[])) w') : o.wp Tryd.prog a w C Q := by
  obtain ⟨w', cnt', hrun, r1, r2, r3⟩ := h.drop Tryd.bkeyed Tryd.underlying54 (keyB hk.1 hk.2) o.type
  unfold Oper.wp
  simp [execOp, hop, resolve, invoke, builtin, hm, hx, hrun, Result.andThen]
  exact hK _ _ r1 r2 r3
/-- what is left of the bindings, as far as they have come -/
def lft (L : List Bd) (left : Lit → Bool) (q : ByteArray) : List Bd := L.filter fun b => left (.string (kb b).data.toList) || !decide (b.2 = q)
theorem lft_start {L : List Bd} {D : DataW Value} (q : ByteArray) (h0 : ∀ x, x ∈ L → okB x) (hR : Rp unV D (tb L)) : lft L (Maps.has D) q = L := by
  unfold lft
  rw [List.filter_eq_self]
  intro p hp
  rw [hR.has, tb_any h0 (h0 p hp), hasB_iff.2 hp, Bool.true_or]
theorem lft_done {L : List Bd} {left : Lit → Bool} {q : ByteArray} (h : ∀ k : Bd, left (.string (kb k).data.toList) = false) : lft L left q = L.filter fun b => !decide (b.2 = q) := by
  unfold lft
  exact List.filter_congr fun b _ => by rw [h b, Bool.false_or]
theorem lft_sub {L : List Bd} {left : Lit → Bool} {q : ByteArray} {x : Bd} (h : x ∈ lft L left q) : x ∈ L := (List.mem_filter.1 h).1
theorem same_kb {q x : Bd} (hq : okB q) (hx : okB x) : (Lit.string (kb q).data.toList).sameKey (.string (kb x).data.toList) = decide (q = x) := by
  rw [lit_same, Bool.eq_iff_iff, decide_eq_true_eq, decide_eq_true_eq]
  exact ⟨fun e => kb_inj hq hx e, fun e => by rw [e]⟩
theorem lft_stay {L : List Bd} {left : Lit → Bool} {q : ByteArray} {x : Bd} (h0 : ∀ x, x ∈ L → okB x) (hx : x ∈ L) (hne : x.2 ≠ q) : lft L (fun z => left z && !z.sameKey (.string (kb x).data.toList)) q = lft L left q := by
  unfold lft
  refine List.filter_congr fun b hb => ?_
  dsimp only
  rw [same_kb (h0 b hb) (h0 x hx)]
  by_cases e : b = x
  · subst e
    simp [hne]
  · simp [e]
theorem lft_drop {L : List Bd} {left : Lit → Bool} {q : ByteArray} {x : Bd} (h0 : ∀ x, x ∈ L → okB x) (hx : x ∈ L) (he : x.2 = q) : (lft L left q).filter (fun b => !decide (b = x)) = lft L (fun z => left z && !z.sameKey (.string (kb x).data.toList)) q := by
  unfold lft
  rw [List.filter_filter]
  refine List.filter_congr fun b hb => ?_
  dsimp only
  rw [same_kb (h0 b hb) (h0 x hx)]
  by_cases e : b = x
  · subst e
    simp [he]
  · simp [e]
set_option maxHeartbeats 4000000 in
set_option maxRecDepth 100000 in
theorem drop_any (w : World) (r m : Nat) (L : List Bd) (q : ByteArray) (hR : RtM w r m L) (hn : L.length ≤ 256) :
    Calls Tryd.prog 18 #[.pointer (some ⟨r, 0, none⟩), .string q] w fun e w' => e = .returned (.int .i64 ((L.length : Int) - ((L.filter fun b => !decide (b.2 = q)).length : Int))) ∧ RtM w' r m (L.filter fun b => !decide (b.2 = q)) ∧ Kp (fun k => k = m) w w' := by
  have h0 := hR.2.1
  have hnd := hR.2.2.1
  have hcr := hR.cell
  have hln := len_run hR.2
  have hlt := hR.lt
  have hml := hR.2.lt
  have hrm : r ≠ m := fun e => hR.ne e.symm
  have HRB := hide hR.1
  have HCR : Hid (∀ W, Kp (fun k => k = m) w W → W.cell? ⟨r, 0, none⟩ = some (.map (some m))) := fun W hk => (Kp.cell hk hlt hrm).trans hcr
  have hmx : Tryd.prog.follows .mixedOrders = true := by kernel_rfl
  go_enter Tryd.func18, Tryd.ntmps18
  go_wp2_with (at_range; refine range_B rfl _ rfl m rfl L hR.2 ?_; intro w2 D hRp hrg hg2 hs2)
  have HR := hide hRp
  have HG0 := hide hrg
  have HB2 : Hid (Kp (fun k => k = m) w w2) := (Kp.refl _ w).grown hg2 (fun j e => by cases e)
  clear hRp hrg hg2 hln
  go_frame
  go_loopw [] (fun wr => ∃ left cnt D1, wr.ranges Tryd.prog 36 rH m w.heap.size L.length D1 left cnt ∧ Hid (Rp unV D1 (tb (lft L left q))) ∧ Kp (fun k => k = m) w wr ∧ w.heap.size + 1 ≤ wr.heap.size) (fun wr => wr.rangeLeft m w.heap.size)
  case atStart => exact ⟨_, _, D, HG0.out, by rw [lft_start q h0 HR.out]; exact HR.out, HB2.out, by omega⟩
  case round =>
    clear HG0 HB2
    obtain ⟨left, cnt, D1, hrg, HRp, hkp, hsz⟩ := hrel
    have HRg := hide hrg
    have HKp := hide hkp
    have H01 : Hid (∀ x, x ∈ lft L left q → okB x) := fun x hx => h0 x (lft_sub hx)
    clear hrg hkp
    go_wp2_with (at_next; go_loud (refine next_B rfl _ rfl m w.heap.size L.length D1 (lft L left q) left cnt rfl H01.out HRp.out HRg.out ?_ ?_))
    · intro hl0
      have hTB : TbB wr m (lft L left q) := ⟨H01.out, hnd.filter _, D1, own_lowB HRg.out.owns (by rw [HRp.out.size]; simp [tb]), HRp.out⟩
      have hln := len_run hTB
      have hcr2 := HCR.out wr HKp.out
      have HLD : Hid (lft L left q = L.filter fun b => !decide (b.2 = q)) := lft_done (fun k => hl0 k.1 k.2)
      have HTB := hide hTB
      have hll : (lft L left q).length ≤ L.length := List.length_filter_le _ _
      clear hTB hl0
      go_wp2
      go_ret
      refine ⟨?_, ⟨(Kp.block HKp.out hlt hrm).trans HRB.out, by rw [← HLD.out]; exact HTB.out⟩, HKp.out⟩
      rw [← HLD.out]
      first | rfl | (congr 2; go_num)
    · intro p1 p2 wn cntn hm hlx hrgn hltn hgn hsn hen
      have hmL := lft_sub hm
      have hokx := h0 (p1, p2) hmL
      have HRn := hide hrgn
      have HKn : Hid (Kp (fun k => k = m) w wn) := HKp.out.grown hgn (fun j e => by cases e; exact .inr (Nat.le_refl _))
      have hsn1 : w.heap.size + 1 ≤ wn.heap.size := by omega
      have HVB : Hid (Below wn.heap.size wn (wn.alloc (.cells #[.string p1, .string p2] 36))) := bel1 (Below.refl _ _) (Nat.le_refl _) _
      have HRV : Hid ((wn.alloc (.cells #[.string p1, .string p2] 36)).ranges Tryd.prog 36 rH m w.heap.size L.length D1 (fun z => left z && !z.sameKey (.string (kb (p1, p2)).data.toList)) cntn) := HRn.out.alloc _
      have HKV : Hid (Kp (fun k => k = m) w (wn.alloc (.cells #[.string p1, .string p2] 36))) := HKn.out.alloc _
      have hVc : (wn.alloc (.cells #[.string p1, .string p2] 36)).heap[wr.heap.size]? = some (.cells #[.string p1, .string p2] 36 (0, 0)) := by rw [← hsn]; exact heap_new _ _
      obtain ⟨V, hV⟩ : ∃ V, V = wn.alloc (.cells #[.string p1, .string p2] 36) := ⟨_, rfl⟩
      have hVs : V.heap.size = wr.heap.size + 1 := by rw [hV]; simp; exact hsn
      rw [← hV] at HRV HKV hVc
      have HST : Hid (p2 ≠ q → lft L (fun z => left z && !z.sameKey (.string (kb (p1, p2)).data.toList)) q = lft L left q) := fun hne => lft_stay h0 hmL hne
      have HDR : Hid (p2 = q → (lft L left q).filter (fun b => !decide (b = (p1, p2))) = lft L (fun z => left z && !z.sameKey (.string (kb (p1, p2)).data.toList)) q) := fun he => lft_drop h0 hmL he
      have hwm : m < wr.heap.size := Nat.lt_of_lt_of_le hml HKp.out.size
      clear hm hlx hrgn hgn
      unfold bdV at hen ⊢
      by_cases he : p2 = q
      · have e1 : (p2.toList == q.toList) = true := by rw [str_eq]; simpa using he
        have HD2 := hide (HDR.out he)
        clear he
        go_wp2_with fail
        rw [← hV]
        clear hV hen
        have hcr2 := HCR.out V HKV.out
        have hc0 : V.cell? ⟨wr.heap.size, 0, none⟩ = some (.string p1) := cellOf hVc 0 _ rfl
        have hc1 : V.cell? ⟨wr.heap.size, 1, none⟩ = some (.string p2) := cellOf hVc 1 _ rfl
        go_wp2_with fail
        refine wp_region_held_drew (S := fun W => W.cell? ⟨r, 0, none⟩ = some (.map (some m)) ∧ W.cell? ⟨wr.heap.size, 0, none⟩ = some (.string p1) ∧ W.cell? ⟨wr.heap.size, 1, none⟩ = some (.string p2)) (by kernel_rfl) ⟨hcr2, hc0, hc1⟩ (fun hHeld => ?_)
        refine take_do (i := 0) (d := 25) (v := ?_) rfl rfl (by kernel_rfl) (by kernel_rfl) (by kernel_rfl) (fun _ _ _ h => h) rfl ?_ (by assumption) ?_
        rotate_left
        · intro W hSw
          try dsimp only at hSw
          go_simp
          try with_reducible rfl
        try simp only [List.setIfInBounds_toArray, List.set_cons_zero, List.set_cons_succ]
        refine take_do (i := 1) (d := 26) (v := ?_) rfl rfl (by kernel_rfl) (by kernel_rfl) (by kernel_rfl) (fun _ _ _ h => h) rfl ?_ (by assumption) ?_
        rotate_left
        · intro W hSw
          try dsimp only at hSw
          go_simp
          try with_reducible rfl
        try simp only [List.setIfInBounds_toArray, List.set_cons_zero, List.set_cons_succ]
        refine take_do (i := 2) (d := 27) (v := ?_) rfl rfl (by kernel_rfl) (by kernel_rfl) (by kernel_rfl) (fun _ _ _ h => h) rfl ?_ (by assumption) ?_
        rotate_left
        · intro W hSw
          try dsimp only at hSw
          go_simp
          try with_reducible rfl
        try simp only [List.setIfInBounds_toArray, List.set_cons_zero, List.set_cons_succ]
        refine take_do (i := 3) (d := 28) (v := ?_) rfl rfl (by kernel_rfl) (by kernel_rfl) (by kernel_rfl) (fun _ _ _ h => h) rfl ?_ (by assumption) ?_
        rotate_left
        · intro W hSw
          try dsimp only at hSw
          have hc := hSw.1
          go_simp
          try with_reducible rfl
        try simp only [List.setIfInBounds_toArray, List.set_cons_zero, List.set_cons_succ]
        refine take_do (i := 4) (d := 29) (v := ?_) rfl rfl (by kernel_rfl) (by kernel_rfl) (by kernel_rfl) (fun _ _ _ h => h) rfl ?_ (by assumption) ?_
        rotate_left
        · intro W hSw
          try dsimp only at hSw
          obtain ⟨_, hq1, hq2⟩ := hSw
          go_simp
          try with_reducible rfl
        try simp only [List.setIfInBounds_toArray, List.set_cons_zero, List.set_cons_succ]
        refine wpAnyH_ready (rs := [5]) (by kernel_rfl) (by simp) ?_
        refine AllReadyH.cons rfl (fun K hK => ?_) AllReadyH.nil
        rw [if_pos (by kernel_rfl)]
        refine wp_del_B (.tmp 28) (.tmp 29) rfl m w.heap.size L.length D1 _ cntn rfl (HRV.out.kept (row := none) (w' := V.drew) ⟨rfl, rfl, rfl, Nat.le_refl _, fun _ _ _ => rfl⟩ (by simp) (by simp)) (p1, p2) rfl hokx (fun w7 cnt7 hr7 hle7 hm7 => ?_)
        have k7 := grown_kp hm7
        have hV7 : V.heap.size ≤ w7.heap.size := k7.size
        have HC7 : Hid (w7.cell? ⟨r, 0, none⟩ = some (.map (some m)) ∧ w7.cell? ⟨wr.heap.size, 0, none⟩ = some (.string p1) ∧ w7.cell? ⟨wr.heap.size, 1, none⟩ = some (.string p2)) :=
          ⟨(Kp.cell k7 (Nat.lt_of_lt_of_le hlt HKV.out.size) hrm).trans hcr2, (Kp.cell k7 (show wr.heap.size < V.heap.size by omega) (by omega)).trans hc0, (Kp.cell k7 (show wr.heap.size < V.heap.size by omega) (by omega)).trans hc1⟩
        have HK7 : Hid (Kp (fun k => k = m) w w7) := (HKV.out.below (Below.drew (Below.refl V.heap.size V))).trans k7
        have HR7 : Hid (w7.ranges Tryd.prog 36 rH m w.heap.size L.length (D1.del (.string (kb (p1, p2)).data.toList)) (fun z => left z && !z.sameKey (.string (kb (p1, p2)).data.toList)) cnt7) := by
          have := hr7
          rw [Maps.strike_twice] at this
          exact this
        have HP7 : Hid (Rp unV (D1.del (.string (kb (p1, p2)).data.toList)) (tb (lft L (fun z => left z && !z.sameKey (.string (kb (p1, p2)).data.toList)) q))) := by
          have := HRp.out.del (kb (p1, p2))
          rw [tb_filter H01.out hokx, HD2.out] at this
          exact this
        have hz7 : w.heap.size + 1 ≤ w7.heap.size := by omega
        clear hr7 hm7 k7
        refine hK.out _ _ HC7.out (fun hHeld => ?_)
        clear hK K
        try simp only [Act.put, List.setIfInBounds_toArray, List.set_cons_zero, List.set_cons_succ]
        refine wpAnyH_done (by kernel_rfl) ?_ _
        go_wp2
        go_roundw
        case rel => exact ⟨_, cnt7, _, HR7.out, HP7.out, HK7.out, hz7⟩
        case measure => rw [HR7.out.left_eq, HRg.out.left_eq]; omega
      · have e1 : (p2.toList == q.toList) = false := by rw [str_eq]; simpa using he
        have HS2 := hide (HST.out he)
        have HP2 : Hid (Rp unV D1 (tb (lft L (fun z => left z && !z.sameKey (.string (kb (p1, p2)).data.toList)) q))) := by rw [HS2.out]; exact HRp.out
        clear he
        go_wp2
        rw [← hV]
        clear hV hen
        go_roundw
        case rel => exact ⟨_, cntn, D1, HRV.out, HP2.out, HKV.out, by omega⟩
        case measure => rw [HRV.out.left_eq, HRg.out.left_eq]; exact hltn
end Go.Proofs.YtmanfakdbmlfeaaDoor
