import Derived.Test.YtgpimajdcfoigaaDoorB25
import Derived.Test.YtgpimajdcfoigaaDoorB49
import Derived.BigQuiet

/- codec.Decode at a place that is not there. -/
namespace Go.Proofs.YtgpimajdcfoigaaDoor
open Go.RowKit
set_option linter.unusedVariables false
set_option linter.unusedSimpArgs false
set_option maxRecDepth 100000 in
set_option maxHeartbeats 1000000 in
theorem decode_arg (a : Option Addr) (n cap : Nat) (at_ : Int) (w : World) (h : at_ < 0 ∨ (n : Int) < at_) :
    Calls Tryd.prog 10 #[.slice a n cap, .int .i64 at_] w fun e w' => e = .returned (.tuple #[.agg #[.int .i64 0, .int .u64 0, .string ⟨#[]⟩, .slice none 0 0, .int .i64 0], .int .i64 0, .int .i64 1]) ∧ Below w.heap.size w w' := by
  have HB : Hid (Below w.heap.size w (((w.alloc (.cells #[.int .i64 0, .int .u64 0, .string ⟨#[]⟩, .slice none 0 0, .int .i64 0] 25)).alloc (.cells #[.int .i64 0] 3)).alloc (.cells #[.int .i64 1] 29))) := bel1 (bel2 (Below.refl _ _) (Nat.le_refl _) _ _) (by simp; omega) _
  rcases h with h | h
  · go_enter_defers Tryd.func10, Tryd.ntmps10
    go_wp2
    refine ⟨.tuple #[.agg #[.int .i64 0, .int .u64 0, .string ⟨#[]⟩, .slice none 0 0, .int .i64 0], .int .i64 0, .int .i64 1], ?_, rfl, HB.out⟩
    simp [results, Tryd.results10, go_sem]
  · have h0 : ¬ at_ < 0 := by omega
    go_enter_defers Tryd.func10, Tryd.ntmps10
    go_wp2
    refine ⟨.tuple #[.agg #[.int .i64 0, .int .u64 0, .string ⟨#[]⟩, .slice none 0 0, .int .i64 0], .int .i64 0, .int .i64 1], ?_, rfl, HB.out⟩
    simp [results, Tryd.results10, go_sem]
end Go.Proofs.YtgpimajdcfoigaaDoor


/- CodecAgain: the walk. -/
namespace Go.Proofs.YtgpimajdcfoigaaDoor
open Go.RowKit
set_option linter.unusedVariables false
set_option linter.unusedSimpArgs false
theorem cut_bytes (b off n cap i j : Nat) (hij : i < j) (hj : j ≤ n) (hnc : n ≤ cap) (w : World) :
    (Instr.slice 26 (.slice (some ⟨b, off, none⟩) n cap) (some (.int .i64 (i : Int))) (some (.int .i64 (j : Int))) none).run Tryd.prog w = .ok (.slice (some ⟨b, off + i, none⟩) (j - i) (cap - i)) w := by
  obtain ⟨i0, hi, hzz⟩ := Option.map_eq_some_iff.1 Tryd.info5
  simp only [Prod.mk.injEq] at hzz
  obtain ⟨hz0, hz1, hz2⟩ := hzz
  have h1 : ((i : Int) ≤ (j : Int)) := by omega
  have h2 : ((j : Int) ≤ (cap : Int)) := by omega
  have hij' : i ≤ j := by omega
  have hj' : j ≤ cap := by omega
  have hne : ¬ cap = i := by omega
  have e1 : (⟨b, off, none⟩ : Addr).add i = ⟨b, off + i, none⟩ := by by_cases h : i = 0 <;> simp [Addr.add, h]
  simp [Instr.slice, run_underlying Tryd.underlying26, Instr.sliceBounds, Instr.sliceBound, asIntOf, sizeOf, typeInfo, hi, hz1, hij', hj', go_sem]
  first | (rw [if_neg hne, e1]) | simp [hne, e1] | (split <;> simp_all)
theorem rd_cut {w : World} {b off n : Nat} {l : List Nat} (h : Rd w (some ⟨b, off, none⟩) n l) (p q : Nat) (hpq : p < q) (hq : q ≤ n) : Rd w (some ⟨b, off + p, none⟩) (q - p) ((l.drop p).take (q - p)) := by
  refine ⟨by rw [List.length_take, List.length_drop, h.1]; omega, fun c hc => h.2.1 c (List.mem_of_mem_drop (List.mem_of_mem_take hc)), fun _ => ?_⟩
  obtain ⟨b', off', e, hlt, hc⟩ := h.2.2 (by omega)
  cases e
  refine ⟨b, off + p, rfl, hlt, fun j hj => ?_⟩
  rw [show off + p + j = off + (p + j) by omega, hc (p + j) (by omega)]
  simp [List.getD_eq_getElem?_getD, List.getElem?_drop, List.getElem?_take, hj]
theorem Lies.keep2 {n m : Nat} {W : World} {v : V} (h : Lies n W v) (hnm : n ≤ m) : Lies m W v := LiesIn.keep h (fun _ _ _ => rfl) (fun b hb => by show b < m; have : b < n := hb; omega)
theorem eqT_same (x : T) : eqT x x = true := by
  have := neg_ord x x
  unfold eqT
  simp
  omega
/-- what was read, by itself -/
theorem lone_dec (l : List Nat) (p q : Nat) (t : T) (hp : p ≤ l.length) (h : rdec badB twiceW l p = .ok (t, q)) : rdec badB twiceW ((l.drop p).take (q - p)) 0 = .ok (t, ((l.drop p).take (q - p)).length) := by
  obtain ⟨h1, h2, h3, _⟩ := rdec_far badB twiceW l h
  have e1 : l = l.take p ++ ((l.drop p).take (q - p) ++ l.drop q) := by
    have : l.drop q = (l.drop p).drop (q - p) := by rw [List.drop_drop]; congr 1; omega
    rw [this, List.take_append_drop, List.take_append_drop]
  have e2 : (l.take p).length = p := by rw [List.length_take]; omega
  have e3 : ((l.drop p).take (q - p)).length = q - p := by rw [List.length_take, List.length_drop]; omega
  refine rdec_lone badB twiceW (l.take p) _ (l.drop q) t ?_
  rw [← e1, e2, e3, h]
  congr 2
  omega
set_option maxRecDepth 100000 in
set_option maxHeartbeats 8000000 in
theorem again_walk (a : Option Addr) (n cap : Nat) (l : List Nat) (k : Int) (w : World) (hr : Rd w a n l) (hnc : n ≤ cap) (hz : cap ≤ 140737488351232) (wk : (Lit.int .i64 k).wf = true) (hT : SzTab w) (hU : Lib.Utf8Tabs 1 2 w) :
    Calls Tryd.prog 5 #[.slice a n cap, .int .i64 k] w fun e w' => e = .returned (.bool true) ∧ Below w.heap.size w w' := by
  have HTB : Hid (∀ W1, Below w.heap.size w W1 → SzTab W1 ∧ Lib.Utf8Tabs 1 2 W1) := fun W1 hW => ⟨hT.below hW, tabs_below hU hW⟩
  have HAW := hide (awake_any w hT hU)
  have hapart : ∀ x, a = some x → 0 < n → x.block < w.heap.size := fun x hx h0 => by
    obtain ⟨b, off, e, hlt, _⟩ := hr.2.2 h0
    rw [hx] at e; cases e; exact hlt
  have HRD : Hid (∀ W1, Below w.heap.size w W1 → Rd W1 a n l) := fun W1 hW => hr.below hW
  have hln := hr.1
  have hby := hr.2.1
  clear hT hU
  by_cases hbad : k < 0 ∨ (n : Int) < k
  · have HDA : Hid (∀ W1, Calls Tryd.prog 10 #[.slice a n cap, .int .i64 k] W1 fun e w' => e = .returned (.tuple #[.agg #[.int .i64 0, .int .u64 0, .string ⟨#[]⟩, .slice none 0 0, .int .i64 0], .int .i64 0, .int .i64 1]) ∧ Below W1.heap.size W1 w') := fun W1 => decode_arg a n cap k W1 hbad
    clear hbad wk hln
    go_enter Tryd.func5, Tryd.ntmps5
    go_wp2_with fail
    refine Calls.mono HAW.out ?_
    rintro e1 w1 ⟨rfl, hb1⟩
    have HB1 := hide hb1
    clear hb1
    go_wp2_with fail
    refine Calls.mono (HDA.out _) ?_
    rintro e2 w2 ⟨rfl, hb2⟩
    have HB2 : Hid (Below w.heap.size w w2) := belOn HB1.out HB1.out.size hb2
    clear hb2
    go_wp2
    go_ret
    exact ⟨rfl, bel1 HB2.out HB2.out.size _⟩
  · obtain ⟨p, rfl⟩ : ∃ p : Nat, k = (p : Int) := ⟨k.toNat, by omega⟩
    have hp : p ≤ n := by omega
    clear hbad wk
    have hlp : p ≤ l.length := by omega
    have HBT : Hid (∀ W1, Below w.heap.size w W1 → Bts W1 a n cap l) := fun W1 hW => ⟨HRD.out W1 hW, hnc, by omega, fun h0 x hx => Nat.lt_of_lt_of_le (hapart x hx h0) hW.size, (HTB.out W1 hW).1, (HTB.out W1 hW).2, tabs_three (HTB.out W1 hW).2⟩
    have HDE : Hid (∀ W1, Below w.heap.size w W1 → Calls Tryd.prog 10 #[.slice a n cap, .int .i64 (p : Int)] W1 (DecOut (rdec badB twiceW l p) p n W1)) := fun W1 hW => decode_any a n cap p l W1 (HBT.out W1 hW) hp
    cases hrd : rdec badB twiceW l p with
    | error x =>
      have hx0 := nz_dec badB twiceW l p x hrd
      have hx2 : (x.2 == 0) = false := by rw [beq_eq_false_iff_ne]; exact hx0
      have hx3 : (x.2 != 0) = true := by simpa using hx2
      rw [hrd] at HDE
      clear hrd hx0
      go_enter Tryd.func5, Tryd.ntmps5
      go_wp2_with fail
      refine Calls.mono HAW.out ?_
      rintro e1 w1 ⟨rfl, hb1⟩
      have HB1 := hide hb1
      clear hb1
      go_wp2_with fail
      refine Calls.mono (HDE.out _ HB1.out) ?_
      rintro e2 w2 ⟨rfl, hb2⟩
      have HB2 : Hid (Below w.heap.size w w2) := belOn HB1.out HB1.out.size hb2
      clear hb2
      go_wp2
      go_ret
      exact ⟨rfl, bel1 HB2.out HB2.out.size _⟩
    | ok tq =>
      obtain ⟨t, q⟩ := tq
      obtain ⟨g1, g2, g3, g4, g5, g6⟩ := rdec_rg badB twiceW l hby hlp hrd
      have hlo := lone_dec l p q t hlp hrd
      have HLO := hide hlo
      have HGD := hide g1
      have HDE2 : Hid (∀ W1, Below w.heap.size w W1 → Calls Tryd.prog 10 #[.slice a n cap, .int .i64 (p : Int)] W1 (fun e w' => (∃ y : V, e = .returned (.tuple #[.agg #[.int .i64 y.k, .int .u64 y.n, .string y.s, .slice y.a y.l.length y.c, .int .i64 y.e], .int .i64 (q : Int), .int .i64 0]) ∧ Hid (y.t = t ∧ LiesIn (fun b => W1.heap.size ≤ b ∧ b < w'.heap.size) w' y ∧ p ≤ q ∧ q ≤ n)) ∧ Below W1.heap.size W1 w')) := fun W1 hW => by
        have := HDE.out W1 hW
        rw [hrd] at this
        exact this
      have hqn : q ≤ n := by omega
      have hpq : (p : Int) < (q : Int) := by omega
      have hqi : (q : Int) ≤ (n : Int) := by omega
      have hnq : ¬ (q : Int) ≤ (p : Int) := by omega
      obtain ⟨b, off, rfl, hblt, _⟩ := (HRD.out w (Below.refl _ _)).2.2 (by omega)
      have HLEN := hide (And.intro g2 (And.intro g3 (And.intro g4 g6)))
      clear HDE hrd hlo g1 g2 g3 g5 g6
      go_enter Tryd.func5, Tryd.ntmps5
      go_wp2_with fail
      refine Calls.mono HAW.out ?_
      rintro e1 w1 ⟨rfl, hb1⟩
      have HB1 := hide hb1
      clear hb1
      go_wp2_with fail
      refine Calls.mono (HDE2.out _ HB1.out) ?_
      rintro e2 w2 ⟨⟨y, rfl, HY⟩, hb2⟩
      have HB2 : Hid (Below w.heap.size w w2) := belOn HB1.out HB1.out.size hb2
      clear hb2
      obtain ⟨W3, hW3⟩ : ∃ W3, w2.alloc (Obj.cells #[.int .i64 y.k, .int .u64 y.n, .string y.s, .slice y.a y.l.length y.c, .int .i64 y.e] 25) = W3 := ⟨_, rfl⟩
      have hx3 : W3.heap[w2.heap.size]? = some (.cells #[.int .i64 y.k, .int .u64 y.n, .string y.s, .slice y.a y.l.length y.c, .int .i64 y.e] 25) := by rw [← hW3]; exact World.alloc_heap_new _ _
      have hs3 : W3.heap.size = w2.heap.size + 1 := by rw [← hW3]; simp
      have HB23 : Hid (Below w2.heap.size w2 W3) := by show Below w2.heap.size w2 W3; rw [← hW3]; exact bel1 (Below.refl _ _) (Nat.le_refl _) _
      have HB3 : Hid (Below w.heap.size w W3) := belOn HB2.out HB2.out.size HB23.out
      have HBX : Hid (∀ W1, Below W3.heap.size W3 W1 → BoxC W1 w2.heap.size y ∧ w2.heap.size < W1.heap.size ∧ Below w.heap.size w W1 ∧ Lies W3.heap.size W1 y) := fun W1 hW => by
        have e0 := (hW.block _ (by omega)).trans hx3
        refine ⟨by simp [BoxC, World.cell?, e0], by have := hW.size; omega, belOn HB3.out HB3.out.size hW, ?_⟩
        exact HY.out.2.1.keep (fun b hb o => (hW.cell (p := ⟨b, o, none⟩) (by show b < _; omega)).trans (HB23.out.cell (p := ⟨b, o, none⟩) hb.2)) (fun b hb => by show b < _; omega)
      have HCK : Hid (∀ W1, Below W3.heap.size W3 W1 → Calls Tryd.prog 8 #[.agg #[.int .i64 y.k, .int .u64 y.n, .string y.s, .slice y.a y.l.length y.c, .int .i64 y.e]] W1 fun e w' => e = .returned (.int .i64 0) ∧ Below W1.heap.size W1 w') := fun W1 hW => by
        obtain ⟨_, _, hbw, hly⟩ := HBX.out W1 hW
        have := check_any y W3.heap.size W1 hW.size hly (HTB.out W1 hbw).2
        rw [V.val_eq, (check_iff W3.heap.size W1 y hly).2 (by rw [HY.out.1]; exact HGD.out)] at this
        exact this
      have HEN : Hid (∀ W1, Below W3.heap.size W3 W1 → Calls Tryd.prog 9 #[.agg #[.int .i64 y.k, .int .u64 y.n, .string y.s, .slice y.a y.l.length y.c, .int .i64 y.e]] W1 (fun e w' => ∃ g, e = .returned (.tuple #[.slice (some ⟨g, 0, none⟩) (T.len t) (T.len t), .int .i64 0]) ∧ Hid (W1.heap.size ≤ g ∧ Buf w' g (T.len t) (T.enc t) ∧ (T.enc t).length = T.len t) ∧ Below W1.heap.size W1 w')) := fun W1 hW => by
        obtain ⟨_, _, hbw, hly⟩ := HBX.out W1 hW
        have hL := HLEN.out
        have := encode_any y W3.heap.size W1 hW.size hly (HTB.out W1 hbw).1 (HTB.out W1 hbw).2 (by rw [HY.out.1]; omega)
        rw [V.val_eq] at this
        refine this.mono fun e w' h => ?_
        have he : encE y = 0 := (encE_iff W3.heap.size W1 y hly).2 ⟨by rw [HY.out.1]; exact HGD.out, by rw [HY.out.1]; omega⟩
        rcases h with ⟨hne, _⟩ | ⟨_, g, h1, h2, h3⟩
        · exact absurd he hne
        · rw [HY.out.1] at h1 h2
          exact ⟨g, h1, ⟨h2.out.1, h2.out.2.1, h2.out.2.2.1⟩, h3⟩
      have HW3 := hide hW3
      clear hW3 hx3
      go_wp2_with fail
      rw [HW3.out]
      refine Calls.mono (HCK.out _ (Below.refl _ _)) ?_
      rintro e4 w4 ⟨rfl, hb4⟩
      have HB4 := hide hb4
      clear hb4
      obtain ⟨⟨c0, c1, c2, c3, c4⟩, hz4, _, _⟩ := HBX.out w4 HB4.out
      go_wp2_with fail
      refine Calls.mono (HEN.out _ HB4.out) ?_
      rintro e5 w5 ⟨g, rfl, HG, hb5⟩
      have HB5 : Hid (Below W3.heap.size W3 w5) := belOn HB4.out HB4.out.size hb5
      have hg5 : g < w5.heap.size := HG.out.2.1.lt
      have HR5 : Hid (Rd w5 (some ⟨g, 0, none⟩) (T.len t) (T.enc t)) := by
        have := HG.out.2.1.rd (enc_lt t)
        rw [HG.out.2.2] at this
        exact this
      have hp1 : 0 < T.len t := by unfold T.len; omega
      have hL0 := HLEN.out
      have HDC : Hid (Calls Tryd.prog 10 #[.slice (some ⟨g, 0, none⟩) (T.len t) (T.len t), .int .i64 0] w5 (fun e w' => (∃ y2 : V, e = .returned (.tuple #[.agg #[.int .i64 y2.k, .int .u64 y2.n, .string y2.s, .slice y2.a y2.l.length y2.c, .int .i64 y2.e], .int .i64 ((T.len t : Nat) : Int), .int .i64 0]) ∧ Hid (y2.t = t ∧ LiesIn (fun b => w5.heap.size ≤ b ∧ b < w'.heap.size) w' y2)) ∧ Below w5.heap.size w5 w')) := by
        have hbw := (HBX.out w5 HB5.out).2.2.1
        have hu := (HTB.out w5 hbw).2
        have hB : Bts w5 (some ⟨g, 0, none⟩) (T.len t) (T.len t) (T.enc t) := ⟨HR5.out, Nat.le_refl _, by omega, fun _ x hx => by cases hx; exact hg5, (HTB.out w5 hbw).1, hu, tabs_three hu⟩
        have h := decode_any _ _ _ 0 _ w5 hB (Nat.zero_le _)
        have hed := enc_dec y (by rw [HY.out.1]; exact HGD.out) (by rw [HY.out.1]; omega)
        rw [HY.out.1] at hed
        rw [hed, HG.out.2.2] at h
        exact h.mono fun e w' ⟨⟨y2, h1, h2⟩, h3⟩ => ⟨⟨y2, h1, ⟨h2.out.1, h2.out.2.1⟩⟩, h3⟩
      have HLL : Hid (T.len t ≤ 1048576) := by show T.len t ≤ 1048576; omega
      obtain ⟨L, hL⟩ : ∃ L, T.len t = L := ⟨_, rfl⟩
      rw [hL] at HR5 HDC hp1 hL0 ⊢
      clear c0 c1 c2 c3 c4 hb5 HG HCK HEN HLEN hL hz4
      obtain ⟨⟨c0, c1, c2, c3, c4⟩, hz5, _, _⟩ := HBX.out w5 HB5.out
      go_wp2_with fail
      refine Calls.mono HDC.out ?_
      rintro e6 w6 ⟨⟨y2, rfl, HY2⟩, hb6⟩
      obtain ⟨W7, hW7⟩ : ∃ W7, w6.alloc (Obj.cells #[.int .i64 y2.k, .int .u64 y2.n, .string y2.s, .slice y2.a y2.l.length y2.c, .int .i64 y2.e] 25) = W7 := ⟨_, rfl⟩
      have hx7 : W7.heap[w6.heap.size]? = some (.cells #[.int .i64 y2.k, .int .u64 y2.n, .string y2.s, .slice y2.a y2.l.length y2.c, .int .i64 y2.e] 25) := by rw [← hW7]; exact World.alloc_heap_new _ _
      have hs7 : W7.heap.size = w6.heap.size + 1 := by rw [← hW7]; simp
      have hb67 : Below w6.heap.size w6 W7 := by rw [← hW7]; exact bel1 (Below.refl _ _) (Nat.le_refl _) _
      have HB57 : Hid (Below w5.heap.size w5 W7) := belOn hb6 hb6.size hb67
      have HB7 : Hid (Below W3.heap.size W3 W7) := belOn HB5.out HB5.out.size HB57.out
      have hl2 : Lies W7.heap.size W7 y2 := HY2.out.2.keep (fun b hb o => hb67.cell (p := ⟨b, o, none⟩) hb.2) (fun b hb => by show b < _; omega)
      have hz67 : w6.heap.size < W7.heap.size := by omega
      have HW7 := hide hW7
      have HB6 : Hid (Below W3.heap.size W3 w6) := belOn HB5.out HB5.out.size hb6
      clear hW7 hx7 hb6 hb67 c0 c1 c2 c3 c4
      have hly7 := (HBX.out W7 HB7.out).2.2.2
      obtain ⟨⟨c0, c1, c2, c3, c4⟩, hz7, _, _⟩ := HBX.out w6 HB6.out
      have heq := equal_any y y2 W7.heap.size W7 (Nat.le_refl _) (hly7.keep2 HB7.out.size) hl2
      rw [V.val_eq, V.val_eq, HY.out.1, HY2.out.1, eqT_same] at heq
      have HEQ := hide heq
      clear heq hl2 hly7
      go_wp2_with fail
      rw [HW7.out]
      refine Calls.mono HEQ.out ?_
      rintro e8 w8 ⟨rfl, hb8⟩
      have HB8 : Hid (Below W3.heap.size W3 w8) := belOn HB7.out HB7.out.size hb8
      have HB58 : Hid (Below w5.heap.size w5 w8) := belOn HB57.out HB57.out.size hb8
      clear hb8 c0 c1 c2 c3 c4
      have hpq' : p < q := by omega
      have hcut := fun W => cut_bytes b off n cap p q hpq' hqn hnc W
      have HSH : Hid (Calls Tryd.prog 13 #[.slice (some ⟨b, off + p, none⟩) (q - p) (cap - p)] w8 fun e w' => ∃ s : Bool, e = .returned (.bool s) ∧ Hid (s = true ↔ shortP ((l.drop p).take (q - p))) ∧ Below w8.heap.size w8 w') := by
        have hbw := (HBX.out w8 HB8.out).2.2.1
        have hu := (HTB.out w8 hbw).2
        exact shortest_any _ _ _ _ w8 ⟨rd_cut (HRD.out w8 hbw) p q hpq' hqn, by omega, by omega, fun _ x hx => by cases hx; exact Nat.lt_of_lt_of_le hblt hbw.size, (HTB.out w8 hbw).1, hu, tabs_three hu⟩ (by omega)
      go_wp2_with fail
      refine Calls.mono HSH.out ?_
      rintro e9 w9 ⟨s, rfl, HS, hb9⟩
      have HB9 : Hid (Below w.heap.size w w9) := belOn (HBX.out w8 HB8.out).2.2.1 (HBX.out w8 HB8.out).2.2.1.size hb9
      have s1 : Rd w9 (some ⟨g, 0, none⟩) L (T.enc t) := (HR5.out.below HB58.out).below hb9
      have s2 : Rd w9 (some ⟨b, off + p, none⟩) (q - p) ((l.drop p).take (q - p)) := rd_cut (HRD.out w9 HB9.out) p q hpq' hqn
      have v1 : ∀ n, (convert 26 9 (.slice (some ⟨g, 0, none⟩) L L)).run Tryd.prog (w9.drewN n) = .ok (.string (mkS (T.enc t))) (w9.drewN n) := fun n => conv8 (w := w9.drewN n) s1 hp1 _
      have v2 : ∀ n, (convert 26 9 (.slice (some ⟨b, off + p, none⟩) (q - p) (cap - p))).run Tryd.prog (w9.drewN n) = .ok (.string (mkS ((l.drop p).take (q - p)))) (w9.drewN n) := fun n => conv8 (w := w9.drewN n) s2 (by omega) _
      have x1 := mkS_beq (T.enc t) ((l.drop p).take (q - p)) (enc_lt t) (fun c hc => hby c (List.mem_of_mem_drop (List.mem_of_mem_take hc)))
      have hss : s = decide (T.enc t = (l.drop p).take (q - p)) := by
        rw [Bool.eq_iff_iff, decide_eq_true_eq, HS.out]
        have hw : rwhole ((l.drop p).take (q - p)) = .ok t := by
          unfold rwhole
          rw [HLO.out]
          simp
        constructor
        · rintro ⟨t', h1, _, _, h4⟩
          rw [hw] at h1
          cases h1
          exact h4
        · intro h
          exact ⟨t, hw, HGD.out, HLL.out, h⟩
      rw [hss]
      generalize decide (T.enc t = (l.drop p).take (q - p)) = ss at x1 ⊢
      generalize mkS (T.enc t) = Sv at v1 x1
      generalize mkS ((l.drop p).take (q - p)) = Su at v2 x1
      have hqp : (L : Int) ≤ (q : Int) - (p : Int) := by omega
      have hqw : IntKind.i64.wrap ((q : Int) - (p : Int)) = (q : Int) - (p : Int) := by rw [IntKind.wrap_i64]; omega
      clear hss HS s1 s2 hb9 HSH HLO HGD HBX HDC HEQ HRD HBT HDE2 hL0 hby hln hapart
      go_wp2_with fail
      cases ss
      · have x1' : ¬ Sv.toList = Su.toList := by simpa using x1
        go_quiet (fail)
        go_wp2
        go_ret
        exact ⟨rfl, bel_drewN HB9.out _⟩
      · have x1' : Sv.toList = Su.toList := by simpa using x1
        go_quiet (fail)
        go_wp2
        go_ret
        exact ⟨rfl, bel_drewN HB9.out _⟩
end Go.Proofs.YtgpimajdcfoigaaDoor
