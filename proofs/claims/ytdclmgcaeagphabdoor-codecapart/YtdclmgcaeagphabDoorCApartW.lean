/- CodecApart: the walk. -/
import Derived.Test.YtdclmgcaeagphabDoorCAwake
import Derived.Test.YtdclmgcaeagphabDoorCApartM
import Derived.Test.YtdclmgcaeagphabDoorVWeighA
import Derived.Test.YtdclmgcaeagphabDoorVEq
import Derived.BigQuiet
namespace Go.Proofs.YtdclmgcaeagphabDoor
open Go.RowKit
set_option linter.unusedVariables false
set_option linter.unusedSimpArgs false
/-- two values, side by side in a row -/
theorem pair_row (W : World) (b : Nat) (v u : V) (h : W.heap[b]? = some (.cells #[.int .i64 v.k, .int .u64 v.n, .string v.s, .slice v.a v.l.length v.c, .int .i64 v.e, .int .i64 u.k, .int .u64 u.n, .string u.s, .slice u.a u.l.length u.c, .int .i64 u.e] 25)) : Row W b 0 [v, u] := by
  intro i hi
  have : i = 0 ∨ i = 1 := by simp at hi; omega
  rcases this with rfl | rfl <;> simp [World.cell?, h]
theorem rd_take {w : World} {a : Option Addr} {n m : Nat} {l : List Nat} (h : Rd w a n l) (hm : m ≤ n) : Rd w a m (l.take m) := by
  refine ⟨by rw [List.length_take, h.1]; omega, fun c hc => h.2.1 c (List.mem_of_mem_take hc), fun h0 => ?_⟩
  obtain ⟨b, off, ha, hlt, hc⟩ := h.2.2 (by omega)
  refine ⟨b, off, ha, hlt, fun j hj => ?_⟩
  rw [hc j (by omega)]
  simp [List.getD_eq_getElem?_getD, List.getElem?_take, hj]
theorem wts_two (v u : V) : T.wts (V.ts [v, u]) = T.wt v.t + T.wt u.t := by simp [V.ts, T.wts]
set_option maxRecDepth 100000 in
set_option maxHeartbeats 4000000 in
theorem apart_walk (v u : V) (w : World) (hv : Lies w.heap.size w v) (hu : Lies w.heap.size w u) (hT : SzTab w) (hU : Lib.Utf8Tabs 1 2 w) :
    Calls Tryd.prog 3 #[v.val, u.val] w fun e w' => e = .returned (.bool true) ∧ Below w.heap.size w w' := by
  have HTB : Hid (∀ W1, Below w.heap.size w W1 → SzTab W1 ∧ Lib.Utf8Tabs 1 2 W1) := fun W1 hW => ⟨hT.below hW, tabs_below hU hW⟩
  have HLV : Hid (∀ W1, Below w.heap.size w W1 → Lies w.heap.size W1 v ∧ Lies w.heap.size W1 u) := fun W1 hW => ⟨hv.keep hW (Nat.le_refl _), hu.keep hW (Nat.le_refl _)⟩
  have HAW : Hid (∀ W1, Below w.heap.size w W1 → Calls Tryd.prog 5 #[] W1 fun e w' => e = .returned (.bool true) ∧ Below W1.heap.size W1 w') := fun W1 hW => awake_any W1 (hT.below hW) (tabs_below hU hW)
  obtain ⟨W0, hW0⟩ : ∃ W0, (w.alloc (Obj.cells #[.int .i64 v.k, .int .u64 v.n, .string v.s, .slice v.a v.l.length v.c, .int .i64 v.e] 25)).alloc (Obj.cells #[.int .i64 u.k, .int .u64 u.n, .string u.s, .slice u.a u.l.length u.c, .int .i64 u.e] 25) = W0 := ⟨_, rfl⟩
  have hb0 : Below w.heap.size w W0 := by rw [← hW0]; exact bel2 (Below.refl _ _) (Nat.le_refl _) _ _
  have hx0 : W0.heap[w.heap.size]? = some (.cells #[.int .i64 v.k, .int .u64 v.n, .string v.s, .slice v.a v.l.length v.c, .int .i64 v.e] 25) := by rw [← hW0]; exact heap_past (World.alloc_heap_new _ _) _
  have hx1 : W0.heap[w.heap.size + 1]? = some (.cells #[.int .i64 u.k, .int .u64 u.n, .string u.s, .slice u.a u.l.length u.c, .int .i64 u.e] 25) := by rw [← hW0]; exact heap_at1 _ _ _
  have hz0 : W0.heap.size = w.heap.size + 2 := by rw [← hW0]; simp
  have HBX : Hid (∀ W1, Below W0.heap.size W0 W1 → BoxC W1 w.heap.size v ∧ BoxC W1 (w.heap.size + 1) u ∧ w.heap.size + 1 < W1.heap.size ∧ Below w.heap.size w W1) := fun W1 hW => by
    have e0 := (hW.block _ (by omega)).trans hx0
    have e1 := (hW.block _ (by omega)).trans hx1
    exact ⟨by simp [BoxC, World.cell?, e0], by simp [BoxC, World.cell?, e1], by have := hW.size; omega, belOn hb0 (by omega) hW⟩
  have HW0 := hide hW0
  have HB0 := hide hb0
  clear hW0 hx0 hx1 hz0 hv hu hT hU hb0
  rw [V.val_eq, V.val_eq]
  go_enter Tryd.func3, Tryd.ntmps3
  go_wp2_with fail
  rw [HW0.out]
  refine Calls.mono (HAW.out _ HB0.out) ?_
  rintro e1 w1 ⟨rfl, hb1⟩
  have HB1 := hide hb1
  obtain ⟨⟨c0, c1, c2, c3, c4⟩, ⟨d0, d1, d2, d3, d4⟩, hz1, hbw1⟩ := HBX.out w1 hb1
  have hrow := pair_row (w1.alloc (Obj.cells #[.int .i64 v.k, .int .u64 v.n, .string v.s, .slice v.a v.l.length v.c, .int .i64 v.e, .int .i64 u.k, .int .u64 u.n, .string u.s, .slice u.a u.l.length u.c, .int .i64 u.e] 25)) w1.heap.size v u (World.alloc_heap_new _ _)
  have hba := bel1 hbw1 hbw1.size (Obj.cells #[.int .i64 v.k, .int .u64 v.n, .string v.s, .slice v.a v.l.length v.c, .int .i64 v.e, .int .i64 u.k, .int .u64 u.n, .string u.s, .slice u.a u.l.length u.c, .int .i64 u.e] 25)
  have hga := greatall_any w1.heap.size 0 2 w.heap.size [v, u] _ (by have := hba.size; omega) hrow (by simp) (fun x hx => by
    simp only [List.mem_cons, List.not_mem_nil, or_false] at hx
    rcases hx with rfl | rfl
    · exact (HLV.out _ hba).1
    · exact (HLV.out _ hba).2) (by simp) (by omega)
  rw [wts_two] at hga
  have HGA := hide hga
  have HBA := hide hba
  clear hb1 hrow hga hba
  go_wp2_with fail
  refine Calls.mono HGA.out ?_
  rintro e2 w2 (⟨rfl, hb2⟩ | ⟨rfl, hwt, hb2⟩)
  · go_wp2
    go_ret
    exact ⟨rfl, belOn HBA.out (by have := HB1.out.size; simp; omega) hb2⟩
  · have HB2 : Hid (Below W0.heap.size W0 w2) := belOn (bel1 HB1.out HB1.out.size _) (by have := HB1.out.size; simp; omega) hb2
    clear c0 c1 c2 c3 c4 d0 d1 d2 d3 d4 hb2
    obtain ⟨⟨c0, c1, c2, c3, c4⟩, ⟨d0, d1, d2, d3, d4⟩, hz2, hbw2⟩ := HBX.out w2 HB2.out
    have hev := encode_any v w.heap.size w2 (by omega) (HLV.out _ hbw2).1 (HTB.out _ hbw2).1 (HTB.out _ hbw2).2 (by omega)
    rw [V.val_eq] at hev
    have HEV := hide hev
    clear hev
    go_wp2_with fail
    refine Calls.mono HEV.out ?_
    clear c0 c1 c2 c3 c4 d0 d1 d2 d3 d4
    have HEU : Hid (∀ W1, Below w.heap.size w W1 → Calls Tryd.prog 7 #[.agg #[.int .i64 u.k, .int .u64 u.n, .string u.s, .slice u.a u.l.length u.c, .int .i64 u.e]] W1 (EncOut u W1)) := fun W1 hW => by
      have := encode_any u w.heap.size W1 hW.size (HLV.out _ hW).2 (HTB.out _ hW).1 (HTB.out _ hW).2 (by omega)
      rw [V.val_eq] at this
      exact this
    rintro e3 w3 (⟨hz3, rfl, hb3⟩ | ⟨hz3, g, rfl, HG, hb3⟩)
    · have hzb : (encE v == 0) = false := by rw [beq_eq_false_iff_ne]; exact hz3
      have HB3 : Hid (Below W0.heap.size W0 w3) := belOn HB2.out HB2.out.size hb3
      obtain ⟨_, ⟨d0, d1, d2, d3, d4⟩, hz3', hbw3⟩ := HBX.out w3 HB3.out
      clear hb3
      go_wp2_with fail
      refine Calls.mono (HEU.out _ hbw3) ?_
      rintro e4 w4 (⟨hz4, rfl, hb4⟩ | ⟨hz4, g', rfl, HG', hb4⟩)
      · have hzb4 : (encE u == 0) = false := by rw [beq_eq_false_iff_ne]; exact hz4
        have hbf := belOn hbw3 hbw3.size hb4
        clear hb4
        go_wp2
        go_ret
        exact ⟨rfl, hbf⟩
      · have hbf := belOn hbw3 hbw3.size hb4
        clear hz4 hb4
        go_wp2
        go_ret
        exact ⟨rfl, hbf⟩
    · have HB3 : Hid (Below W0.heap.size W0 w3) := belOn HB2.out HB2.out.size hb3
      obtain ⟨_, ⟨d0, d1, d2, d3, d4⟩, hz3', hbw3⟩ := HBX.out w3 HB3.out
      have hg3 : g < w3.heap.size := HG.out.2.1.lt
      clear hz3 hb3
      go_wp2_with fail
      refine Calls.mono (HEU.out _ hbw3) ?_
      rintro e4 w4 (⟨hz4, rfl, hb4⟩ | ⟨hz4, g', rfl, HG', hb4⟩)
      · have hzb4 : (encE u == 0) = false := by rw [beq_eq_false_iff_ne]; exact hz4
        have hbf := belOn hbw3 hbw3.size hb4
        clear hz4 hb4
        go_wp2
        go_ret
        exact ⟨rfl, hbf⟩
      · have HB4 : Hid (Below W0.heap.size W0 w4) := belOn HB3.out HB3.out.size hb4
        obtain ⟨a1, a2, a3, a4, a5⟩ := HG.out
        obtain ⟨b1, b2, b3, b4, b5⟩ := HG'.out
        have r1 : Rd w4 (some ⟨g, 0, none⟩) (T.len v.t) (T.enc v.t) := by
          have := (a2.rd (enc_lt v.t)).below hb4
          rw [a3] at this
          exact this
        have r2 : Rd w4 (some ⟨g', 0, none⟩) (T.len u.t) (T.enc u.t) := by
          have := b2.rd (enc_lt u.t)
          rw [b3] at this
          exact this
        clear d0 d1 d2 d3 d4 hz4 hb4
        obtain ⟨⟨c0, c1, c2, c3, c4⟩, ⟨d0, d1, d2, d3, d4⟩, hz4', hbw4⟩ := HBX.out w4 HB4.out
        have heq := equal_any v u w.heap.size w4 hbw4.size (HLV.out _ hbw4).1 (HLV.out _ hbw4).2
        rw [V.val_eq, V.val_eq] at heq
        have HEQ := hide heq
        clear heq
        go_wp2_with fail
        refine Calls.mono HEQ.out ?_
        rintro e5 w5 ⟨rfl, hb5⟩
        have s1 : Rd w5 (some ⟨g, 0, none⟩) (T.len v.t) (T.enc v.t) := r1.below hb5
        have s2 : Rd w5 (some ⟨g', 0, none⟩) (T.len u.t) (T.enc u.t) := r2.below hb5
        have HBF : Hid (Below w.heap.size w w5) := belOn hbw4 hbw4.size hb5
        have hp1 : 0 < T.len v.t := by unfold T.len; omega
        have hp2 : 0 < T.len u.t := by unfold T.len; omega
        obtain ⟨m, hm⟩ : ∃ m, min (T.len v.t) (T.len u.t) = m := ⟨_, rfl⟩
        have hm1 : m ≤ T.len v.t := by omega
        have hm2 : m ≤ T.len u.t := by omega
        have hm0 : 0 < m := by omega
        have hmi : min ((T.len v.t : Nat) : Int) ((T.len u.t : Nat) : Int) = (m : Int) := by omega
        have bv : T.body v.t + 16 < 4294967296 := by have := a5; unfold T.len at this; omega
        have bu : T.body u.t + 16 < 4294967296 := by have := b5; unfold T.len at this; omega
        have y1 := apart_eq badB twiceW v u a4 b4 bv bu
        have y2 := apart_take badB twiceW v u a4 b4 bv bu
        rw [a3, b3, hm] at y2
        have t1 : Rd w5 (some ⟨g, 0, none⟩) m ((T.enc v.t).take m) := rd_take s1 hm1
        have t2 : Rd w5 (some ⟨g', 0, none⟩) m ((T.enc u.t).take m) := rd_take s2 hm2
        have v1 : ∀ n, (convert 28 9 (.slice (some ⟨g, 0, none⟩) (T.len v.t) (T.len v.t))).run Tryd.prog (w5.drewN n) = .ok (.string (mkS (T.enc v.t))) (w5.drewN n) := fun n => conv8 (w := w5.drewN n) s1 hp1 _
        have v2 : ∀ n, (convert 28 9 (.slice (some ⟨g', 0, none⟩) (T.len u.t) (T.len u.t))).run Tryd.prog (w5.drewN n) = .ok (.string (mkS (T.enc u.t))) (w5.drewN n) := fun n => conv8 (w := w5.drewN n) s2 hp2 _
        have v3 : ∀ n, (convert 28 9 (.slice (some ⟨g, 0, none⟩) m (T.len v.t))).run Tryd.prog (w5.drewN n) = .ok (.string (mkS ((T.enc v.t).take m))) (w5.drewN n) := fun n => conv8 (w := w5.drewN n) t1 hm0 _
        have v4 : ∀ n, (convert 28 9 (.slice (some ⟨g', 0, none⟩) m (T.len u.t))).run Tryd.prog (w5.drewN n) = .ok (.string (mkS ((T.enc u.t).take m))) (w5.drewN n) := fun n => conv8 (w := w5.drewN n) t2 hm0 _
        have x1 : ((mkS (T.enc v.t)).toList == (mkS (T.enc u.t)).toList) = eqT v.t u.t := by
          rw [mkS_beq _ _ (enc_lt _) (enc_lt _), Bool.eq_iff_iff, decide_eq_true_eq, y1, eqT_iff]
        have x2 : ((mkS ((T.enc v.t).take m)).toList == (mkS ((T.enc u.t).take m)).toList) = eqT v.t u.t := by
          rw [mkS_beq _ _ (fun c hc => enc_lt v.t c (List.mem_of_mem_take hc)) (fun c hc => enc_lt u.t c (List.mem_of_mem_take hc)), Bool.eq_iff_iff, decide_eq_true_eq, y2, eqT_iff]
        generalize mkS (T.enc v.t) = Sv at v1 x1
        generalize mkS (T.enc u.t) = Su at v2 x1
        generalize mkS ((T.enc v.t).take m) = Tv at v3 x2
        generalize mkS ((T.enc u.t).take m) = Tu at v4 x2
        clear y1 y2 t1 t2 s1 s2 bv bu a1 a2 a3 a4 a5 b1 b2 b3 b4 b5 r1 r2 hb5 hm
        go_wp2
        try rw [hmi]
        generalize eqT v.t u.t = q at x1 x2 ⊢
        generalize T.len v.t = lv at *
        generalize T.len u.t = lu at *
        clear hmi
        cases q
        · have x1' : ¬ Sv.toList = Su.toList := by simpa using x1
          have x2' : ¬ Tv.toList = Tu.toList := by simpa using x2
          go_quiet (fail)
          go_wp2
          go_ret
          exact ⟨rfl, bel_drewN HBF.out _⟩
        · have x1' : Sv.toList = Su.toList := by simpa using x1
          have x2' : Tv.toList = Tu.toList := by simpa using x2
          go_quiet (fail)
          go_wp2
          go_ret
          exact ⟨rfl, bel_drewN HBF.out _⟩
end Go.Proofs.YtdclmgcaeagphabDoor
