/- ValueFinds: its walk. -/
import Derived.Test.YtaedlnliglmomaaDoorVGots
import Derived.Test.YtaedlnliglmomaaDoorVRFind
import Derived.Test.YtaedlnliglmomaaDoorVTurn2
import Derived.Deep.CutBlock
import Derived.Deep.RegionHeldLaw
import Derived.Test.YtaedlnliglmomaaDoorVStep
namespace Go.Proofs.YtaedlnliglmomaaDoor
open Go.RowKit
set_option linter.unusedVariables false
set_option linter.unusedSimpArgs false

theorem news_any (W : World) (L : List Value) (t : TypeId) (q : Nat) (u : Value) (hq : L[q]? = some u) : (W.alloc (Obj.cells L.toArray t)).cell? ((⟨W.heap.size, 0, none⟩ : Addr).add q) = some u := by
  have hh := World.alloc_heap_new W (Obj.cells L.toArray t)
  have e1 : (⟨W.heap.size, 0, none⟩ : Addr).add q = ⟨W.heap.size, q, none⟩ := by by_cases h : q = 0 <;> simp [Addr.add, h]
  rw [e1]
  simp only [World.cell?, hh]
  simpa using hq
theorem eqT_self' (x : T) : eqT x x = true := by
  unfold eqT
  have := neg_ord x x
  simp only [decide_eq_true_eq]
  omega
theorem wt_findL (key : T) : ∀ (n : Nat) (l : List T), l.length ≤ n → ∀ r, findL key l = some r → T.wt r ≤ T.wts l
  | 0, [], _, r, h => by simp [findL] at h
  | n + 1, [], _, r, h => by simp [findL] at h
  | n + 1, [_], _, r, h => by simp [findL] at h
  | n + 1, a :: b :: l, hn, r, h => by
    rw [findL] at h
    simp only [T.wts]
    by_cases e : eqT a key = true
    · rw [if_pos e] at h
      cases h
      omega
    · rw [if_neg e] at h
      have := wt_findL key n l (by simp at hn; omega) r h
      omega
theorem wt_find (m k : V) (hw : T.wt m.t ≤ 100000) : T.wt ((findT m.t k.t).getD zeroT) ≤ 100000 := by
  obtain ⟨k', n, s, a, c, e, l, rfl⟩ := V.ex m
  rw [V.t_of] at hw ⊢
  rw [T.wt_of] at hw
  cases h : findT (T.of k' n s e (V.ts l)) k.t with
  | none =>
    show T.wt zeroT ≤ 100000
    unfold zeroT
    rw [T.wt_of]
    have : (⟨#[]⟩ : ByteArray).size = 0 := rfl
    simp [T.wts, this]
  | some r =>
    show T.wt r ≤ 100000
    unfold findT at h
    split at h
    · have h2 : V.l (T.of k' n s e (V.ts l)) = V.ts l := by
        show V.l (V.of k' n s none 0 e (V.ts l)) = _
        rw [V.l_of]
      rw [h2] at h
      have := wt_findL k.t _ (V.ts l) (Nat.le_refl _) r h
      omega
    · cases h
theorem put5_at0 (w : World) (b : Nat) (y : V) :
    (((((w.setCell ⟨b, 0, none⟩ (.int .i64 y.k)).setCell ⟨b, 1, none⟩ (.int .u64 y.n)).setCell ⟨b, 2, none⟩ (.string y.s)).setCell ⟨b, 3, none⟩ (.slice y.a y.l.length y.c)).setCell ⟨b, 4, none⟩ (.int .i64 y.e)) = put5 w b 0 y := rfl
theorem put5_box {w : World} {b : Nat} {z0 z : V} (h : BoxV w b z0) : BoxV (put5 w b 0 z) b z := by
  unfold BoxV at h ⊢
  rw [← put5_eq]
  simp [World.setCell, Array.getElem?_modify, h]
/-- the keys that are asked for -/
structure Keys (B i : Nat) (m y : V) (ks : List V) (kv : Value) (wr : World) : Prop where
  size : B ≤ wr.heap.size
  row : wr.ownsRow B 25 5 kv ks.length (flat ks)
  two : 2 ≤ ks.length
  len : ks.length ≤ 2 + 3 * i
  each : ∀ x ∈ ks, x = y ∨ x ∈ m.l
theorem Keys.below {B i : Nat} {m y : V} {ks : List V} {kv : Value} {wr w' : World} (h : Keys B i m y ks kv wr) (hb : Below wr.heap.size wr w') : Keys B i m y ks kv w' :=
  ⟨Nat.le_trans h.size hb.size, ownsRow_keep h.row (fun g hg => hb.block g (ownsRow_lt h.row hg).2), h.two, h.len, h.each⟩
theorem Keys.rows {B i : Nat} {m y : V} {ks : List V} {kv : Value} {wr : World} (h : Keys B i m y ks kv wr) : ∃ g C, kv = .slice (some ⟨g, 0, none⟩) ks.length C ∧ ks.length ≤ C ∧ B ≤ g ∧ g < wr.heap.size ∧ Row wr g 0 ks := by
  have hr := h.row
  rcases hr.2 with ⟨_, h0⟩ | ⟨g, cap, cur, rfl, h1, h2, h3, _⟩
  · have := h.two
    omega
  · exact ⟨g, cap, rfl, h3, h1, (Array.getElem?_eq_some_iff.1 h2).1, flat_row hr⟩

set_option maxRecDepth 100000 in
set_option maxHeartbeats 20000000 in
theorem finds_walk (m y : V) (w : World) (hm : Lies w.heap.size w m) (hy : Lies w.heap.size w y) :
    Calls Tryd.prog 4 #[m.val, y.val] w fun e w' => e = .returned (.bool true) ∧ Below w.heap.size w w' := by
  have HM := hide hm
  have HY := hide hy
  clear hm hy
  rw [V.val_eq, V.val_eq]
  obtain ⟨i0, hi0, hzz⟩ := Option.map_eq_some_iff.1 Tryd.infoV
  simp only [Prod.mk.injEq] at hzz
  obtain ⟨hz0, hz1, hz2⟩ := hzz
  go_enter Tryd.func4, Tryd.ntmps4
  go_wp2_with fail
  obtain ⟨W0, hW0⟩ : ∃ W0, (w.alloc (Obj.cells #[.int .i64 m.k, .int .u64 m.n, .string m.s, .slice m.a m.l.length m.c, .int .i64 m.e] 25)).alloc (Obj.cells #[.int .i64 y.k, .int .u64 y.n, .string y.s, .slice y.a y.l.length y.c, .int .i64 y.e] 25) = W0 := ⟨_, rfl⟩
  have hs0 : W0.heap.size = w.heap.size + 2 := by rw [← hW0]; simp
  have hb0 : Below w.heap.size w W0 := by rw [← hW0]; exact bel2 (Below.refl _ _) (Nat.le_refl _) _ _
  have xm : BoxV W0 w.heap.size m := by rw [← hW0]; exact heap_past (World.alloc_heap_new _ _) _
  have xy : BoxV W0 (w.heap.size + 1) y := by rw [← hW0]; exact heap_at1 _ _ _
  rw [hW0]
  clear hW0
  refine (awake_any W0).mono ?_
  rintro e w1 ⟨rfl, hb1⟩
  have hs1 := hb1.size
  obtain ⟨a0, a1, a2, a3, a4⟩ := (xm.below hb1 (by omega)).cells
  obtain ⟨b0, b1, b2, b3, b4⟩ := (xy.below hb1 (by omega)).cells
  go_wp2_with fail
  have hbA := bel1 (Below.refl w1.heap.size w1) (Nat.le_refl _) (Obj.cells #[.int .i64 m.k, .int .u64 m.n, .string m.s, .slice m.a m.l.length m.c, .int .i64 m.e, .int .i64 y.k, .int .u64 y.n, .string y.s, .slice y.a y.l.length y.c, .int .i64 y.e] 25)
  have hbw1 : Below w.heap.size w w1 := belOn hb0 (by omega) hb1
  have hbwA : Below w.heap.size w _ := belOn hbw1 (by omega) hbA
  refine (greatall_any w1.heap.size 0 2 w.heap.size [m, y] _ (by simp; omega) (row2 (World.alloc_heap_new _ _)) (by simp) (fun x hx => ?_) (by simp) (by omega)).mono ?_
  · simp only [List.mem_cons, List.not_mem_nil, or_false] at hx
    rcases hx with rfl | rfl
    · exact HM.out.keep hbwA (Nat.le_refl _)
    · exact HY.out.keep hbwA (Nat.le_refl _)
  rintro e w2 (⟨rfl, hb2⟩ | ⟨rfl, hwt, hb2⟩)
  · go_wp2
    go_ret
    exact ⟨rfl, belOn hbwA (by simp; omega) hb2⟩
  have hwm : T.wt m.t ≤ 100000 := by simp only [V.ts, T.wts] at hwt; omega
  have hwy : T.wt y.t ≤ 100000 := by simp only [V.ts, T.wts] at hwt; omega
  have hbW2 : Below W0.heap.size W0 w2 := (hb1.trans (hbA.mono hs1)).trans (hb2.mono (by simp; omega))
  have hbw2 : Below w.heap.size w w2 := belOn hbwA (by simp; omega) hb2
  have hs2 := hbW2.size
  clear hb2 hbA hbwA a0 a1 a2 a3 a4 b0 b1 b2 b3 b4 hwt hb1 hbw1
  have hmll : m.l.length ≤ 2199023255552 ∧ m.l.length ≤ m.c := by
    obtain ⟨k, n, s, a, c, e, l, rfl⟩ := V.ex m
    have := HM.out.ok
    rw [V.l_of, V.c_of]
    exact ⟨this.c, this.l⟩
  obtain ⟨hml, hmc⟩ := hmll
  obtain ⟨b0, b1, b2, b3, b4⟩ := (xy.below hbW2 (by omega)).cells
  go_upto_block 0 with fail
  clear b0 b1 b2 b3 b4
  have HMR : Hid ((0 < m.l.length → ∃ b o, m.a = some ⟨b, o, none⟩ ∧ b < w.heap.size ∧ Row w b o m.l) ∧ ∀ x ∈ m.l, Lies w.heap.size w x) := by
    obtain ⟨k, n, s, a, c, e, l, rfl⟩ := V.ex m
    rw [V.l_of, V.a_of]
    exact ⟨HM.out.row, HM.out.sub⟩
  obtain ⟨W2, hW2⟩ : ∃ W2, w2.alloc (Obj.cells #[.int .i64 y.k, .int .u64 y.n, .string y.s, .slice y.a y.l.length y.c, .int .i64 y.e, .int .i64 y.k, .int .u64 y.n, .string y.s, .slice y.a y.l.length y.c, .int .i64 y.e] 25) = W2 := ⟨_, rfl⟩
  have hs22 : W2.heap.size = w2.heap.size + 1 := by rw [← hW2]; simp
  have hb22 : Below w2.heap.size w2 W2 := by rw [← hW2]; exact bel1 (Below.refl _ _) (Nat.le_refl _) _
  have HK0 : Hid (Keys w2.heap.size 0 m y [y, y] (.slice (some ⟨w2.heap.size, 0, none⟩) 2 2) W2) := by
    have hh : W2.heap[w2.heap.size]? = some (Obj.cells #[.int .i64 y.k, .int .u64 y.n, .string y.s, .slice y.a y.l.length y.c, .int .i64 y.e, .int .i64 y.k, .int .u64 y.n, .string y.s, .slice y.a y.l.length y.c, .int .i64 y.e] 25) := by rw [← hW2]; exact World.alloc_heap_new _ _
    refine ⟨by omega, ?_, by simp, by simp, fun x hx => ?_⟩
    · exact own_of_row (l := [y, y]) ⟨_, hh, rfl⟩ (row2 hh) (by simp [maxLen]) (Nat.le_refl _)
    · simp only [List.mem_cons, List.not_mem_nil, or_false, or_self] at hx
      exact .inl hx
  rw [hW2]
  clear hW2
  have hbW22 : Below W0.heap.size W0 W2 := belOn hbW2 hs2 hb22
  go_cut [7, 8] from 37 to 61 (fun v u wx => ∃ (ks : List V) (i : Nat), i ≤ 41 ∧ Keys w2.heap.size i m y ks v wx ∧ Below w2.heap.size w2 wx)
  case first =>
    go_wp2_with fail
    go_loopw [7, 8] (fun kv u wr => ∃ (ks : List V) (kv' : Value) (i : Nat), kv' = kv ∧ u = .int .i64 i ∧ i ≤ 41 ∧ Hid (Keys w2.heap.size i m y ks kv' wr) ∧ Below w2.heap.size w2 wr) (fun _ u _ => 42 - (intOf u).toNat)
    case atStart => exact ⟨[y, y], _, 0, rfl, rfl, by omega, HK0, hb22⟩
    case round =>
      obtain ⟨ks, kv, i, rfl, rfl, hi, HK, hb⟩ := hrel
      have hsz := hb.size
      have hbW : Below W0.heap.size W0 wr := belOn hbW2 hs2 hb
      have hbw : Below w.heap.size w wr := belOn hbw2 (by omega) hb
      obtain ⟨m0, m1, m2, m3, m4⟩ := (xm.below hbW (by omega)).cells
      clear m0 m1 m2 m4
      by_cases hgo : i < m.l.length ∧ i < 40
      · obtain ⟨hil, hi40⟩ := hgo
        · obtain ⟨bm, om, hma, hmb, hmr⟩ := HMR.out.1 (by omega)
          rw [hma] at m3
          have HMA := hide hma
          clear hma
          obtain ⟨x0, x1, x2, x3, x4⟩ := (hmr.below hbw (by omega)) i hil
          obtain ⟨b0, b1, b2, b3, b4⟩ := (xy.below hbW (by omega)).cells
          have hmlt : bm < wr.heap.size := by omega
          have hbA : Below wr.heap.size wr (wr.drew.alloc _) := bel1 (Below.refl wr.heap.size wr).drew (Nat.le_refl _) (Obj.cells #[.int .i64 m.l[i].k, .int .u64 m.l[i].n, .string m.l[i].s, .slice m.l[i].a m.l[i].l.length m.l[i].c, .int .i64 m.l[i].e, .int .i64 y.k, .int .u64 y.n, .string y.s, .slice y.a y.l.length y.c, .int .i64 y.e, .int .i64 m.l[i].k, .int .u64 m.l[i].n, .string m.l[i].s, .slice m.l[i].a m.l[i].l.length m.l[i].c, .int .i64 m.l[i].e] 25)
          have HK1 := hide (HK.out.below hbA)
          have HB1 := hide (belOn hb (by omega) hbA)
          have HNEWS : Hid (∀ q u, (words m.l[i] ++ words y ++ words m.l[i])[q]? = some u → (wr.drew.alloc (Obj.cells #[.int .i64 m.l[i].k, .int .u64 m.l[i].n, .string m.l[i].s, .slice m.l[i].a m.l[i].l.length m.l[i].c, .int .i64 m.l[i].e, .int .i64 y.k, .int .u64 y.n, .string y.s, .slice y.a y.l.length y.c, .int .i64 y.e, .int .i64 m.l[i].k, .int .u64 m.l[i].n, .string m.l[i].s, .slice m.l[i].a m.l[i].l.length m.l[i].c, .int .i64 m.l[i].e] 25)).cell? ((⟨wr.heap.size, 0, none⟩ : Addr).add q) = some u) := fun q u hq => news_any wr.drew _ _ q u hq
          have HONE : Hid (∀ u ∈ words m.l[i] ++ words y ++ words m.l[i], u.oneCell' = true) := fun u hu => by
            rcases List.mem_append.1 hu with hu | hu
            · rcases List.mem_append.1 hu with hu | hu
              · exact V.words_one _ u hu
              · exact V.words_one _ u hu
            · exact V.words_one _ u hu
          have hkl := HK.out.len
          have HM1 : Hid (ks.length + 3 ≤ maxLen) := (by show ks.length + 3 ≤ maxLen; unfold maxLen; omega)
          have HM2 : Hid ((ks.length + 3) * 64 ≤ 140737488355328) := (by show (ks.length + 3) * 64 ≤ 140737488355328; omega)
          have HPUSH : Hid (∀ v' w3, w3.ownsRow w2.heap.size 25 5 v' (ks.length + 3) (flat ks ++ (words m.l[i] ++ words y ++ words m.l[i])) → (wr.drew.alloc (Obj.cells #[.int .i64 m.l[i].k, .int .u64 m.l[i].n, .string m.l[i].s, .slice m.l[i].a m.l[i].l.length m.l[i].c, .int .i64 m.l[i].e, .int .i64 y.k, .int .u64 y.n, .string y.s, .slice y.a y.l.length y.c, .int .i64 y.e, .int .i64 m.l[i].k, .int .u64 m.l[i].n, .string m.l[i].s, .slice m.l[i].a m.l[i].l.length m.l[i].c, .int .i64 m.l[i].e] 25)).grownBy w3 kv.ownBlock → Keys w2.heap.size (i + 2) m y (ks ++ [m.l[i], y, m.l[i]]) v' w3 ∧ Below w2.heap.size w2 w3) := fun v' w3 hown' hgrow => by
            have hgs := hgrow.size
            refine ⟨⟨Nat.le_trans HK1.out.size hgs, ?_, by have := HK.out.two; simp only [List.length_append, List.length_cons, List.length_nil]; omega, by simp only [List.length_append, List.length_cons, List.length_nil]; omega, fun x hx => ?_⟩, HB1.out.grown hgrow HK1.out.size (fun k hk => (ownsRow_lt HK1.out.row hk).1)⟩
            · have e : flat (ks ++ [m.l[i], y, m.l[i]]) = flat ks ++ (words m.l[i] ++ words y ++ words m.l[i]) := by rw [flat_append]; simp [flat]
              rw [e, List.length_append]
              exact hown'
            · rcases List.mem_append.1 hx with hx | hx
              · exact HK.out.each x hx
              · simp only [List.mem_cons, List.not_mem_nil, or_false] at hx
                rcases hx with rfl | rfl | rfl
                · exact .inr (List.getElem_mem hil)
                · exact .inl rfl
                · exact .inr (List.getElem_mem hil)
          have HMRR := hide hmr
          clear hbA hmr
          have HBD : Hid (Below w2.heap.size w2 wr.drew) := hb.drew
          have HSK : Hid (∀ w4, Below w2.heap.size w2 w4 → (fun w' => w'.cell? ⟨w.heap.size, 3, none⟩ = some (.slice (some ⟨bm, om, none⟩) m.l.length m.c) ∧ w'.cell? ⟨bm, om + i * 5, none⟩ = some (.int .i64 m.l[i].k) ∧ w'.cell? ⟨bm, om + i * 5 + 1, none⟩ = some (.int .u64 m.l[i].n) ∧ w'.cell? ⟨bm, om + i * 5 + 2, none⟩ = some (.string m.l[i].s) ∧ w'.cell? ⟨bm, om + i * 5 + 3, none⟩ = some (.slice m.l[i].a m.l[i].l.length m.l[i].c) ∧ w'.cell? ⟨bm, om + i * 5 + 4, none⟩ = some (.int .i64 m.l[i].e) ∧ w'.cell? ⟨w.heap.size + 1, 0, none⟩ = some (.int .i64 y.k) ∧ w'.cell? ⟨w.heap.size + 1, 1, none⟩ = some (.int .u64 y.n) ∧ w'.cell? ⟨w.heap.size + 1, 2, none⟩ = some (.string y.s) ∧ w'.cell? ⟨w.heap.size + 1, 3, none⟩ = some (.slice y.a y.l.length y.c) ∧ w'.cell? ⟨w.heap.size + 1, 4, none⟩ = some (.int .i64 y.e)) w4) := fun w4 h4 => by
            have hbW4 : Below W0.heap.size W0 w4 := belOn hbW2 hs2 h4
            have hbw4 : Below w.heap.size w w4 := belOn hbw2 (by omega) h4
            obtain ⟨_, _, _, n3, _⟩ := (xm.below hbW4 (by omega)).cells
            rw [HMA.out] at n3
            obtain ⟨p0, p1, p2, p3, p4⟩ := (HMRR.out.below hbw4 (by omega)) i hil
            obtain ⟨q0, q1, q2, q3, q4⟩ := (xy.below hbW4 (by omega)).cells
            exact ⟨n3, p0, p1, p2, p3, p4, q0, q1, q2, q3, q4⟩
          have hmx : Tryd.prog.follows .mixedOrders = true := by kernel_rfl
          go_wp2
          go_region_held_law (fun w' => w'.cell? ⟨w.heap.size, 3, none⟩ = some (.slice (some ⟨bm, om, none⟩) m.l.length m.c) ∧ w'.cell? ⟨bm, om + i * 5, none⟩ = some (.int .i64 m.l[i].k) ∧ w'.cell? ⟨bm, om + i * 5 + 1, none⟩ = some (.int .u64 m.l[i].n) ∧ w'.cell? ⟨bm, om + i * 5 + 2, none⟩ = some (.string m.l[i].s) ∧ w'.cell? ⟨bm, om + i * 5 + 3, none⟩ = some (.slice m.l[i].a m.l[i].l.length m.l[i].c) ∧ w'.cell? ⟨bm, om + i * 5 + 4, none⟩ = some (.int .i64 m.l[i].e) ∧ w'.cell? ⟨w.heap.size + 1, 0, none⟩ = some (.int .i64 y.k) ∧ w'.cell? ⟨w.heap.size + 1, 1, none⟩ = some (.int .u64 y.n) ∧ w'.cell? ⟨w.heap.size + 1, 2, none⟩ = some (.string y.s) ∧ w'.cell? ⟨w.heap.size + 1, 3, none⟩ = some (.slice y.a y.l.length y.c) ∧ w'.cell? ⟨w.heap.size + 1, 4, none⟩ = some (.int .i64 y.e)) (first | exact HSK.out _ HBD.out | exact HSK.out _ HB1.out | exact HSK.out _ HQ.2) ((refine step_append_at rfl (.tmp 48) (.tmp 60) 23 rfl w2.heap.size 25 i0 _ 5 64 Tryd.underlying23 hi0 hz0 hz1 hz2 rfl (by decide) _ ks.length (flat ks) (by first | rfl | simp [Act.eval, Act.put]) HK1.out.row ⟨wr.heap.size, 0, none⟩ 3 3 (words m.l[i] ++ words y ++ words m.l[i]) (by first | rfl | simp [Act.eval, Act.put]) rfl HNEWS.out HONE.out HM1.out HM2.out HK1.out.size ?_; intro v' w3 hown' hgrow hat; have HQ : Keys w2.heap.size (i + 2) m y (ks ++ [m.l[i], y, m.l[i]]) v' w3 ∧ Below w2.heap.size w2 w3 := HPUSH.out v' w3 hown' hgrow; clear hown' hgrow hat))
          all_goals
            go_wp2
            go_roundw
            case rel => exact ⟨_, v', i + 2, rfl, by go_num, by omega, HQ.1, HQ.2⟩
            case measure => simp [intOf]; omega
      · rcases (show i < m.l.length ∧ ¬ i < 40 ∨ ¬ i < m.l.length by omega) with ⟨hil, hi40⟩ | hil
        all_goals
          go_wp2_with fail
          go_meet
          exact ⟨ks, i, hi, HK.out, hb⟩
  case rest =>
    obtain ⟨ks, i, hi, hK, hb⟩ := hcut
    obtain ⟨w3, rfl⟩ : ∃ w3, w3 = wc := ⟨_, rfl⟩
    have HK := hide hK
    clear hK
    have hsz3 := hb.size
    have hbW : Below W0.heap.size W0 w3 := belOn hbW2 hs2 hb
    have hbw : Below w.heap.size w w3 := belOn hbw2 (by omega) hb
    obtain ⟨a0, a1, a2, a3, a4⟩ := (xm.below hbW (by omega)).cells
    go_wp2_with fail
    clear a0 a1 a2 a3 a4
    have q := lent_any m hwm w.heap.size w3 (by omega) (HM.out.keep hbw (Nat.le_refl _))
    rw [V.val_eq] at q
    refine q.mono ?_
    clear q
    rintro e4 w4 ⟨x, rfl, HX, hb4⟩
    have hs4 := hb4.size
    have HK4 := hide (HK.out.below hb4)
    go_wp2_with fail
    obtain ⟨W4, hW4⟩ : ∃ W4, (w4.alloc (Obj.cells #[.int .i64 x.k, .int .u64 x.n, .string x.s, .slice x.a x.l.length x.c, .int .i64 x.e] 25)).alloc (Obj.cells #[.slice none 0 0] 37) = W4 := ⟨_, rfl⟩
    have hs44 : W4.heap.size = w4.heap.size + 2 := by rw [← hW4]; simp
    have hb44 : Below w4.heap.size w4 W4 := by rw [← hW4]; exact bel2 (Below.refl _ _) (Nat.le_refl _) _ _
    have xx : BoxV W4 w4.heap.size x := by rw [← hW4]; exact heap_past (BoxV.new w4 x) _
    have hbk : W4.heap[w4.heap.size + 1]? = some (.cells #[.slice none 0 0] 37 (0, 0)) := by rw [← hW4]; exact heap_at1 _ _ _
    rw [hW4]
    clear hW4
    have HBK := hide hbk
    clear hbk
    obtain ⟨hxt, hxl⟩ := HX.out
    have HXL := hide (hxl.keep (w := W4) (fun b o q1 q2 q3 => (hb44.block b q2).trans q3))
    have HXT := hide hxt
    have hb34 : Below w3.heap.size w3 W4 := belOn hb4 hs4 hb44
    have hbW4 : Below W0.heap.size W0 W4 := belOn hbW (by omega) hb34
    have hbw4 : Below w.heap.size w W4 := belOn hbw (by omega) hb34
    obtain ⟨gk, Ck, rfl, hkC, hgk1, hgk2, hkr⟩ := HK.out.rows
    have HKR := hide (hkr.below hb34 hgk2)
    have hklen := HK.out.len
    have hkl2 := HK.out.two
    have hk125 : ks.length ≤ 125 := by omega
    have HKE : Hid (∀ j (h : j < ks.length), Lies w.heap.size w ks[j] ∧ T.wt ks[j].t ≤ 100000) := fun j h => by
      rcases HK.out.each _ (List.getElem_mem h) with e | e
      · rw [e]; exact ⟨HY.out, hwy⟩
      · refine ⟨HMR.out.2 _ e, ?_⟩
        have := wt_memT e
        have h2 : T.wt m.t = 1 + m.s.size / 64 + T.wts (V.ts m.l) := by
          obtain ⟨k, n, s, a, c, e, l, rfl⟩ := V.ex m
          rw [V.t_of, T.wt_of, V.s_of, V.l_of]
        omega
    clear hxl HX hxt HK HK4 hb4 hb44 hkr hb
    go_loopw [11, 12] (fun gv u wr => ∃ (fs : List V) (gv' : Value) (i : Nat), gv' = gv ∧ u = .int .i64 i ∧ i ≤ ks.length ∧ Hid (Gots W4.heap.size fs gv' wr ∧ V.ts fs = (ks.take i).map fun k => (findT m.t k.t).getD zeroT) ∧ Below W4.heap.size W4 wr) (fun _ u _ => ks.length - (intOf u).toNat)
    case atStart => exact ⟨[], _, 0, rfl, rfl, Nat.zero_le _, ⟨Gots.start (Nat.le_refl _), by simp [V.ts]⟩, Below.refl _ _⟩
    case round =>
      obtain ⟨fs, gv, i, rfl, rfl, hi, HG, hb⟩ := hrel
      have hsz := hb.size
      have hbwr : Below w.heap.size w wr := belOn hbw4 (by omega) hb
      by_cases hil : i < ks.length
      · obtain ⟨k0, k1, k2, k3, k4⟩ := (HKR.out.below hb (by omega)) i hil
        rw [Nat.zero_add] at k0 k1 k2 k3 k4
        have hgl : gk < wr.heap.size := by omega
        obtain ⟨hkl, hkw⟩ := HKE.out i hil
        have q := lent_any ks[i] hkw w.heap.size wr (by omega) (hkl.keep hbwr (Nat.le_refl _))
        rw [V.val_eq] at q
        have HQ := hide q
        have HKL := hide hkl
        clear q hkl
        go_wp2_with fail
        refine HQ.out.mono ?_
        clear HQ k0 k1 k2 k3 k4
        rintro e5 w5 ⟨kk, rfl, HKK, hb5⟩
        have hs5 := hb5.size
        obtain ⟨x0, x1, x2, x3, x4⟩ := ((xx.below hb (by omega)).below hb5 (by omega)).cells
        have hxlt : w4.heap.size < w5.heap.size := by omega
        go_wp2_with fail
        clear x0 x1 x2 x3 x4
        obtain ⟨W5, hW5⟩ : ∃ W5, w5.alloc (Obj.cells #[.int .i64 kk.k, .int .u64 kk.n, .string kk.s, .slice kk.a kk.l.length kk.c, .int .i64 kk.e] 25) = W5 := ⟨_, rfl⟩
        have hb55 : Below w5.heap.size w5 W5 := by rw [← hW5]; exact bel1 (Below.refl _ _) (Nat.le_refl _) _
        have xk : BoxV W5 w5.heap.size kk := by rw [← hW5]; exact BoxV.new w5 kk
        have hs55 : W5.heap.size = w5.heap.size + 1 := by rw [← hW5]; simp
        rw [hW5]
        clear hW5
        obtain ⟨hkt, hkkl⟩ := HKK.out
        have HKKL := hide (hkkl.keep (w := W5) (fun b o q1 q2 q3 => (hb55.block b q2).trans q3))
        have HKT := hide hkt
        clear hkkl HKK hkt
        have hbr5 : Below wr.heap.size wr W5 := belOn hb5 hs5 hb55
        have hb45 : Below W4.heap.size W4 W5 := belOn hb hsz hbr5
        have q := find_any x kk w5.heap.size W5 (by omega) (LiesIn.keep HXL.out.lies (fun b hq o => hb45.cell (p := ⟨b, o, none⟩) (by show b < W4.heap.size; have := hq.2; omega)) (fun b hq => by show b < w5.heap.size; have := hq.2; omega)) (HKKL.out.lies.keep (fun _ _ _ => rfl) (fun b h => h.2))
        rw [V.val_eq, V.val_eq] at q
        refine q.mono ?_
        clear q
        rintro e6 w6 ⟨f, isb, rfl, HF, hb6⟩
        have hs6 := hb6.size
        go_wp2_with fail
        obtain ⟨W6, hW6⟩ : ∃ W6, w6.alloc (Obj.cells #[.int .i64 f.k, .int .u64 f.n, .string f.s, .slice f.a f.l.length f.c, .int .i64 f.e] 25) = W6 := ⟨_, rfl⟩
        have hb66 : Below w6.heap.size w6 W6 := by rw [← hW6]; exact bel1 (Below.refl _ _) (Nat.le_refl _) _
        have xf : BoxV W6 w6.heap.size f := by rw [← hW6]; exact BoxV.new w6 f
        have hs66 : W6.heap.size = w6.heap.size + 1 := by rw [← hW6]; simp
        rw [hW6]
        clear hW6
        have hb56 : Below W5.heap.size W5 W6 := belOn hb6 hs6 hb66
        have hbr6 : Below wr.heap.size wr W6 := belOn hbr5 (by omega) hb56
        have hbw6 : Below w.heap.size w W6 := belOn hbwr (by omega) hbr6
        obtain ⟨n0, n1, n2, n3, n4⟩ := (xk.below hb56 (by omega)).cells
        obtain ⟨k0, k1, k2, k3, k4⟩ := ((HKR.out.below hb (by omega)).below hbr6 (by omega)) i hil
        rw [Nat.zero_add] at k0 k1 k2 k3 k4
        have hgl6 : gk < W6.heap.size := by omega
        go_cut [16] from 83 to 88 (fun v wx => v = .bool true ∧ Turns wr.heap.size w5.heap.size W6 wx)
        case first =>
          have q := asLent_any kk ks[i] wr.heap.size w5.heap.size (fun b => b < w.heap.size) W6.drew (HKKL.out.keep (fun b o q1 q2 q3 => (hb56.block b (by omega)).trans q3)) (by show w5.heap.size ≤ W6.heap.size; omega) (HKL.out.keep hbw6.drew (Nat.le_refl _)) (fun b hb => ⟨by show b < W6.heap.size; omega, by omega⟩) HKT.out
          rw [V.val_eq, V.val_eq] at q
          have HQ := hide q
          have hmx : Tryd.prog.follows .mixedOrders = true := by kernel_rfl
          clear q
          go_region_with (go_at_call 15; refine HQ.out.mono ?_; rintro e7 w7 ⟨rfl, ht7⟩)
          all_goals
            go_wp2_with fail
            go_meet
            exact ⟨rfl, ⟨ht7.os, ht7.tape, ht7.output, ht7.size, ht7.block⟩⟩
        case rest =>
          obtain ⟨rfl, ht7⟩ := hcut
          have hs7 := ht7.size
          clear n0 n1 n2 n3 n4 k0 k1 k2 k3 k4
          have hbr7 : Below wr.heap.size wr wc := hbr6.trans (ht7.below (by omega) (by omega))
          have hbw7 : Below w.heap.size w wc := belOn hbwr (by omega) hbr7
          have hb47 : Below W4.heap.size W4 wc := belOn hb hsz hbr7
          have hbW7 : Below W0.heap.size W0 wc := belOn hbW4 (by omega) hb47
          have HK67 : Hid (∀ b, w5.heap.size ≤ b → b < W6.heap.size → wc.heap[b]? = W6.heap[b]?) := fun b q1 q2 => ht7.block b q2 (by omega)
          have xf7 : BoxV wc w6.heap.size f := (HK67.out _ (by omega) (by omega)).trans xf
          obtain ⟨hft, hfl, hfo⟩ := HF.out
          have HFL : Hid (LiesIn (fun b => W5.heap.size ≤ b ∧ b < w6.heap.size) wc f) := hfl.keep (fun b hq o => World.cell?_of_block ((HK67.out b (by have := hq.1; omega) (by have := hq.2; omega)).trans (hb66.block b hq.2))) (fun _ h => h)
          have HFO : Hid (Owns wc W5.heap.size w6.heap.size f.slots) := hfo.keep (fun b q1 q2 => (HK67.out b (by omega) (by omega)).trans (hb66.block b q2)) (Nat.le_refl _) (Nat.le_refl _)
          have HFT : Hid (isb = (findT m.t ks[i].t).isSome ∧ f.t = (findT m.t ks[i].t).getD zeroT) := by
            rw [HXT.out, HKT.out] at hft
            exact hft
          clear hft hfl hfo HF ht7 hb66 hb56 hbr5 hb45 hb55 hb5 hb6 hbr6 hbw6 xk xf HKKL HKT HK67
          obtain ⟨n0, n1, n2, n3, n4⟩ := (xm.below hbW7 (by omega)).cells
          obtain ⟨k0, k1, k2, k3, k4⟩ := ((HKR.out.below hb (by omega)).below hbr7 (by omega)) i hil
          rw [Nat.zero_add] at k0 k1 k2 k3 k4
          have hgl7 : gk < wc.heap.size := by omega
          have hm7 : w.heap.size < wc.heap.size := by omega
          go_wp2_with fail
          obtain ⟨w7, rfl⟩ : ∃ w7, w7 = wc := ⟨_, rfl⟩
          go_cut [17, 18] from 89 to 97 (fun v u wx => ∃ (z : V) (B : Nat), v = .pointer (some ⟨B, 0, none⟩) ∧ u = .bool (findT m.t ks[i].t).isSome ∧ w7.heap.size ≤ B ∧ BoxV wx B z ∧ z.t = (findT m.t ks[i].t).getD zeroT ∧ LiesIn (fun b => b < wx.heap.size) wx z ∧ Below w7.heap.size w7 wx)
          case first =>
            have HRF : Hid (∀ W, Below w7.heap.size w7 W → Calls Tryd.prog 19 #[.agg #[.int .i64 m.k, .int .u64 m.n, .string m.s, .slice m.a m.l.length m.c, .int .i64 m.e], .agg #[.int .i64 ks[i].k, .int .u64 ks[i].n, .string ks[i].s, .slice ks[i].a ks[i].l.length ks[i].c, .int .i64 ks[i].e]] W fun e w' => ∃ (z : V), e = .returned (.tuple #[.agg #[.int .i64 z.k, .int .u64 z.n, .string z.s, .slice z.a z.l.length z.c, .int .i64 z.e], .bool (findT m.t ks[i].t).isSome]) ∧ Hid (z.t = (findT m.t ks[i].t).getD zeroT ∧ LiesIn (fun b => W.heap.size ≤ b ∧ b < w'.heap.size) w' z) ∧ Below W.heap.size W w' ∧ Below w7.heap.size w7 w') := by
              intro W hW
              have hWs := hW.size
              have hbwW : Below w.heap.size w W := belOn hbw7 (by omega) hW
              have q := rfind_any m ks[i] hwm w.heap.size W (by omega) (HM.out.keep hbwW (Nat.le_refl _)) (HKL.out.keep hbwW (Nat.le_refl _))
              rw [V.val_eq, V.val_eq] at q
              refine q.mono ?_
              rintro e w' ⟨z, b, rfl, HZ, hbz⟩
              obtain ⟨⟨rfl, h2⟩, h3⟩ := HZ.out
              exact ⟨z, rfl, ⟨h2, h3⟩, hbz, belOn hW hWs hbz⟩
            have hd : Below w7.heap.size w7 w7.drew := (Below.refl _ _).drew
            have hda : Below w7.heap.size w7 (w7.drew.alloc (Obj.cells #[.int .i64 0, .int .u64 0, .string ⟨#[]⟩, .slice none 0 0, .int .i64 0] 25)) := bel1 hd (Nat.le_refl _) _
            have hmx : Tryd.prog.follows .mixedOrders = true := by kernel_rfl
            clear HG HKR HKL HKE xm xy xx HXL HBK HMR HM HY hb34 hbW4 hbw4 hbwr hbW7 hb47 hbr7 hbw7 xf7 HFL HFO HFT hb hb0 hbW2 hbw2
            go_region_with (go_at_call 19; (first | refine Calls.mono (HRF.out _ hd) ?_ | refine Calls.mono (HRF.out _ hda) ?_); rintro e8 w8 ⟨z, rfl, HZ, hb8, hbc8⟩; have hle8 := hbc8.size; (try (have hbx : BoxV w8 w7.heap.size (.of 0 0 ⟨#[]⟩ none 0 0 []) := (hb8.block w7.heap.size (by simp)).trans (World.alloc_heap_new w7.drew _); obtain ⟨c0, c1, c2, c3, c4⟩ := hbx.cells; have f0 := hbx.own5.free)))
            all_goals
              go_wp2_with fail
              go_meet
              first
                | (have hh := hbx; rw [put5_at0]; exact ⟨z, w7.heap.size, rfl, rfl, Nat.le_refl _, put5_box hbx, HZ.out.1, HZ.out.2.keep (fun b hq o => put5_same w8 w7.heap.size 0 b z (by have := hq.1; simp at this; omega) o) (fun b hq => by rw [put5_size]; exact hq.2), put5_below hbc8 (Nat.le_refl _)⟩)
                | exact ⟨z, w8.heap.size, rfl, rfl, hle8, BoxV.new w8 z, HZ.out.1, HZ.out.2.keep (fun b hq o => World.cell?_alloc_past _ _ _ hq.2) (fun b hq => by simp; have := hq.2; omega), bel1 hbc8 hle8 _⟩
          case rest =>
            obtain ⟨z, B, rfl, rfl, hB, xz, hzt, hzl, hb8⟩ := hcut
            obtain ⟨w8, rfl⟩ : ∃ w8, w8 = wc := ⟨_, rfl⟩
            have hs8 := hb8.size
            clear n0 n1 n2 n3 n4 k0 k1 k2 k3 k4
            obtain ⟨hfb, hft⟩ := HFT.out
            subst hfb
            obtain ⟨r, hr⟩ : ∃ r, (findT m.t ks[i].t).isSome = r := ⟨_, rfl⟩
            rw [hr]
            clear hr
            obtain ⟨a0, a1, a2, a3, a4⟩ := (xf7.below hb8 (by omega)).cells
            obtain ⟨z0, z1, z2, z3, z4⟩ := xz.cells
            have q := requal_any f z w8.heap.size w8 (Nat.le_refl _) (LiesIn.keep HFL.out (fun b hq o => hb8.cell (p := ⟨b, o, none⟩) (by show b < w7.heap.size; have := hq.2; omega)) (fun b hq => by show b < w8.heap.size; have := hq.2; omega)) hzl
            rw [V.val_eq, V.val_eq, hft, hzt, eqT_self'] at q
            have HQ := hide q
            clear q
            go_wp2_with fail
            refine HQ.out.mono ?_
            clear HQ a0 a1 a2 a3 a4 z0 z1 z2 z3 z4
            rintro e9 w9 ⟨rfl, hb9⟩
            have hs9 := hb9.size
            have hb79 : Below w7.heap.size w7 w9 := belOn hb8 hs8 hb9
            obtain ⟨a0, a1, a2, a3, a4⟩ := (xf7.below hb79 (by omega)).cells
            have hf9 : w6.heap.size < w9.heap.size := by omega
            have hbA := bel1 (Below.refl w9.heap.size w9) (Nat.le_refl _) (Obj.cells #[.int .i64 f.k, .int .u64 f.n, .string f.s, .slice f.a f.l.length f.c, .int .i64 f.e] 25)
            have hbr9 : Below wr.heap.size wr w9 := belOn hbr7 (by omega) hb79
            have HBA : Hid (Below wr.heap.size wr (w9.alloc (Obj.cells #[.int .i64 f.k, .int .u64 f.n, .string f.s, .slice f.a f.l.length f.c, .int .i64 f.e] 25))) := belOn hbr9 (by omega) hbA
            have HG9 := hide (HG.out.1.below HBA.out)
            have HNEWS := hide (news5 w9 f)
            have hfl : fs.length = i := by
              have := congrArg List.length HG.out.2
              simp [V.ts_length] at this
              omega
            have HM1 : Hid (fs.length + 1 ≤ maxLen) := (by show fs.length + 1 ≤ maxLen; unfold maxLen; omega)
            have HM2 : Hid ((fs.length + 1) * 64 ≤ 140737488355328) := (by show (fs.length + 1) * 64 ≤ 140737488355328; omega)
            have HFLEN := hide hfl
            clear hfl hbA
            go_wp2_with (at_builtin; go_loud (refine wpList_append_own_at _ rfl (.tmp 112) (.tmp 114) 23 rfl W4.heap.size 25 i0 _ 5 64 Tryd.underlying23 hi0 hz0 hz1 hz2 rfl (by decide) _ fs.length (flat fs) rfl HG9.out.row ⟨w9.heap.size, 0, none⟩ 1 1 (words f) rfl rfl HNEWS.out (V.words_one f) HM1.out HM2.out HG9.out.size ?_; intro v' w10 hown' hgrow _ hat))
            have hP := HG.out.1.push (lo := W5.heap.size) (hi := w6.heap.size) HBA.out (by omega) (by simp; omega) (LiesIn.keep HFL.out (fun b hq o => (World.cell?_alloc_past _ _ _ (by have := hq.2; show b < w9.heap.size; omega)).trans (hb79.cell (p := ⟨b, o, none⟩) (by show b < w7.heap.size; have := hq.2; omega))) (fun _ h => h)) (HFO.out.keep (fun b q1 q2 => (Below.heap_alloc _ _ _ (by omega)).trans (hb79.block b (by omega))) (Nat.le_refl _) (Nat.le_refl _)) hown' hgrow hat
            have HP := hide hP
            have HBN := hide (hP.2 _ (hb.trans (HBA.out.mono hsz)))
            have HTN : Hid (V.ts (fs ++ [f]) = (ks.take (i + 1)).map fun k => (findT m.t k.t).getD zeroT) := by
              show V.ts (fs ++ [f]) = _
              rw [List.take_succ_eq_append_getElem hil, List.map_append, ← HG.out.2, V.ts_map, V.ts_map]
              simp [hft]
            clear hP hown' hgrow hat
            go_roundw
            case rel => exact ⟨fs ++ [f], v', i + 1, rfl, by go_num, hil, ⟨HP.out.1, HTN.out⟩, HBN.out⟩
            case measure => simp [intOf]; omega
      · obtain rfl : i = ks.length := by omega
        obtain ⟨w10, rfl⟩ : ∃ w10, w10 = wr := ⟨_, rfl⟩
        go_wp2_with fail
        -- the third loop
        obtain ⟨hgots, hfts⟩ := HG.out
        rw [List.take_length] at hfts
        have hflen : fs.length = ks.length := by
          have := congrArg List.length hfts
          simpa [V.ts_length] using this
        have hb10 := hb
        have hs10 := hb10.size
        obtain ⟨gg, Cg, hgv, hgC, hgg1, hgg2, hgr⟩ : ∃ g C, gv = .slice (some ⟨g, 0, none⟩) ks.length C ∧ ks.length ≤ C ∧ W4.heap.size ≤ g ∧ g < w10.heap.size ∧ Row w10 g 0 fs := by
          have hr := hgots.row
          rcases hr.2 with ⟨_, h0⟩ | ⟨g, cap, cur, e, h1, h2, h3, _⟩
          · omega
          · refine ⟨g, cap, by rw [e, hflen], by omega, h1, (Array.getElem?_eq_some_iff.1 h2).1, ?_⟩
            rw [e] at hr
            exact flat_row hr
        have HGR := hide hgr
        have HGO := hide hgots
        have HFTS := hide hfts
        have HFLEN := hide hflen
        have HBK0 : Hid (Bk (w4.heap.size + 1) none [] w10 w10) := Bk.fresh ((hb10.block _ (by omega)).trans HBK.out)
        have HFTJ : Hid (∀ j (h : j < ks.length) (h' : j < fs.length), fs[j].t = (findT m.t ks[j].t).getD zeroT) := fun j h h' => by
          have : (V.ts fs)[j]? = (ks.map fun k => (findT m.t k.t).getD zeroT)[j]? := by rw [hfts]
          rw [V.ts_map, List.getElem?_map, List.getElem?_map, List.getElem?_eq_getElem h, List.getElem?_eq_getElem h'] at this
          simpa using this
        have HWF : Hid (∀ x ∈ fs, T.wt x.t ≤ 100000) := fun x hx => by
          obtain ⟨j, hj, rfl⟩ := List.getElem_of_mem hx
          rw [HFTJ.out j (by omega) hj]
          exact wt_find m ks[j] hwm
        subst hgv
        clear hgr hgots hfts hflen HG hb hb34
        go_loopw [20] (fun u wr => ∃ (i : Nat), u = .int .i64 i ∧ i ≤ ks.length ∧ Hid (Bk (w4.heap.size + 1) none (V.slotss (fs.take i)) w10 wr)) (fun u _ => ks.length - (intOf u).toNat)
        case atStart => exact ⟨0, rfl, Nat.zero_le _, by rw [List.take_zero]; exact HBK0⟩
        case round =>
          obtain ⟨i, rfl, hi, HB⟩ := hrel
          have hsz := HB.out.size
          have hb4r : Below (w4.heap.size + 1) W4 wr := (hb10.mono (by omega)).trans (HB.out.below (Nat.le_refl _) (by omega))
          have hbwr : Below w.heap.size w wr := hbw4.trans (hb4r.mono (by omega))
          have hbWr : Below W0.heap.size W0 wr := hbW4.trans (hb4r.mono (by omega))
          have xxr : BoxV wr w4.heap.size x := xx.below hb4r (by omega)
          by_cases hil : i < ks.length
          · have hil' : i < fs.length := by have := HFLEN.out; omega
            have hkr : Row wr gk 0 ks := HKR.out.below hb4r (by omega)
            have hgr : Row wr gg 0 fs := HGR.out.same (fun o => World.cell?_of_block (HB.out.same (k := gg) (by omega) (by omega)))
            obtain ⟨k0, k1, k2, k3, k4⟩ := hkr i hil
            rw [Nat.zero_add] at k0 k1 k2 k3 k4
            obtain ⟨n0, n1, n2, n3, n4⟩ := (xm.below hbWr (by omega)).cells
            obtain ⟨hkl, hkw⟩ := HKE.out i hil
            have HKL := hide hkl
            have hgl7 : gk < wr.heap.size := by omega
            have hm7 : w.heap.size < wr.heap.size := by omega
            have HGI := hide hgr
            obtain ⟨w7, rfl⟩ : ∃ w7, w7 = wr := ⟨_, rfl⟩
            clear hkl hkr hgr
            go_wp2_with fail
            go_cut [21, 22] from 122 to 130 (fun v u wx => ∃ (z : V) (B : Nat), v = .pointer (some ⟨B, 0, none⟩) ∧ w7.heap.size ≤ B ∧ BoxV wx B z ∧ z.t = (findT m.t ks[i].t).getD zeroT ∧ LiesIn (fun b => b < wx.heap.size) wx z ∧ Below w7.heap.size w7 wx)
            case first =>
              have HRF : Hid (∀ W, Below w7.heap.size w7 W → Calls Tryd.prog 19 #[.agg #[.int .i64 m.k, .int .u64 m.n, .string m.s, .slice m.a m.l.length m.c, .int .i64 m.e], .agg #[.int .i64 ks[i].k, .int .u64 ks[i].n, .string ks[i].s, .slice ks[i].a ks[i].l.length ks[i].c, .int .i64 ks[i].e]] W fun e w' => ∃ (z : V), e = .returned (.tuple #[.agg #[.int .i64 z.k, .int .u64 z.n, .string z.s, .slice z.a z.l.length z.c, .int .i64 z.e], .bool (findT m.t ks[i].t).isSome]) ∧ Hid (z.t = (findT m.t ks[i].t).getD zeroT ∧ LiesIn (fun b => W.heap.size ≤ b ∧ b < w'.heap.size) w' z) ∧ Below W.heap.size W w' ∧ Below w7.heap.size w7 w') := by
                intro W hW
                have hWs := hW.size
                have hbwW : Below w.heap.size w W := belOn hbwr (by omega) hW
                have q := rfind_any m ks[i] hwm w.heap.size W (by omega) (HM.out.keep hbwW (Nat.le_refl _)) (HKL.out.keep hbwW (Nat.le_refl _))
                rw [V.val_eq, V.val_eq] at q
                refine q.mono ?_
                rintro e w' ⟨z, b, rfl, HZ, hbz⟩
                obtain ⟨⟨rfl, h2⟩, h3⟩ := HZ.out
                exact ⟨z, rfl, ⟨h2, h3⟩, hbz, belOn hW hWs hbz⟩
              have hd : Below w7.heap.size w7 w7.drew := (Below.refl _ _).drew
              have hda : Below w7.heap.size w7 (w7.drew.alloc (Obj.cells #[.int .i64 0, .int .u64 0, .string ⟨#[]⟩, .slice none 0 0, .int .i64 0] 25)) := bel1 hd (Nat.le_refl _) _
              have hmx : Tryd.prog.follows .mixedOrders = true := by kernel_rfl
              clear HKR HKL HKE xm xy xx HXL HBK HMR HM HY hbW4 hbw4 hbwr hbWr hb4r xxr HGR HGO HFTS HFTJ HBK0 HB HGI hb0 hbW2 hbw2 hb10
              go_region_with (go_at_call 19; (first | refine Calls.mono (HRF.out _ hd) ?_ | refine Calls.mono (HRF.out _ hda) ?_); rintro e8 w8 ⟨z, rfl, HZ, hb8, hbc8⟩; have hle8 := hbc8.size; (try (have hbx : BoxV w8 w7.heap.size (.of 0 0 ⟨#[]⟩ none 0 0 []) := (hb8.block w7.heap.size (by simp)).trans (World.alloc_heap_new w7.drew _); obtain ⟨c0, c1, c2, c3, c4⟩ := hbx.cells; have f0 := hbx.own5.free)))
              all_goals
                go_wp2_with fail
                go_meet
                first
                  | (have hh := hbx; rw [put5_at0]; exact ⟨z, w7.heap.size, rfl, Nat.le_refl _, put5_box hbx, HZ.out.1, HZ.out.2.keep (fun b hq o => put5_same w8 w7.heap.size 0 b z (by have := hq.1; simp at this; omega) o) (fun b hq => by rw [put5_size]; exact hq.2), put5_below hbc8 (Nat.le_refl _)⟩)
                  | exact ⟨z, w8.heap.size, rfl, hle8, BoxV.new w8 z, HZ.out.1, HZ.out.2.keep (fun b hq o => World.cell?_alloc_past _ _ _ hq.2) (fun b hq => by simp; have := hq.2; omega), bel1 hbc8 hle8 _⟩
            case rest =>
              obtain ⟨z, B, rfl, hB, xz, hzt, hzl, hb8⟩ := hcut
              obtain ⟨w8, rfl⟩ : ∃ w8, w8 = wc := ⟨_, rfl⟩
              have hs8 := hb8.size
              clear n0 n1 n2 n3 n4 k0 k1 k2 k3 k4
              have hBlt : B < w8.heap.size := xz.lt
              obtain ⟨z0, z1, z2, z3, z4⟩ := xz.cells
              obtain ⟨g0, g1, g2, g3, g4⟩ := (HGI.out.below hb8 (by omega)) i hil'
              rw [Nat.zero_add] at g0 g1 g2 g3 g4
              have hggl : gg < w8.heap.size := by omega
              go_wp2_with fail
              have HB8 := hide (HB.out.on hb8)
              have HFI : Hid (LiesIn (fun b => W4.heap.size ≤ b ∧ b < w10.heap.size) w8 fs[i]) := LiesIn.keep (HGO.out.lies fs[i] (List.getElem_mem hil')) (fun b hq o => World.cell?_of_block ((hb8.block b (by have := hq.2.1; omega)).trans (HB.out.same (k := b) hq.2.1 (by have := hq.1; omega)))) (fun b hq => ⟨hq.1, hq.2.1⟩)
              go_cut [23] from 131 to 136 (fun v wx => v = .bool true ∧ Below w8.heap.size w8 wx)
              case first =>
                have q := requal_any fs[i] z w8.heap.size w8.drew (Nat.le_refl _) (LiesIn.keep HFI.out (fun _ _ _ => rfl) (fun b hq => by show b < w8.heap.size; have := hq.2; omega)) (hzl.keep (fun _ _ _ => rfl) (fun _ h => h))
                rw [V.val_eq, V.val_eq, HFTJ.out i hil hil', hzt, eqT_self'] at q
                have HQ := hide q
                have hmx : Tryd.prog.follows .mixedOrders = true := by kernel_rfl
                clear q HKR HKL HKE xm xy xx HXL HBK HMR HM HY hbW4 hbw4 hbwr hbWr hb4r xxr HGR HGO HFTS HFTJ HBK0 HB HGI hb0 hbW2 hbw2 hb10 HFI HB8 hzl
                go_region_with (go_at_call 13; refine HQ.out.mono ?_; rintro e9 w9 ⟨rfl, hb9⟩)
                all_goals
                  go_wp2_with fail
                  go_meet
                  exact ⟨rfl, ⟨hb9.os, hb9.tape, hb9.output, hb9.size, hb9.block⟩⟩
              case rest =>
                obtain ⟨rfl, hb9⟩ := hcut
                obtain ⟨w9, rfl⟩ : ∃ w9, w9 = wc := ⟨_, rfl⟩
                have hs9 := hb9.size
                clear z0 z1 z2 z3 z4 g0 g1 g2 g3 g4
                have HB9 := hide (HB8.out.on hb9)
                obtain ⟨g0, g1, g2, g3, g4⟩ := ((HGI.out.below hb8 (by omega)).below hb9 (by omega)) i hil'
                rw [Nat.zero_add] at g0 g1 g2 g3 g4
                have hggl9 : gg < w9.heap.size := by omega
                have HFI9 : Hid (LiesIn (fun b => W4.heap.size ≤ b ∧ b < w10.heap.size) w9 fs[i]) := LiesIn.keep HFI.out (fun b hq o => hb9.cell (p := ⟨b, o, none⟩) (by show b < w8.heap.size; have := hq.2; omega)) (fun _ h => h)
                have hwf : ∀ x ∈ fs, T.wt x.t ≤ 100000 := HWF.out
                have hsl := slotss_len' (fs.take i) 100000 (fun x hx => hwf x (List.mem_of_mem_take hx))
                have hti : (fs.take i).length ≤ 125 := by rw [List.length_take]; omega
                have hS9 : (V.slotss (fs.take i)).length + T.wt fs[i].t ≤ 1099511627776 := by
                  have h1 := hwf fs[i] (List.getElem_mem hil')
                  have h2 : (fs.take i).length * 100000 ≤ 12500000 := by omega
                  omega
                have q := take_next HB9.out fs[i] (fun b => W4.heap.size ≤ b ∧ b < w10.heap.size) HFI9.out (fun b hq => ⟨hq.2, by have := hq.1; omega⟩) hS9
                rw [V.val_eq] at q
                have HQ := hide q
                clear q hwf hsl hti hS9
                go_wp2_with fail
                refine HQ.out.mono ?_
                clear HQ g0 g1 g2 g3 g4
                rintro e11 w11 ⟨rfl, HB11⟩
                have HBN : Hid (Bk (w4.heap.size + 1) none (V.slotss (fs.take (i + 1))) w10 w11) := by
                  rw [V.slotss_take fs i hil']
                  exact HB11
                go_wp2
                go_roundw
                case rel => exact ⟨i + 1, by go_num, hil, HBN⟩
                case measure => simp [intOf]; omega
          · obtain rfl : i = ks.length := by omega
            obtain ⟨w12, rfl⟩ : ∃ w12, w12 = wr := ⟨_, rfl⟩
            have hfull : fs.take ks.length = fs := List.take_of_length_le (by have := HFLEN.out; omega)
            rw [hfull] at HB
            have HBS := hide HB.out
            have hO : OwnsX w12 (V.slotss fs) := HGO.out.owns.keep (fun g hg => HB.out.same (HGO.out.apart g hg).2.1 (by have := (HGO.out.apart g hg).1; omega))
            have hsl := slotss_len' fs 100000 HWF.out
            have hsm := slotss_small fs 100000 HWF.out
            have hfl := HFLEN.out
            have hpos : 0 < (V.slotss fs).length := by
              cases fs with
              | nil => simp at hfl; omega
              | cons f fs' =>
                have := slots_pos f
                have e : V.slotss (f :: fs') = f.slots ++ V.slotss fs' := by simp [V.slotss]
                rw [e, List.length_append]
                omega
            have q := owned_at HB.out hO hpos (by have : fs.length * 100000 ≤ 12500000 := (by omega)
                                                  omega) (fun s hs a m c e => by have := hsm s hs a m c e; omega)
            have HQ := hide q
            have HOB : Hid (∀ g ∈ blocksOf (V.slotss fs), W4.heap.size ≤ g) := fun g hg => (HGO.out.apart g hg).1
            clear q hO hsl hsm hfl hpos hfull
            go_wp2_with fail
            refine HQ.out.mono ?_
            clear HQ
            rintro e13 w13 ⟨rfl, HT13⟩
            have hs13 := HT13.out.size
            have hb13 : Below (w4.heap.size + 1) w12 w13 := HT13.out.keep (by omega) (fun g hg => by have := HOB.out g hg; omega)
            have hb413 : Below (w4.heap.size + 1) W4 w13 := hb4r.trans hb13
            have hbw13 : Below w.heap.size w w13 := hbw4.trans (hb413.mono (by omega))
            have hbW13 : Below W0.heap.size W0 w13 := hbW4.trans (hb413.mono (by omega))
            obtain ⟨x0, x1, x2, x3, x4⟩ := (xx.below hb413 (by omega)).cells
            obtain ⟨n0, n1, n2, n3, n4⟩ := (xm.below hbW13 (by omega)).cells
            have q := asLent_any x m w3.heap.size w4.heap.size (fun b => b < w.heap.size) w13 (HXL.out.keep (fun b o q1 q2 q3 => (hb413.block b (by omega)).trans q3)) (by omega) (HM.out.keep hbw13 (Nat.le_refl _)) (fun b hb => ⟨by omega, by omega⟩) HXT.out
            rw [V.val_eq, V.val_eq] at q
            have HQ := hide q
            clear q
            go_wp2_with fail
            refine HQ.out.mono ?_
            clear HQ x0 x1 x2 x3 x4 n0 n1 n2 n3 n4
            rintro e14 w14 ⟨rfl, ht14⟩
            have HE := hide (hbw13.trans (ht14.below (n := w.heap.size) (by omega) (by omega)))
            clear ht14
            go_wp2
            go_ret
            exact ⟨rfl, HE.out⟩
end Go.Proofs.YtaedlnliglmomaaDoor
