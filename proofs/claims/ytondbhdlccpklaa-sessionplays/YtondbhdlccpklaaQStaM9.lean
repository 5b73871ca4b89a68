import Derived.Test.YtondbhdlccpklaaQStMM9

/- Stage 13: the book stands. -/
namespace Go.Proofs.Ytondbhdlccpklaa
open Go.RowKit Go.Maps
set_option linter.unusedVariables false
set_option linter.unusedSimpArgs false

theorem get_some {α : Type} {S : List α} {j : Nat} (h : j < S.length) : ∃ v, S[j]? = some v := ⟨S[j], List.getElem?_eq_getElem h⟩
theorem RdM.read {w : World} {a : Option Addr} {n c k : Nat} {id : Int} (h : RdM w (.slice a n c) id) (hk : k < n) : ∃ g, a = some ⟨g, 0, none⟩ ∧ g < w.heap.size ∧ w.cell? ⟨g, k * 3, none⟩ = some (.int .i64 id) := by
  obtain ⟨⟨a', n', c', e, h0⟩, h1, h2⟩ := h
  cases e
  cases a with
  | none => have := h0 rfl; omega
  | some ad =>
    obtain ⟨cs, r1, ⟨c1, r2⟩, r3⟩ := h2 ad.block rfl
    have e : ad = ⟨ad.block, 0, none⟩ := by
      simp only [Value.slice.injEq, Option.some.injEq] at r2
      exact r2.1
    exact ⟨ad.block, congrArg some e, (Array.getElem?_eq_some_iff.1 r1).1, cellOf r1 _ _ (r3 k hk)⟩
theorem MKs.congr {S : List Value} {kb : Nat} {K K' : Nat → Nat} {w : World} (h : MKs S kb K w) (he : ∀ i, i < S.length → K i = K' i) : MKs S kb K' w := fun i v e => he i (List.getElem?_eq_some_iff.1 e).1 ▸ h i v e
theorem Mkd.form {w : World} {base k : Nat} {v : Value} {id : Int} (h : Mkd w base v id k) : ∃ a m c, v = .slice a m c ∧ m ≤ 4294967296 ∧ ∃ xs, w.ownsRow base 75 3 (.slice a m c) m xs := by
  obtain ⟨xs, h1, h2, _⟩ := h
  obtain ⟨a, c, e, _⟩ := own_some h1
  have e2 : sLen v = sLen v := rfl
  exact ⟨a, sLen v, c, e, h2, xs, e ▸ h1⟩
def oneC (x : Int) : List Value := [.int .i64 x, .int .i64 0, .string ⟨#[]⟩]
theorem one_one (x : Int) : ∀ u ∈ oneC x, u.oneCell' = true := by
  intro u hu
  simp only [oneC, List.mem_cons, List.not_mem_nil, or_false] at hu
  rcases hu with rfl | rfl | rfl <;> rfl
set_option maxRecDepth 100000 in
set_option maxHeartbeats 8000000 in
theorem stands_any (kb N : Nat) (D : Nat → Prop) (w : World) (hB : Bok w kb N D) (hN : N ≤ 1954687338220) :
    Calls Try.prog 19 #[.pointer (some ⟨kb, 0, none⟩)] w fun e w' => e = .returned (.bool true) ∧ Kp D w w' := by
  obtain ⟨S, T, vl, vw, hb, hT, hS, hD, hL⟩ := hB
  obtain ⟨i0, hi, hz0, hz1, hz2⟩ := info_parts Try.infoPd
  obtain ⟨i1, hy, hy0, hy1, hy2⟩ := info_parts Try.infoLp
  obtain ⟨n, hn⟩ : ∃ n, n = S.length := ⟨_, rfl⟩
  have hnb : n ≤ 977343669110 := by omega
  have hol := hb.ol
  have how := hb.ow
  rw [← hn] at hol
  rw [hT, ← hn] at how
  obtain ⟨q0, q1, q2, q3⟩ := hb.facts
  obtain ⟨al, cl, rfl, _, hga⟩ := own_some hol
  obtain ⟨aw, cw, rfl, _, hgw⟩ := own_some how
  have HB := hide hb
  have HN := hide hn
  have HTl := hide hT
  have HD := hide hD
  have HL := hide hL
  have HOl := hide hol
  have HOw := hide how
  clear hb hn hT hD hL hS hol how hga hgw q0
  go_enter Try.func19, Try.ntmps19
  go_wp2
  go_loopw [3] (fun i wr => ∃ j : Nat, i = .int .i64 j ∧ j ≤ n ∧ Below w.heap.size w wr) (fun i _ => n - (intOf i).toNat)
  case atStart => exact ⟨0, rfl, Nat.zero_le _, Below.refl _ _⟩
  case round =>
    obtain ⟨j, rfl, hj, hbl⟩ := hrel
    have HBl := hide hbl
    have hjb : (j : Int) ≤ 977343669110 := by omega
    have r1 := (hbl.cell (p := ⟨kb, 1, none⟩) q3).trans q1
    have r2 := (hbl.cell (p := ⟨kb, 2, none⟩) q3).trans q2
    have r3 : kb < wr.heap.size := by have := hbl.size; omega
    by_cases hjn : j < n
    · obtain ⟨v, hv⟩ := get_some (S := S) (j := j) (by have := HN.out; omega)
      obtain ⟨u, hu⟩ := get_some (S := T) (j := j) (by have := HN.out; have := HTl.out; omega)
      obtain ⟨ps, o1, o2, hps⟩ := HB.out.it j v u hv hu
      obtain ⟨gl, el, _, gl1, gl2⟩ := own_read HOl.out hv
      obtain ⟨gw, ew, _, gw1, gw2⟩ := own_read HOw.out hu
      subst el
      subst ew
      obtain ⟨av, cv, ev, rv, _⟩ := o1.rd
      obtain ⟨au, cu, eu, ru, _⟩ := o2.rd
      subst ev
      subst eu
      have l1 := (hbl.cell (p := ⟨gl, j, none⟩) gl1).trans gl2
      have l2 := (hbl.cell (p := ⟨gw, j, none⟩) gw1).trans gw2
      have l3 : gl < wr.heap.size := by have := hbl.size; omega
      have l4 : gw < wr.heap.size := by have := hbl.size; omega
      have bd : Below w.heap.size w wr.drew := ⟨hbl.os, hbl.tape, hbl.output, hbl.size, hbl.block⟩
      have HSm : Hid (Calls Try.prog 30 #[.slice av ps.length cv, .slice au ps.length cu] wr.drew fun e w' => e = .returned (.bool true) ∧ Hid (Below w.heap.size w w') ∧ (w'.cell? ⟨kb, 1, none⟩ = some (.slice (some ⟨gl, 0, none⟩) n cl) ∧ w'.cell? ⟨kb, 2, none⟩ = some (.slice (some ⟨gw, 0, none⟩) n cw) ∧ w'.cell? ⟨gl, j, none⟩ = some (.slice av ps.length cv) ∧ w'.cell? ⟨gw, j, none⟩ = some (.slice au ps.length cu))) :=
        (same_eq av au ps cv cu wr.drew (rv.below bd) (ru.below bd) hps).mono fun e w' ⟨e1, b1⟩ => ⟨e1, belOn bd bd.size b1, (b1.cell (p := ⟨kb, 1, none⟩) r3).trans r1, (b1.cell (p := ⟨kb, 2, none⟩) r3).trans r2, (b1.cell (p := ⟨gl, j, none⟩) l3).trans l1, (b1.cell (p := ⟨gw, j, none⟩) l4).trans l2⟩
      clear hbl o1 o2 rv ru gl2 gw2 gl1 gw1 hv hu bd
      go_wp2
      go_region_held (fun W => W.cell? ⟨kb, 1, none⟩ = some (.slice (some ⟨gl, 0, none⟩) n cl) ∧ W.cell? ⟨kb, 2, none⟩ = some (.slice (some ⟨gw, 0, none⟩) n cw) ∧ W.cell? ⟨gl, j, none⟩ = some (.slice av ps.length cv) ∧ W.cell? ⟨gw, j, none⟩ = some (.slice au ps.length cu)) (first | assumption | go_keep) (first | (go_at_call 30; refine Calls.mono HSm.out ?_; rintro e1 w1 ⟨rfl, hS, hs1⟩))
      go_wp2
      go_roundw
      case rel => exact ⟨j + 1, by go_num, by omega, hS.out⟩
      case measure => simp [intOf]; omega
    · obtain rfl : n = j := by omega
      obtain ⟨w1, rfl⟩ : ∃ w1 : World, w1 = wr := ⟨_, rfl⟩
      have HB1 : Hid (Bk w1 kb N S T (.slice al n cl) (.slice aw n cw)) := HB.out.at fun k e => HBl.out.block k (HB.out.low e).1
      obtain ⟨X, hX⟩ : ∃ X : Nat → Prop, X = fun k => ∃ v, v ∈ S ∧ v.ownBlock = some k := ⟨_, rfl⟩
      have HX := hide hX
      have HXk : Hid (¬ X kb) := by
        show ¬ X kb
        rw [hX]
        rintro ⟨v, hv, e⟩
        obtain ⟨ps, o, _⟩ := HB1.out.is v hv
        have := (World.ownsRow.lt o kb e).1
        omega
      have HXl : Hid (∀ g, al = some ⟨g, 0, none⟩ → ¬ X g) := by
        show ∀ g, al = some ⟨g, 0, none⟩ → ¬ X g
        rw [hX]
        rintro g rfl ⟨v, hv, e⟩
        exact (HB1.out.la v (.inl hv)).1 g rfl e
      have HM : Hid (MKs S kb (fun _ => 0) w1) := fun i v e => by
        obtain ⟨ps, o, hl⟩ := HB1.out.is v (List.mem_of_getElem? e)
        exact o.mkd hl _
      have HOl1 : Hid (w1.ownsRow (kb + 1) 72 1 (.slice al n cl) n S) := own_at HOl.out fun k e => HBl.out.block k (HOl.out.lt k e).2
      clear hbl hX hj hjb hjn r2 q1 q2 q3
      go_wp2
      go_loopw [5] (fun i wr => ∃ j : Nat, i = .int .i64 j ∧ j ≤ n ∧ MKs S kb (fun i => if i < j then 4294967296 else 0) wr ∧ Kp X w1 wr) (fun i _ => n - (intOf i).toNat)
      case atStart => exact ⟨0, rfl, Nat.zero_le _, HM.out.congr fun i _ => (if_neg (Nat.not_lt_zero i)).symm, Kp.refl _ _⟩
      case round =>
        obtain ⟨j, rfl, hj, hm, hk⟩ := hrel
        have HMk := hide hm
        have HK := hide hk
        have hjb : (j : Int) ≤ 977343669110 := by omega
        have t1 : wr.cell? ⟨kb, 1, none⟩ = some (.slice al n cl) := (hk.cell r3 HXk.out).trans r1
        have t3 : kb < wr.heap.size := by have := hk.size; omega
        by_cases hjn : j < n
        · obtain ⟨v, hv⟩ := get_some (S := S) (j := j) (by have := HN.out; omega)
          obtain ⟨gl, el, _, gl1, gl2⟩ := own_read HOl1.out hv
          subst el
          obtain ⟨av, m, cv, rfl, hmb, _⟩ := (hm j v hv).form
          have HV := hide hv
          have HXg := hide (HXl.out gl rfl)
          have l1 := (hk.cell gl1 HXg.out).trans gl2
          have l3 : gl < wr.heap.size := by have := hk.size; omega
          obtain ⟨w2, rfl⟩ : ∃ w2 : World, w2 = wr := ⟨_, rfl⟩
          clear hm hk hv
          go_wp2
          go_loopw [6] (fun i wr => ∃ q : Nat, i = .int .i64 q ∧ q ≤ m ∧ MKs S kb (fun i => if i < j then 4294967296 else if i = j then q else 0) wr ∧ Kp X w1 wr) (fun i _ => m - (intOf i).toNat)
          case atStart => exact ⟨0, rfl, Nat.zero_le _, HMk.out.congr fun i _ => by (repeat' split) <;> rfl, HK.out⟩
          case round =>
            obtain ⟨q, rfl, hq, hm, hk⟩ := hrel
            have HM2 := hide hm
            have HK2 := hide hk
            have hqb : (q : Int) ≤ 4294967296 := by omega
            have s1 : wr.cell? ⟨kb, 1, none⟩ = some (.slice (some ⟨gl, 0, none⟩) n cl) := (hk.cell r3 HXk.out).trans r1
            have s3 : kb < wr.heap.size := by have := hk.size; omega
            have s4 := (hk.cell gl1 HXg.out).trans gl2
            have s5 : gl < wr.heap.size := by have := hk.size; omega
            by_cases hqm : q < m
            · obtain ⟨a', m', c', e', _, xs, ho⟩ := (hm j _ HV.out).form
              cases e'
              obtain ⟨_, _, e2, e3, _⟩ := own_some ho
              cases e2
              obtain ⟨g, rfl⟩ := e3 q hqm
              have HT := hide (own_there ho hqm)
              have HXv : Hid (X g) := by
                show X g
                rw [HX.out]
                exact ⟨_, List.mem_of_getElem? HV.out, rfl⟩
              clear hm hk ho e3
              go_wp2_with (refine wpList_store_mid rfl 75 (.tmp 71) (.tmp 70) rfl g (q * 3) #[.int .i64 (-1000 - (j : Int)), .int .i64 0, .string ⟨#[]⟩] rfl rfl HT.out (by kernel_rfl) (by kernel_rfl) ?_)
              go_roundw
              case rel => exact ⟨q + 1, by go_num, by omega, HM2.out.put HB1.out.nd HV.out hqm (by simp) (by simp) (fun i hi => by simp [hi]) _ _, kp_three HK2.out HXv.out _ _ _ _⟩
              case measure => simp [intOf]; omega
            · obtain rfl : m = q := by omega
              clear hm hk
              go_wp2
              go_roundw
              case rel => exact ⟨j + 1, by go_num, by omega, HM2.out.full HV.out (by simp [sLen]) (by simp) (fun i hi => by
                by_cases h : i < j
                · simp [h, Nat.lt_succ_of_lt h]
                · simp [h, hi, show ¬ i < j + 1 by omega]), HK2.out⟩
              case measure => simp [intOf]; omega
        · obtain rfl : n = j := by omega
          obtain ⟨w2, rfl⟩ : ∃ w2 : World, w2 = wr := ⟨_, rfl⟩
          have HMf : Hid (MKs S kb (fun _ => 4294967296) w2) := HMk.out.congr fun i hi => if_pos (by have := HN.out; omega)
          obtain ⟨B0, hB0⟩ : ∃ B0, B0 = w2.heap.size := ⟨_, rfl⟩
          have HG : Hid (Gw S kb B0 0 (.slice none 0 0) [] w2) := by rw [hB0]; exact Gw.start HMf.out
          have HB0 := hide hB0.symm
          have hgll : Hid (∀ g, al = some ⟨g, 0, none⟩ → g < w1.heap.size) := fun g e => (HOl1.out.lt g (by rw [e]; rfl)).2
          have hsz2 : w1.heap.size ≤ w2.heap.size := hk.size
          have HOl2 : Hid (w2.ownsRow (kb + 1) 72 1 (.slice al n cl) n S) := own_at HOl1.out fun k e => HK.out.block (HOl1.out.lt k e).2 (by
            cases al with
            | none => cases e
            | some ad =>
              obtain ⟨_, _, e1, _, e2⟩ := own_some HOl1.out
              cases e1
              obtain ⟨e3, e4, _⟩ := e2 ad.block ad.off ad.spot rfl
              cases e
              exact HXl.out ad.block (by rw [← e3, ← e4]))
          clear hm hk hB0 HM hj hjb hjn HMf HMk
          go_wp2
          go_loopw [7, 8] (fun g i wr => ∃ j : Nat, i = .int .i64 j ∧ j ≤ n ∧ ∃ G, Gw S kb B0 j g G wr ∧ Kp X w2 wr) (fun _ i _ => n - (intOf i).toNat)
          case atStart => exact ⟨0, rfl, Nat.zero_le _, [], HG.out, Kp.refl _ _⟩
          case round =>
            obtain ⟨j, rfl, hj, G, hg, hk⟩ := hrel
            have HGw := hide hg
            have HK3 := hide hk
            have hjb : (j : Int) ≤ 977343669110 := by omega
            have y1 : wr.cell? ⟨kb, 1, none⟩ = some (.slice al n cl) := (hk.cell t3 HXk.out).trans t1
            have y3 : kb < wr.heap.size := by have := hk.size; omega
            by_cases hjn : j < n
            · obtain ⟨v, hv⟩ := get_some (S := S) (j := j) (by have := HN.out; omega)
              obtain ⟨gl, el, _, gl1, gl2⟩ := own_read HOl2.out hv
              subst el
              obtain ⟨av, m, cv, rfl, hmb, _⟩ := (hg.rest j v (Nat.le_refl _) hv).1.form
              have HV := hide hv
              have HXg := hide (HXl.out gl rfl)
              have l1 := (hk.cell gl1 HXg.out).trans gl2
              have l3 : gl < wr.heap.size := by have := hk.size; omega
              have HGr := hide (hg.enter HB1.out.nd hv)
              have HXS : Hid (∀ v, S[j]? = some v → ∀ k, v.ownBlock = some k → X k) := by
                show ∀ v, S[j]? = some v → ∀ k, v.ownBlock = some k → X k
                rw [HX.out]
                exact fun v e k ek => ⟨v, List.mem_of_getElem? e, ek⟩
              obtain ⟨w3, rfl⟩ : ∃ w3 : World, w3 = wr := ⟨_, rfl⟩
              clear hg hk hv
              go_wp2
              go_loopw [7, 9, 10] (fun g x i wr => ∃ q : Nat, i = .int .i64 q ∧ q ≤ 8 ∧ ∃ G, G.length = 9 * j + q ∧ Gr S kb B0 j (m + q) x g G wr ∧ Kp X w2 wr) (fun _ _ i _ => 8 - (intOf i).toNat)
              case atStart => exact ⟨0, rfl, Nat.zero_le _, G, HGw.out.len, HGr.out, HK3.out⟩
              case round =>
                obtain ⟨q, rfl, hq, G', hl, hgr, hk⟩ := hrel
                have HL' := hide hl
                have HR := hide hgr
                have HK4 := hide hk
                have z1 : wr.cell? ⟨kb, 1, none⟩ = some (.slice (some ⟨gl, 0, none⟩) n cl) := (hk.cell t3 HXk.out).trans t1
                have z3 : kb < wr.heap.size := by have := hk.size; omega
                have z4 := (hk.cell gl1 HXg.out).trans gl2
                have z5 : gl < wr.heap.size := by have := hk.size; omega
                have hqb : (q : Int) ≤ 8 := by omega
                have hB0w : B0 ≤ wr.heap.size := hgr.size
                have hkB : kb + 1 ≤ wr.heap.size := by omega
                have hGb : Hid (G'.length ≤ 8796093021990) := by show _ ≤ _; omega
                obtain ⟨xs, ho, ha⟩ := hgr.row
                have HO := hide ho
                have HA := hide ha
                obtain ⟨a7, c7, e7, _⟩ := own_some hgr.grow
                subst e7
                by_cases hq8 : q < 8
                · obtain ⟨a9, c9, e9, _⟩ := own_some ho
                  subst e9
                  clear hl hgr hk ho ha
                  go_wp2_with (at_builtin; refine wpList_append_either _ rfl _ _ 72 rfl (kb + 1) 75 i0 (pdV pd0) 3 32 Try.underlying72 hi hz0 hz1 hz2 rfl (by decide) _ _ _ rfl (HO.out.alloc _) ⟨wr.heap.size, 0, none⟩ 1 (oneC (-1000 - (j : Int))) rfl rfl (cell_new _ _ _) (one_one _) (by unfold maxLen; omega) (by omega) (by simp; omega) ?_; intro v' w4 ho' hor; refine Shut.out ?_)
                  obtain ⟨a1, c1, rfl, _⟩ := own_some ho'
                  have hp := HR.out.push HB1.out.nd HO.out HA.out (news := oneC (-1000 - (j : Int))) rfl ho' hor
                  have HR1 := hide hp.1
                  have HK5 := hide (hp.2 X HXS.out w2 HB0.out HK4.out)
                  have hsw4 : B0 ≤ w4.heap.size := hp.1.size
                  clear hp ho' hor
                  unfold Shut
                  go_wp2_with (at_builtin; refine wpList_append_own_wide _ rfl _ _ 52 rfl B0 72 i1 (.slice none 0 0) 1 24 Try.underlying52 hy hy0 hy1 hy2 rfl (by decide) _ G'.length G' rfl (HR1.out.grow.alloc _) ⟨w4.heap.size, 0, none⟩ 1 1 [.slice a1 (m + q + 1) c1] rfl rfl (cell_one_new _ _ _) (lp_one ⟨_, _, _, rfl⟩) (by have := hGb.out; unfold maxLen; omega) (by have := hGb.out; omega) (by simp; omega) ?_; intro v2 w5 ho2 hg2 hn2; refine Shut.out ?_)
                  obtain ⟨a2, c2, rfl, _⟩ := own_some ho2
                  obtain ⟨ys, hys, hya⟩ := HR1.out.row
                  have ht := HR1.out.take (rdM_own hys (by omega) hya) HR1.out.low (by show m + q + 1 ≤ _; omega) (by have := HL'.out; omega) ho2 hg2
                  have HR2 := hide ht.1
                  have HK6 := hide (ht.2 X w2 HB0.out HK5.out)
                  clear ht ho2 hg2 hn2 hys hya
                  unfold Shut
                  go_wp2
                  go_roundw
                  case rel => exact ⟨q + 1, by go_num, by omega, _, by rw [List.length_append]; have := HL'.out; simp; omega, HR2.out, HK6.out⟩
                  case measure => simp [intOf]; omega
                · obtain rfl : q = 8 := by omega
                  have hself := hgr.self _ HV.out
                  have HS1 := hide hself
                  have HGrow := hide hgr.grow
                  clear hl hgr hk ho ha hself
                  go_wp2_with (at_builtin; refine wpList_append_own_wide _ rfl _ _ 52 rfl B0 72 i1 (.slice none 0 0) 1 24 Try.underlying52 hy hy0 hy1 hy2 rfl (by decide) _ G'.length G' rfl (HGrow.out.alloc _) ⟨wr.heap.size, 0, none⟩ 1 1 [.slice av m cv] rfl rfl (cell_one_new _ _ _) (lp_one ⟨_, _, _, rfl⟩) (by have := hGb.out; unfold maxLen; omega) (by have := hGb.out; omega) (by simp; omega) ?_; intro v2 w5 ho2 hg2 hn2; refine Shut.out ?_)
                  obtain ⟨a2, c2, rfl, _⟩ := own_some ho2
                  have ht := HR.out.take HS1.out.1 (fun k e => .inr ⟨_, HV.out, e⟩) HS1.out.2 (by have := HL'.out; omega) ho2 hg2
                  have HR2 : Hid (Gw S kb B0 (j + 1) _ _ w5) := ht.1.leave (by rw [List.length_append]; have := HL'.out; simp; omega)
                  have HK6 := hide (ht.2 X w2 HB0.out HK4.out)
                  clear ht ho2 hg2 hn2
                  unfold Shut
                  go_wp2
                  go_roundw
                  case rel => exact ⟨j + 1, by go_num, by omega, _, HR2.out, HK6.out⟩
                  case measure => simp [intOf]; omega
            · obtain rfl : n = j := by omega
              obtain ⟨w3, rfl⟩ : ∃ w3 : World, w3 = wr := ⟨_, rfl⟩
              have hGl := hg.len
              have HGl := hide hGl
              obtain ⟨a7, c7, e7, _⟩ := own_some hg.grow
              subst e7
              rw [hGl]
              have HGr7 : Hid (w3.ownsRow B0 72 1 (.slice a7 (9 * n) c7) (9 * n) G) := by
                have := hg.grow
                rw [hGl] at this
                exact this
              have HK9 : Hid (Kp D w w3) := by
                have hXD : ∀ k, X k → D k := by
                  rw [HX.out]
                  rintro k ⟨v, hv, e⟩
                  exact HD.out k (.inr (.inr (.inr ⟨v, .inl hv, e⟩)))
                exact ((Kp.ofBelow HBl.out).trans (HK.out.mono hXD)).trans (HK3.out.mono hXD)
              clear hg hk hGl hj hjb hjn HG
              go_wp2
              go_loopw [11] (fun i wr => ∃ q : Nat, i = .int .i64 q ∧ q ≤ 9 * n ∧ w3 = wr) (fun i _ => 9 * n - (intOf i).toNat)
              case atStart => exact ⟨0, rfl, Nat.zero_le _, rfl⟩
              case round =>
                obtain ⟨q, rfl, hq, rfl⟩ := hrel
                have hqb : (q : Int) ≤ 8796093021990 := by omega
                by_cases hqn : q < 9 * n
                · obtain ⟨x, hx⟩ := get_some (S := G) (j := q) (by have := HGl.out; omega)
                  obtain ⟨gg, eg, _, gg1, gg2⟩ := own_read HGr7.out hx
                  subst eg
                  have hrd := (HGw.out.items q x hx).1
                  obtain ⟨⟨ax, nx, cx, ex, _⟩, hnx, _⟩ := hrd
                  subst ex
                  have hnx' : nx ≤ 4294967304 := hnx
                  have HRd := hide (HGw.out.items q _ hx).1
                  clear hx hnx
                  go_wp2
                  go_loopw [12] (fun i wr => ∃ k : Nat, i = .int .i64 k ∧ k ≤ nx ∧ w3 = wr) (fun i _ => nx - (intOf i).toNat)
                  case atStart => exact ⟨0, rfl, Nat.zero_le _, rfl⟩
                  case round =>
                    obtain ⟨k, rfl, hkx, rfl⟩ := hrel
                    have hkb' : (k : Int) ≤ 4294967304 := by omega
                    by_cases hkn : k < nx
                    · obtain ⟨gx, ex, gx1, gx2⟩ := HRd.out.read hkn
                      subst ex
                      have hdiv : ((q / 9 : Nat) : Int) = (q : Int) / 9 := by omega
                      rw [hdiv] at gx2
                      clear hdiv
                      go_wp2
                      go_roundw
                      case rel => exact ⟨k + 1, by go_num, by omega, by first | trivial | rfl⟩
                      case measure => simp [intOf]; omega
                    · obtain rfl : nx = k := by omega
                      go_wp2
                      go_roundw
                      case rel => exact ⟨q + 1, by go_num, by omega, by first | trivial | rfl⟩
                      case measure => simp [intOf]; omega
                · go_wp2
                  go_ret
                  exact ⟨rfl, HK9.out⟩
end Go.Proofs.Ytondbhdlccpklaa
