import Derived.Test.YtknkmamjdmadcaaGResMM9
import Derived.Test.YtknkmamjdmadcaaGLookM9
import Derived.Test.YtknkmamjdmadcaaLUnsWM9
import Derived.Maps.RangeWalk
import Derived.StringKeys
import Derived.OwnWalk

/- Stage 14: Resume. -/
namespace Go.Proofs.Ytknkmamjdmadcaa.G
open Go.RowKit Go.Maps
set_option linter.unusedVariables false
set_option linter.unusedSimpArgs false

theorem Try.infoU1 : (Try.prog.info? 70).map (·.size) = some 20 := by kernel_rfl
theorem enc_one (x : Un) : (x.enc.toArray).all (·.oneCell') = true := by kernel_rfl
set_option maxRecDepth 100000 in
set_option maxHeartbeats 4000000 in
theorem resume_any (g : Nat) (l : Lk) (T : List (ByteArray × Dv)) (ps : List Un) (pa : Option Addr) (pc : Nat) (w : World) (h : Lnk w g l T) (hP : RdP w pa ps) (hz : ∀ x ∈ ps, x.1.size ≤ maxLen) (hTz : ∀ p ∈ T, p.1.size ≤ maxLen) (hT : T.length ≤ 100000000) (hpl : ps.length ≤ 100000000) :
    Calls Try.prog 14 #[.pointer (some ⟨g, 0, none⟩), .slice pa ps.length pc] w fun e w' => ∃ v, e = .returned v ∧ ResP w w' l.rc T ps v := by
  obtain ⟨V0, hV0⟩ : ∃ V0, w.alloc (.map #[] 0) = V0 := ⟨_, rfl⟩
  have HL := hide h
  have HP := hide hP
  have HZ := hide hz
  have HTl := hide hT
  have HTz := hide hTz
  have HPl := hide hpl
  have HM0 : Hid (TbI V0 w.heap.size []) := hV0 ▸ TbI.made w
  have HB0 : Hid (Below w.heap.size w V0) := hV0 ▸ bel1 (Below.refl _ _) (Nat.le_refl _) _
  have hlt0 : w.heap.size < V0.heap.size := by rw [← hV0]; simp
  have HV0 := hide hV0
  clear h hP hz hT hTz hV0
  have hmm := @run_makeMap Try.prog
  go_enter Try.func14, Try.ntmps14
  go_wp2_with (first | (rw [HV0.out]))
  go_loopw [20] (fun u wr => ∃ (i : Nat) (M : List (ByteArray × Int)), u = .int .i64 i ∧ i ≤ ps.length ∧ TbI wr w.heap.size M ∧ Hid (Says M (fun t => hasK (ps.take i) t) (resF l.rc T ps)) ∧ Below w.heap.size w wr ∧ w.heap.size < wr.heap.size) (fun u _ => ps.length + 1 - (intOf u).toNat)
  case atStart => exact ⟨0, [], rfl, by omega, HM0.out, fun t => ⟨rfl, fun h => by cases h⟩, HB0.out, hlt0⟩
  case round =>
    clear HM0 HB0 hlt0
    obtain ⟨i, M, rfl, hi, hTb, HSa, hb, hlt⟩ := hrel
    have HTb := hide hTb
    have HB := hide hb
    clear hTb hb
    by_cases hil : i < ps.length
    · obtain ⟨b, off, rfl, hbl, hrg⟩ := (HP.out.below HB.out) i hil
      obtain ⟨x, hx⟩ : ∃ x, ps[i] = x := ⟨_, rfl⟩
      rw [hx] at hrg
      have HX := hide hx
      have HZx : Hid (x.1.size ≤ maxLen) := HZ.out x (hx ▸ List.getElem_mem hil)
      have HRg := hide hrg
      obtain ⟨V, hV⟩ : ∃ V, wr.alloc (.cells x.enc.toArray 70) = V := ⟨_, rfl⟩
      have hbV : Below wr.heap.size wr V := hV ▸ bel1 (Below.refl _ _) (Nat.le_refl _) _
      have b0 : V.heap[wr.heap.size]? = some (.cells x.enc.toArray 70 (0, 0)) := hV ▸ heap_alloc_last wr _
      have c0 : V.cell? ⟨wr.heap.size, 0, none⟩ = some (.string x.1) := cellOf b0 0 (.string x.1) rfl
      have hlv : wr.heap.size < V.heap.size := (Array.getElem?_eq_some_iff.1 b0).1
      have HTV : Hid (TbI V w.heap.size M) := HTb.out.at (hbV.block _ hlt)
      have HBV : Hid (Below w.heap.size w V) := HB.out.trans (hbV.mono HB.out.size)
      have Hb0 := hide b0
      have HV := hide hV
      clear hx hrg hV hbV b0
      cases hh : hasK M x.1 with
      | true =>
        have HH := hide hh
        have HN : Hid (Says M (fun t => hasK (ps.take (i + 1)) t) (resF l.rc T ps)) := HSa.out.cast fun t => by
          rw [hasK_take ps i hil, HX.out]
          by_cases e : t = x.1
          · subst e
            have h1 := (HSa.out x.1).1
            rw [HH.out] at h1
            simp [← h1]
          · simp [e]
        clear hh HSa
        go_wp2_with (first | (refine wpList_load_mid rfl 70 (.tmp 22) rfl b (off + i * 20) rfl x.enc _ HRg.out Try.underlying70 rfl Try.infoU1 ?_) | (refine wpList_store_row rfl 70 (.tmp 7) (.tmp 23) rfl wr.heap.size x.enc.toArray rfl rfl 70 _ (heap_alloc_last wr _) Try.infoU1 rfl (enc_one x) ?_; rw [World.setRow_alloc_new, HV.out]; refine Shut.out ?_))
        unfold Shut
        go_wp2_with (first | (at_lookup; refine look_I rfl _ _ rfl w.heap.size rfl x.1 rfl M HTV.out HZx.out ?_; rw [HH.out]; unfold iV))
        go_roundw
        case rel => exact ⟨i + 1, M, by go_num, by omega, HTV.out, HN, HBV.out, by omega⟩
        case measure => simp [intOf]; omega
      | false =>
        have HH := hide hh
        have HN : Hid (Says ((x.1, ofT l.rc (hasK T x.1) x.2.k) :: M.filter fun p => !decide (p.1 = x.1)) (fun t => hasK (ps.take (i + 1)) t) (resF l.rc T ps)) := by
          have h1 := (HSa.out x.1).1
          rw [HH.out] at h1
          have h2 : hasK (ps.take i) ps[i].1 = false := by rw [HX.out]; exact h1.symm
          have h3 := lu_first sw0 ps i hil h2
          rw [HX.out] at h3
          have h4 : hasK ps x.1 = true := has_of_mem (x := x.2) (HX.out ▸ List.getElem_mem hil)
          exact HSa.out.put (by unfold resF; rw [h4, if_pos rfl, h3]) (fun t => by rw [hasK_take ps i hil, HX.out])
        have HSa2 : Hid (M.length < maxLen) := by
          have h1 := HSa.out.len HTb.out.nodup T ps (fun t h => .inl (by
            have h2 := any_iff.1 h
            obtain ⟨p, hp, rfl⟩ := List.mem_map.1 h2
            exact any_iff.2 (List.mem_map_of_mem (f := (·.1)) (List.mem_of_mem_take hp))))
          have := HTl.out
          have := HPl.out
          show _ < _
          unfold maxLen
          omega
        clear hh HSa
        go_wp2_with (first | (refine wpList_load_mid rfl 70 (.tmp 22) rfl b (off + i * 20) rfl x.enc _ HRg.out Try.underlying70 rfl Try.infoU1 ?_) | (refine wpList_store_row rfl 70 (.tmp 7) (.tmp 23) rfl wr.heap.size x.enc.toArray rfl rfl 70 _ (heap_alloc_last wr _) Try.infoU1 rfl (enc_one x) ?_; rw [World.setRow_alloc_new, HV.out]; refine Shut.out ?_))
        unfold Shut
        go_wp2_with (first | (at_lookup; refine look_I rfl _ _ rfl w.heap.size rfl x.1 rfl M HTV.out HZx.out ?_; rw [HH.out]; unfold iV))
        have HS0 : Hid (V.drew.cell? ⟨wr.heap.size, 0, none⟩ = some (.string x.1) ∧ V.drew.heap[wr.heap.size]? = some (.cells x.enc.toArray 70 (0, 0))) := ⟨c0, Hb0.out⟩
        have HO := hide (there_any g l T x V.drew (HL.out.below (HBV.out.trans ((bel_drew V).mono HBV.out.size))) HZx.out)
        have HK : Hid (∀ w1, Below V.drew.heap.size V.drew w1 → (w1.cell? ⟨wr.heap.size, 0, none⟩ = some (.string x.1) ∧ w1.heap[wr.heap.size]? = some (.cells x.enc.toArray 70 (0, 0))) ∧ TbI w1 w.heap.size M ∧ Below w.heap.size w w1 ∧ w.heap.size < w1.heap.size ∧ wr.heap.size < w1.heap.size) := fun w1 hb => by
          have hs := hb.size
          change V.heap.size ≤ _ at hs
          have e := (hb.block wr.heap.size hlv).trans Hb0.out
          exact ⟨⟨cellOf e 0 (.string x.1) rfl, e⟩, HTV.out.at (hb.block _ (show w.heap.size < V.heap.size by omega)), (HBV.out.trans ((bel_drew V).mono HBV.out.size)).trans (hb.mono HBV.out.size), by omega, by omega⟩
        refine wp_region_held_drew (S := fun W => W.cell? ⟨wr.heap.size, 0, none⟩ = some (.string x.1) ∧ W.heap[wr.heap.size]? = some (.cells x.enc.toArray 70 (0, 0))) (by kernel_rfl) HS0.out (fun hHeld => ?_)
        refine take_do (i := 0) (d := 33) (v := ?_) rfl rfl (by kernel_rfl) (by kernel_rfl) (by kernel_rfl) (fun _ _ _ h => h) rfl ?_ (by assumption) ?_
        rotate_left
        · intro W hSw
          try dsimp only at hSw
          go_simp
          try with_reducible rfl
        try simp only [List.setIfInBounds_toArray, List.set_cons_zero, List.set_cons_succ]
        refine take_do (i := 1) (d := 34) (v := ?_) rfl rfl (by kernel_rfl) (by kernel_rfl) (by kernel_rfl) (fun _ _ _ h => h) rfl ?_ (by assumption) ?_
        rotate_left
        · intro W hSw
          try dsimp only at hSw
          go_simp
          try with_reducible rfl
        try simp only [List.setIfInBounds_toArray, List.set_cons_zero, List.set_cons_succ]
        refine take_do (i := 2) (d := 35) (v := ?_) rfl rfl (by kernel_rfl) (by kernel_rfl) (by kernel_rfl) (fun _ _ _ h => h) rfl ?_ (by assumption) ?_
        rotate_left
        · intro W hSw
          try dsimp only at hSw
          go_simp
          try with_reducible rfl
        try simp only [List.setIfInBounds_toArray, List.set_cons_zero, List.set_cons_succ]
        refine take_do (i := 3) (d := 36) (v := ?_) rfl rfl (by kernel_rfl) (by kernel_rfl) (by kernel_rfl) (fun _ _ _ h => h) rfl ?_ (by assumption) ?_
        rotate_left
        · intro W hSw
          try dsimp only at hSw
          go_simp
          try with_reducible rfl
        try simp only [List.setIfInBounds_toArray, List.set_cons_zero, List.set_cons_succ]
        refine take_do (i := 4) (d := 37) (v := .agg x.enc.toArray) rfl rfl (by kernel_rfl) (by kernel_rfl) (by kernel_rfl) (fun _ _ _ h => h) rfl ?_ (by assumption) ?_
        · intro W hSw
          exact row_run W _ 70 (.tmp 7) rfl wr.heap.size x.enc.toArray 70 (0, 0) rfl hSw.2 _ Try.underlying70 rfl Try.infoU1
        try simp only [List.setIfInBounds_toArray, List.set_cons_zero, List.set_cons_succ]
        refine wpAnyH_ready (rs := [5]) (by kernel_rfl) (by simp) ?_
        refine AllReadyH.cons rfl (fun K hK => ?_) AllReadyH.nil
        go_simp
        go_wp2_with (go_at_call 35; refine (HO.out).mono ?_; rintro e3 w3 ⟨rfl, hb3⟩)
        refine hK.out _ _ (HK.out w3 hb3).1 (fun hHeld => ?_)
        clear hK K
        try simp only [Act.put, List.setIfInBounds_toArray, List.set_cons_zero, List.set_cons_succ]
        have HK3 := hide (HK.out w3 hb3)
        have hml : M.length < maxLen := by
          have h1 := HSa2.out
          exact h1
        refine wpAnyH_ready (rs := [6]) (by kernel_rfl) (by simp) ?_
        refine AllReadyH.cons rfl (fun K hK => ?_) AllReadyH.nil
        rw [if_pos (by kernel_rfl)]
        refine wp_put_I (.tmp 33) (.tmp 35) (.tmp 38) rfl w.heap.size rfl x.1 (ofT l.rc (hasK T x.1) x.2.k) rfl rfl M HK3.out.2.1 HZx.out hml ?_
        intro w4 hT4 hK4 hS4
        have h44 : w4.cell? ⟨wr.heap.size, 0, none⟩ = some (.string x.1) ∧ w4.heap[wr.heap.size]? = some (.cells x.enc.toArray 70 (0, 0)) := by
          have e := (hK4.block HK3.out.2.2.2.2 (fun e => by omega)).trans HK3.out.1.2
          exact ⟨cellOf e 0 (.string x.1) rfl, e⟩
        refine hK.out _ _ h44 (fun hHeld => ?_)
        clear hK K
        refine wpAnyH_done (by kernel_rfl) ?_ _
        have HB4 : Hid (Below w.heap.size w w4) := ((Kp.ofBelow (S := fun k => k = w.heap.size) HK3.out.2.2.1).trans hK4).toBelow (Nat.le_refl _) (fun k hk e => by omega)
        have hl4 : w.heap.size < w4.heap.size := by rw [hS4]; exact HK3.out.2.2.2.1
        have HT4 := hide hT4
        clear hT4 hK4 hS4 h44 HK3 hb3 HO HK HS0
        go_wp2
        go_roundw
        case rel => exact ⟨i + 1, _, by go_num, by omega, HT4.out, HN, HB4.out, hl4⟩
        case measure => simp [intOf]; omega

    · have hie : i = ps.length := by omega
      subst hie
      obtain ⟨wo, hwo⟩ : ∃ wo, wo = wr := ⟨_, rfl⟩
      subst hwo
      have HS1 : Hid (Says M (fun t => hasK ps t) (resF l.rc T ps)) := HSa.out.cast fun t => by rw [List.take_length]
      have HLr : Hid (Lnk wo g l T) := HL.out.below HB.out
      obtain ⟨s0, s1, s2, s3, s4, s5, s6, s7, s8, s9, s10, s11⟩ := HLr.out.lb.facts
      have hlr := HLr.out.lb.lt
      have HDm : Hid (l.dm < w.heap.size) := HL.out.tb.lt
      clear HSa hil s0 s1 s2 s3 s4 s5 s6 s7 s8 s9 s10 hi
      go_wp2_with (first | (at_range; refine range_D rfl _ rfl l.dm rfl T HLr.out.tb ?_; intro w1 D hR hrg hg1 hs1))
      have HR := hide hR
      have HG0 := hide hrg
      have HB1 : Hid (Below w.heap.size w w1) := HB.out.grown hg1 (by omega) (fun k hk => by cases hk)
      have HT1 : Hid (TbI w1 w.heap.size M) := HTb.out.at (hg1.block _ hlt (by simp))
      have HS2 : Hid (Says M (fun t => hasK ps t || (hasK T t && !(Maps.has D (.string t.data.toList)))) (resF l.rc T ps)) := HS1.out.cast fun t => by
        rw [HR.out.has]
        show _ = hasK ps t
        have : T.any (fun p => decide (p.1 = t)) = hasK T t := rfl
        rw [this]
        cases hasK T t <;> simp
      have hw1 : wo.heap.size < w1.heap.size := by omega
      clear hR hrg hg1 hs1 HS1 s11 HTb
      go_frame
      go_loopw [10] (fun v w2 => ∃ left cnt N, w2.ranges Try.prog 9 rH l.dm wo.heap.size T.length D left cnt ∧ TbI w2 w.heap.size N ∧ Hid (Says N (fun t => hasK ps t || (hasK T t && !(left (.string t.data.toList)))) (resF l.rc T ps)) ∧ Below w.heap.size w w2 ∧ wo.heap.size < w2.heap.size) (fun _ w2 => w2.rangeLeft l.dm wo.heap.size)
      case atStart => exact ⟨_, _, M, HG0.out, HT1.out, HS2, HB1.out, hw1⟩
      case round =>
        clear HG0 HT1 HS2 HB1 hw1
        obtain ⟨left, cnt, N, hrg, hTb, HSN, hb, hlt2⟩ := hrel
        have HRg := hide hrg
        have HTb := hide hTb
        have HB := hide hb
        have hme := hrg.left_eq
        clear hrg hTb hb
        go_wp2_with (at_next; go_loud (refine next_D rfl _ rfl l.dm wo.heap.size T.length D T left cnt rfl HR.out HRg.out ?_ ?_))
        · intro hl0
          have HSF : Hid (Says N (fun t => hasK ps t || hasK T t) (resF l.rc T ps)) := HSN.out.cast fun t => by rw [hl0]; simp
          obtain ⟨wz, hwz⟩ : ∃ wz, wz = wr := ⟨_, rfl⟩
          subst hwz
          obtain ⟨n, hn⟩ : ∃ n, n = N.length := ⟨_, rfl⟩
          have HN := hide hn
          have HNl : Hid (N.length ≤ 200000000) := by
            have h1 := HSF.out.len HTb.out.nodup T ps (fun t h => by rw [Bool.or_eq_true] at h; exact h)
            have := HTl.out
            have := HPl.out
            show _ ≤ _
            omega
          have hnb : (n : Int) ≤ 1000000000 := by have := HNl.out; omega
          obtain ⟨cur, hmk, hcs⟩ := run_makeR n (by have := HNl.out; omega) wz
          have HCs := hide hcs
          have HT1 : Hid (∀ o, TbI (wz.alloc o) w.heap.size N) := fun o => HTb.out.at (Below.heap_alloc wz o _ (by omega))
          clear hl0 hn hcs HSN HRg hme HR
          go_wp2_with (first | (at_len; refine len_I rfl _ rfl w.heap.size rfl N HTb.out ?_; rw [← HN.out]) | (at_range; refine range_I rfl _ rfl w.heap.size rfl N (HT1.out _) ?_; intro w1 D2 hR hrg hg1 hs1))
          have hsa : (wz.alloc (.cells cur 64)).heap.size = wz.heap.size + 1 := by simp
          rw [hsa] at hrg hs1
          have HR := hide hR
          have HG0 := hide hrg
          have HB1 : Hid (Below wz.heap.size wz w1) := (bel1 (Below.refl _ _) (Nat.le_refl _) _).grown hg1 (by simp) (fun k hk => by cases hk)
          have HW1 : Hid (Wy rsK w1 wz.heap.size (.slice (some ⟨wz.heap.size, 0, none⟩) 0 n) []) := by
            refine .inr ⟨wz.heap.size, 0, n, cur, rfl, Nat.le_refl _, Nat.zero_le _, by have := HNl.out; have := HN.out; unfold maxLen; omega, (hg1.block _ (by simp) (by simp)).trans (heap_alloc_last wz _), by have := HCs.out; show 0 + n * 2 ≤ _; omega, fun j u hu => by simp at hu⟩
          have hw1 : wz.heap.size + 1 < w1.heap.size := by omega
          clear hR hrg hg1 hs1 hmk HT1
          go_frame
          rw [hsa]
          clear hsa
          go_loopw [14] (fun v w2 => ∃ left cnt W, w2.ranges Try.prog 9 rH w.heap.size (wz.heap.size + 1) N.length D2 left cnt ∧ Wy rsK w2 wz.heap.size v W ∧ (∃ a m c, v = .slice (some a) m c) ∧ Hid (W.Perm (rsB N left)) ∧ Hid (∀ k, v.ownBlock = some k → k ≠ wz.heap.size + 1) ∧ Below wz.heap.size wz w2 ∧ wz.heap.size + 1 < w2.heap.size) (fun _ w2 => w2.rangeLeft w.heap.size (wz.heap.size + 1))
          case atStart => exact ⟨_, _, [], HG0.out, HW1.out, ⟨_, _, _, rfl⟩, by rw [rsB_start HR.out]; exact .refl _, fun k e => by cases e; exact Nat.ne_of_lt (Nat.lt_succ_self _), HB1.out, hw1⟩
          case round =>
            clear HG0 HB1 HW1 hw1
            obtain ⟨left, cnt, W, hrg, hwy, ⟨va, vm, vc, rfl⟩, hp, hno, hb, hlt9⟩ := hrel
            have HRg := hide hrg
            have HWy := hide hwy
            have HBz := hide hb
            clear hrg hwy hb
            go_wp2_with (at_next; go_loud (refine next_I rfl _ rfl w.heap.size (wz.heap.size + 1) N.length D2 N left cnt rfl HR.out HRg.out ?_ ?_))
            · intro hl0
              rcases HWy.out with ⟨e', _⟩ | ⟨gb, off, cap, cu, e', h1, h2, h3, h4, h5, h6⟩
              · cases e'
              · cases e'
                have HS := hide (sortr_any W gb off vc cu wr h4 h6 (by have := hp.out.length_eq; have := rsB_len N left; have := HNl.out; omega))
                have hpe : W.Perm N := by
                  have e := rsB_done (L := N) hl0
                  rw [show N.map rsOf = N from List.map_id N] at e
                  have h9 := hp.out
                  rw [e] at h9
                  exact h9
                have HPe := hide hpe
                have Hh1 := hide h1
                have HNd := hide HTb.out.nodup
                clear hpe hp h1 h2 h3 h4 h5 h6
                go_wp2_with fail
                refine HS.out.mono ?_
                rintro e2 w2 ⟨rfl, ks, hkp, hso, hrd, hbut⟩
                have HKp := hide hkp
                have HSo := hide hso
                have HRd := hide hrd
                have HBu := hide hbut
                clear hkp hso hrd hbut HS
                go_wp2
                go_ret
                have hbz : Below wz.heap.size wz w2 := HBu.out.below HBz.out Hh1.out HBz.out.size
                refine ⟨_, rfl, some ⟨gb, off, none⟩, vc, ks, N, ?_, HKp.out.trans HPe.out, HNd.out, HSF.out, fun i j hi hj hij => HSo.out i j hi hj hij, fun j hj => ⟨gb, off, rfl, HRd.out j hj⟩, HB.out.trans (hbz.mono HB.out.size)⟩
                show Value.slice (some ⟨gb, off, none⟩) W.length vc = _
                rw [HKp.out.length_eq]
            · intro x v w1 cnt1 hm hlx hrg1 hlt1 hg1 hs1 hen
              have HS1 := hide hs1
              have hst := hide (rsB_step HR.out hm hlx)
              have hw1 : wz.heap.size + 1 < w1.heap.size := by omega
              have HB1' : Hid (Below wz.heap.size wz w1) := HBz.out.grown hg1 (by omega) (fun k hk => by cases hk; omega)
              have HWy1 : Hid (Wy rsK w1 wz.heap.size (.slice (some va) vm vc) W) := HWy.out.at fun k hk => hg1.block k (HWy.out.lt hk).2 (fun e => by cases e; exact hno.out _ hk rfl)
              have HR1 : Hid (w1.ranges Try.prog 9 rH w.heap.size (wz.heap.size + 1) N.length D2 (fun z => left z && !z.sameKey (.string x.data.toList)) cnt1) := hrg1
              have hdv : iV v = .int .i64 v := rfl
              rw [hdv] at hen ⊢
              have HWy2 : Hid (Wy rsK (w1.alloc (.cells ⟨Rs.enc (x, v)⟩ 64)) wz.heap.size (.slice (some va) vm vc) W) := HWy1.out.at fun k hk => Below.heap_alloc w1 _ _ (HWy1.out.lt hk).2
              have HWl : Hid (W.length ≤ 1000000000) := by show _ ≤ _; have := hp.out.length_eq; have := rsB_len N left; have := HNl.out; omega
              clear hm hrg1 hg1 hs1 hlx hdv
              go_wp2_with (first | (refine wpList_buildTo rfl 64 _ rfl (some 76) rfl ⟨Rs.enc (x, v)⟩ (by kernel_rfl) ?_) | (refine wpList_build_one rsOk rfl (.tmp 76) rfl (x, v) rfl ?_) | (at_builtin; refine wpList_append_way rsOk _ rfl (.tmp 73) (.tmp 77) rfl wz.heap.size (.slice (some va) vm vc) W (x, v) rfl HWy2.out w1.heap.size 1 rfl (heap_alloc_last w1 _) (by simp; omega) HWl.out ?_; intro v' w3 ho hg hat; refine Shut.out ?_))
              clear hen
              have h3b : ∃ a m c, v' = .slice (some a) m c := by
                rcases ho with ⟨_, e⟩ | ⟨gb, off, cap, cu, rfl, _⟩
                · simp at e
                · exact ⟨_, _, _, rfl⟩
              obtain ⟨va', vm', vc', rfl⟩ := h3b
              have HHo := hide ho
              have hs2 : (w1.alloc (.cells ⟨Rs.enc (x, v)⟩ 64)).heap.size = w1.heap.size + 1 := by simp
              have HG3 : Hid (w1.heap.size < w3.heap.size) := by show _ < _; have h9 := hg.size; change (w1.alloc (.cells ⟨Rs.enc (x, v)⟩ 64)).heap.size ≤ _ at h9; omega
              have hbA : Below w1.heap.size w1 (w1.alloc (.cells ⟨Rs.enc (x, v)⟩ 64)) := bel1 (Below.refl _ _) (Nat.le_refl _) _
              have HB3 : Hid (Below wz.heap.size wz w3) := (bel1 HB1'.out (by omega) _).grown hg (by show _ ≤ (w1.alloc (.cells ⟨Rs.enc (x, v)⟩ 64)).heap.size; omega) (fun k hk => (HWy1.out.lt hk).1)
              have HR3 : Hid (w3.ranges Try.prog 9 rH w.heap.size (wz.heap.size + 1) N.length D2 (fun z => left z && !z.sameKey (.string x.data.toList)) cnt1) := (HR1.out.kept (row := none) ⟨hbA.os, hbA.tape, hbA.output, hbA.size, fun k hk _ => hbA.block k hk⟩ (by simp) (by simp)).kept hg (fun e => by have := (HWy1.out.lt e.symm).1; omega) (fun e => hno.out _ e.symm rfl)
              have HNo : Hid (∀ k, (Value.slice (some va') vm' vc').ownBlock = some k → k ≠ wz.heap.size + 1) := fun k e => by
                rcases hat k e with e | e
                · exact hno.out k e
                · change (w1.alloc (.cells ⟨Rs.enc (x, v)⟩ 64)).heap.size ≤ k at e
                  omega
              clear ho hg hat hs2 hbA
              unfold Shut
              go_wp2
              go_roundw
              case rel => exact ⟨_, cnt1, W ++ [(x, v)], HR3.out, HHo.out, ⟨_, _, _, rfl⟩, (hp.out.append_right _).trans hst.out.symm, HNo.out, HB3.out, by have := HG3.out; omega⟩
              case measure => rw [HR3.out.left_eq, HRg.out.left_eq]; exact hlt1
        · intro x a q w3 cnt3 hm hlx hrg3 hlt3 hg3 hs3 hen
          have HZx : Hid (x.size ≤ maxLen) := HTz.out _ hm
          have hlu : lu dv0 T x = (a, q) := lu_of_mem dv0 HR.out.1 hm
          have hhT : hasK T x = true := has_of_mem hm
          have HB3 : Hid (Below w.heap.size w w3) := HB.out.grown hg3 (by omega) (fun k hk => by cases hk; omega)
          have HT3 : Hid (TbI w3 w.heap.size N) := HTb.out.at (hg3.block _ (by omega) (fun e => by have := Option.some.inj e; omega))
          have HR3 : Hid (w3.ranges Try.prog 9 rH l.dm wo.heap.size T.length D (fun z => left z && !z.sameKey (.string x.data.toList)) cnt3) := hrg3
          obtain ⟨V, hV⟩ : ∃ V, w3.alloc (.cells (dvA (a, q)) 89) = V := ⟨_, rfl⟩
          have hbV : Below w3.heap.size w3 V := hV ▸ bel1 (Below.refl _ _) (Nat.le_refl _) _
          have b0 : V.heap[w3.heap.size]? = some (.cells (dvA (a, q)) 89 (0, 0)) := hV ▸ heap_alloc_last w3 _
          have hlv : w3.heap.size < V.heap.size := (Array.getElem?_eq_some_iff.1 b0).1
          have HTV : Hid (TbI V w.heap.size N) := HT3.out.at (hbV.block _ (by omega))
          have HBV : Hid (Below w.heap.size w V) := HB3.out.trans (hbV.mono HB3.out.size)
          have HRV : Hid (V.ranges Try.prog 9 rH l.dm wo.heap.size T.length D (fun z => left z && !z.sameKey (.string x.data.toList)) cnt3) := HR3.out.kept (row := none) ⟨hbV.os, hbV.tape, hbV.output, hbV.size, fun k hk _ => hbV.block k hk⟩ (by simp) (by simp)
          have Hb0 := hide b0
          have HV := hide hV
          have HhN : Hid (hasK N x = hasK ps x) := by
            have h1 := (HSN.out x).1
            simp only [hlx, hhT] at h1
            show _ = _
            simpa using h1
          have HSt : Hid (∀ t, t ≠ x → (fun z => left z && !z.sameKey (.string x.data.toList)) (Lit.string t.data.toList) = left (.string t.data.toList)) := fun t ht => by
            simp only [lit_same]
            simp [ht]
          have hdv : dvV (a, q) = .agg (dvA (a, q)) := rfl
          rw [hdv] at hen ⊢
          have hlen3 : wo.heap.size < w3.heap.size := by omega
          clear hm hlx hrg3 hg3 hs3 hV hbV b0 hdv HRg HTb
          cases hh : hasK N x with
          | true =>
            have HH := hide hh
            have HN : Hid (Says N (fun t => hasK ps t || (hasK T t && !((fun z => left z && !z.sameKey (.string x.data.toList)) (Lit.string t.data.toList)))) (resF l.rc T ps)) := HSN.out.cast fun t => by
              by_cases e : t = x
              · subst e
                have h1 := HhN.out
                rw [HH.out] at h1
                simp [← h1]
              · simp only [HSt.out t e]
            clear hh HSN HSt HhN
            go_wp2_with (first | (refine wpList_store_row rfl 89 (.tmp 11) (.tmp 49) rfl w3.heap.size (dvA (a, q)) rfl rfl 89 _ (heap_alloc_last w3 _) (Dv.sz _) rfl (Dv.one _) ?_; rw [World.setRow_alloc_new, HV.out]; refine Shut.out ?_))
            unfold Shut
            clear hen
            go_wp2_with (first | (at_lookup; refine look_I rfl _ _ rfl w.heap.size rfl x rfl N HTV.out HZx.out ?_; rw [HH.out]; unfold iV))
            go_roundw
            case rel => exact ⟨_, cnt3, N, HRV.out, HTV.out, HN, HBV.out, by omega⟩
            case measure => rw [HRV.out.left_eq, hme]; exact hlt3
          | false =>
            have HH := hide hh
            have HN : Hid (Says ((x, ofH l.rc q.k) :: N.filter fun p => !decide (p.1 = x)) (fun t => hasK ps t || (hasK T t && !((fun z => left z && !z.sameKey (.string x.data.toList)) (Lit.string t.data.toList)))) (resF l.rc T ps)) := HSN.out.put (by
                have h1 := HhN.out
                rw [HH.out] at h1
                unfold resF
                rw [← h1, if_neg (by simp), hlu]) (fun t => by
                by_cases e : t = x
                · subst e
                  simp [hhT, lit_same]
                · simp only [HSt.out t e]
                  simp [e])
            have HNl : Hid (N.length < maxLen) := by
              have h1 := HSN.out.len HT3.out.nodup T ps (fun t h => by
                rw [Bool.or_eq_true, Bool.and_eq_true] at h
                exact h.imp id (fun h => h.1))
              have := HTl.out
              have := HPl.out
              show _ < _
              unfold maxLen
              omega
            have HO := hide (here_any g l T (a, q) V (HL.out.below HBV.out))
            clear hh HSN HSt HhN
            go_wp2_with (first | (refine wpList_store_row rfl 89 (.tmp 11) (.tmp 49) rfl w3.heap.size (dvA (a, q)) rfl rfl 89 _ (heap_alloc_last w3 _) (Dv.sz _) rfl (Dv.one _) ?_; rw [World.setRow_alloc_new, HV.out]; refine Shut.out ?_))
            unfold Shut
            clear hen
            go_wp2_with (first | (at_lookup; refine look_I rfl _ _ rfl w.heap.size rfl x rfl N HTV.out HZx.out ?_; rw [HH.out]; unfold iV) | (refine wpList_load_row rfl 89 (.tmp 11) rfl w3.heap.size rfl 89 (dvA (a, q)) (0, 0) _ Hb0.out Try.underlying89 rfl (Dv.sz _) ?_) | (go_at_call 36; refine HO.out.mono ?_; rintro e4 w4 ⟨rfl, hb4⟩; refine Shut.out ?_))
            unfold Shut
            have HT4 : Hid (TbI w4 w.heap.size N) := HTV.out.at (hb4.block _ (by omega))
            have HB4 : Hid (Below w.heap.size w w4) := HBV.out.trans (hb4.mono HBV.out.size)
            have HR4 : Hid (w4.ranges Try.prog 9 rH l.dm wo.heap.size T.length D (fun z => left z && !z.sameKey (.string x.data.toList)) cnt3) := HRV.out.kept (row := none) ⟨hb4.os, hb4.tape, hb4.output, hb4.size, fun k hk _ => hb4.block k hk⟩ (by simp) (by simp)
            have hl4 : wo.heap.size < w4.heap.size := by have := hb4.size; omega
            clear hb4 HO
            go_wp2_with (refine put_I rfl _ _ _ rfl w.heap.size rfl x (ofH l.rc q.k) rfl rfl N HT4.out HZx.out HNl.out ?_; intro w5 hT5 hK5 hS5; refine Shut.out ?_)
            unfold Shut
            have HT5 := hide hT5
            have HB5 : Hid (Below w.heap.size w w5) := ((Kp.ofBelow (S := fun k => k = w.heap.size) HB4.out).trans hK5).toBelow (Nat.le_refl _) (fun k hk e => by omega)
            have HR5 : Hid (w5.ranges Try.prog 9 rH l.dm wo.heap.size T.length D (fun z => left z && !z.sameKey (.string x.data.toList)) cnt3) := HR4.out.kept (row := some w.heap.size) ⟨hK5.1, hK5.2.1, hK5.2.2.1, hK5.2.2.2.1, fun k hk hne => hK5.block hk (fun e => hne (by rw [e]))⟩ (fun e => by have := Option.some.inj e; have := HDm.out; omega) (fun e => by have := Option.some.inj e; omega)
            have hl5 : wo.heap.size < w5.heap.size := by omega
            clear hT5 hK5 hS5
            go_wp2
            go_roundw
            case rel => exact ⟨_, cnt3, _, HR5.out, HT5.out, HN, HB5.out, hl5⟩
            case measure => rw [HR5.out.left_eq, hme]; exact hlt3
end Go.Proofs.Ytknkmamjdmadcaa.G
