
/- SessionHandles: the walk. -/
import Derived.Test.YtondbhdlccpklaaQHdT
namespace Go.Proofs.Ytondbhdlccpklaa
open Go.RowKit Go.Maps
set_option linter.unusedVariables false
set_option linter.unusedSimpArgs false

set_option maxRecDepth 100000 in
set_option maxHeartbeats 8000000 in
theorem handles_in (a : Option Addr) (n c : Nat) (zs : List Int) (most : Int) (w : World) (hz : Ri w a n zs) (hwf : ∀ j, j < n → wf64 (zs.getD j 0)) (hn20 : n ≤ 1048576) (hmm : 0 ≤ most ∧ most ≤ 4294967295) :
    Calls Try.prog 8 #[.slice a n c, .int .i64 most] w fun e w' => e = .returned (.bool true) ∧ Below w.heap.size w w' := by
  have HZ := hide hz
  have HWf := hide hwf
  clear hz hwf
  go_enter Try.func8, Try.ntmps8
  go_wp2_with fail
  refine (live_any w).mono ?_
  rintro e1 w1 ⟨rfl, hb1⟩
  have HB1 := hide hb1
  clear hb1
  go_wp2_with fail
  refine (first_any w1).mono ?_
  rintro e2 w2 ⟨rfl, hb2⟩
  obtain ⟨V2, hV2⟩ : ∃ V2, w2.alloc (.cells pf0 39) = V2 := ⟨_, rfl⟩
  have HV2 := hide hV2
  have HP2 : Hid (V2.heap[w2.heap.size]? = some (.cells (pq 1) 39 (0, 0))) := hV2 ▸ heap_alloc_last w2 _
  have HB2 : Hid (Below w.heap.size w V2) := hV2 ▸ bel1 (belOn HB1.out HB1.out.size hb2) (by have := HB1.out.size; have := hb2.size; omega) _
  have hw2 : w.heap.size ≤ w2.heap.size := by have := HB1.out.size; have := hb2.size; omega
  clear hV2 hb2
  go_wp2_with (refine wpList_store_row rfl 39 (.tmp 6) (.tmp 27) rfl w2.heap.size pf0 rfl rfl 39 _ (heap_alloc_last w2 _) Try.infoPf (pfZ ..) (pfA_one ..) ?_; rw [World.setRow_alloc_new, HV2.out])
  refine (first_any V2).mono ?_
  rintro e3 w3 ⟨rfl, hb3⟩
  obtain ⟨V3, hV3⟩ : ∃ V3, w3.alloc (.cells pf0 39) = V3 := ⟨_, rfl⟩
  have HV3 := hide hV3
  have hl2 : w2.heap.size < V2.heap.size := (Array.getElem?_eq_some_iff.1 HP2.out).1
  have hb3' : Below V2.heap.size V2 V3 := hV3 ▸ bel1 hb3 hb3.size _
  have hq3 : V3.heap[w3.heap.size]? = some (.cells (pq 1) 39 (0, 0)) := hV3 ▸ heap_alloc_last w3 _
  have hp3 : V3.heap[w2.heap.size]? = some (.cells (pq 1) 39 (0, 0)) := (hb3'.block _ hl2).trans HP2.out
  have HB3 : Hid (Below w.heap.size w V3) := belOn HB2.out HB2.out.size hb3'
  have hne : w2.heap.size ≠ w3.heap.size := by have := hb3.size; omega
  have hw3 : w.heap.size ≤ w3.heap.size := by have := HB2.out.size; have := hb3.size; omega
  have HP3 := hide hp3
  have HQ3 := hide hq3
  clear hV3 hb3 hb3' hl2 HB2 HB1 HP2
  have pc := pq_cell hp3
  have pf := pq_frozen hp3
  have qc := pq_cell hq3
  have qf := pq_frozen hq3
  have pl := (Array.getElem?_eq_some_iff.1 hp3).1
  have ql := (Array.getElem?_eq_some_iff.1 hq3).1
  clear hp3 hq3
  have hm1 := hmm.1
  have hm2 := hmm.2
  obtain ⟨X, hX⟩ : ∃ X, (V3.setCell ⟨w3.heap.size, 16, none⟩ (.int .i64 most)).setCell ⟨w2.heap.size, 16, none⟩ (.int .i64 100) = X := ⟨_, rfl⟩
  have HX := hide hX
  have HPX : Hid (X.heap[w2.heap.size]? = some (.cells (pq 100) 39 (0, 0))) := by
    show _ = _
    rw [← hX]
    exact pq_set (m := 1) ((blk_set_other _ _ _ _ hne).trans HP3.out)
  have HQX : Hid (X.heap[w3.heap.size]? = some (.cells (pq most) 39 (0, 0))) := by
    show _ = _
    rw [← hX, blk_set_other _ _ _ _ (fun e => hne e.symm)]
    exact pq_set HQ3.out
  have HBX : Hid (Below w.heap.size w X) := by
    show Below _ _ _
    rw [← hX]
    exact (HB3.out.setCell (p := ⟨w3.heap.size, 16, none⟩) hw3 _).setCell (p := ⟨w2.heap.size, 16, none⟩) hw2 _
  clear hX
  go_wp2_with (first | (refine wpList_store_row rfl 39 (.tmp 7) (.tmp 28) rfl w3.heap.size pf0 rfl rfl 39 _ (heap_alloc_last w3 _) Try.infoPf (pfZ ..) (pfA_one ..) ?_; rw [World.setRow_alloc_new, HV3.out]) | (rw [HX.out]; refine wpList_load_row rfl 39 (.tmp 6) rfl w2.heap.size rfl 39 (pq 100) (0, 0) _ HPX.out Try.underlying39 rfl (pq_size 100) ?_))
  refine (new_yes (pq 100) 17 0 2 5 10 100 (pq_pf 100) (pq_four (by omega)) X).mono ?_
  rintro e4 w4 ⟨k, rfl, hk, hses, hb4⟩
  have HS4 := hide hses
  have HQ4 : Hid (w4.heap[w3.heap.size]? = some (.cells (pq most) 39 (0, 0))) := (hb4.block _ (Array.getElem?_eq_some_iff.1 HQX.out).1).trans HQX.out
  have HB4 : Hid (Below w.heap.size w w4) := belOn HBX.out HBX.out.size hb4
  have hkq : w3.heap.size < k := by have := (Array.getElem?_eq_some_iff.1 HQX.out).1; omega
  have hkw : w.heap.size ≤ k := by omega
  clear hses hb4 hk
  go_wp2_with (refine wpList_load_row rfl 39 (.tmp 7) rfl w3.heap.size rfl 39 (pq most) (0, 0) _ HQ4.out Try.underlying39 rfl (pq_size most) ?_)
  refine (peer_yes (k + 4) (newSn 2 5 10 100 k) (pq most) 17 0 2 5 10 most w4 HS4.out.sb rfl (pq_pf most) (pq_four hmm)).mono ?_
  rintro e5 w5 ⟨rfl, sb5, k5⟩
  have HS5 : Hid (Ses w5 (k + 4) (sH k most) [] [] [] []) := HS4.out.turn sb5 ⟨rfl, rfl, rfl, rfl⟩ k5
  have HB5 : Hid (Below w.heap.size w w5) := kpNew HB4.out HB4.out.size k5 (fun q hq => by omega)
  have HQ5 : Hid (w5.cell? ⟨w3.heap.size, 16, none⟩ = some (.int .i64 most)) := (k5.cell (Array.getElem?_eq_some_iff.1 HQ4.out).1 (by omega)).trans (pq_cell HQ4.out)
  clear sb5 k5 HS4 HQ4 HB4
  have hmk := make65
  obtain ⟨W6, hW6⟩ : ∃ W6, w5.alloc (.cells (Array.replicate 65 (.bool false)) 4) = W6 := ⟨_, rfl⟩
  have HW6 := hide hW6
  have h56 : Below w5.heap.size w5 W6 := hW6 ▸ bel1 (Below.refl _ _) (Nat.le_refl _) _
  have hub : UB W6 w5.heap.size [] := hW6 ▸ UB.made w5
  have h5k : k + 4 < w5.heap.size := HS5.out.sb.lt
  have HI : Hid (Hs w k w5.heap.size w3.heap.size most 0 [] [] [] W6) := ⟨HS5.out.below h56, hub, (h56.cell (p := ⟨w3.heap.size, 16, none⟩) (show w3.heap.size < w5.heap.size by omega)).trans HQ5.out, hkq, h5k, belOn HB5.out HB5.out.size h56, hkw, HD.start⟩
  clear hW6 h56 hub HS5 HB5 HQ5
  go_wp2
  rw [HW6.out]
  obtain ⟨u, hu⟩ : ∃ u, u = w5.heap.size := ⟨_, rfl⟩
  rw [← hu] at HI ⊢
  clear hmk HW6 h5k hu
  go_loopw [11, 12] (fun ct i wr => ∃ (j : Nat) (H R : List (Int × Int)) (C : List (Int × Pd)), i = .int .i64 j ∧ ct = .int .i64 (H.length : Int) ∧ j ≤ n ∧ Hs w k u w3.heap.size most j H R C wr) (fun _ i _ => n - (intOf i).toNat)
  case atStart => exact ⟨0, [], [], [], rfl, rfl, Nat.zero_le _, HI.out⟩
  case round =>
    obtain ⟨j, H, R, C, rfl, rfl, hj, hhs⟩ := hrel
    have HH := hide hhs
    clear hhs HI
    by_cases hjn : j < n
    · obtain ⟨b, off, ea, hbl, hcell⟩ := HZ.out (by omega)
      subst ea
      have hc0 := hcell j hjn
      rw [← HH.out.be.cell (p := ⟨b, off + j, none⟩) hbl] at hc0
      obtain ⟨x0, hx0⟩ : ∃ x0, x0 = zs.getD j 0 := ⟨_, rfl⟩
      rw [← hx0] at hc0
      have hblr : b < wr.heap.size := by have := HH.out.be.size; omega
      have hjb : (j : Int) ≤ 1048576 := by omega
      clear hcell hx0
      by_cases hx1 : 0 ≤ x0 ∧ x0 < 64
      · obtain ⟨kk, rfl⟩ : ∃ kk : Nat, x0 = (kk : Int) := ⟨x0.toNat, by omega⟩
        have hkk : kk < 64 := by omega
        have hk0 : (0 : Int) ≤ (kk : Int) := by omega
        have hk64 : (kk : Int) < 64 := by omega
        clear hx1
        cases HK : hasK H (kk : Int)
        · have huc := HH.out.ub.cell kk (by omega)
          rw [HK] at huc
          have HF := hide (HH.out.free kk hkk)
          rw [HK] at HF
          have hul := HH.out.ub.lt
          have hclb : (H.length : Int) ≤ 1048576 := by have := HH.out.hd.lh; omega
          have HQL := hide HH.out.ql
          have HUL := hide HH.out.ul
          have HNW := hide HH.out.nw
          go_wp2_with fail
          refine HF.out.mono ?_
          rintro e7 w7 ⟨H', R', C', rfl, hfr⟩
          have HFr := hide hfr
          have huc7 := hfr.ub.cell kk (by omega)
          have huf7 := hfr.ub.frozen kk
          have hul7 := hfr.ub.lt
          rw [HK] at huc7
          have HLen := hide hfr.len
          rw [HK] at HLen
          obtain ⟨W8, hW8⟩ : ∃ W8, w7.setCell ⟨u, kk, none⟩ (.bool false) = W8 := ⟨_, rfl⟩
          have HW8 := hide hW8
          have HH8 : Hid (Hs w k u w3.heap.size most (j + 1) H' R' C' W8) := hW8 ▸ hfr.note hkk HQL.out HUL.out HNW.out
          have HLo := hide (local_any (k + 4) (sH k most) R' ((kk : Int) + 10) W8 HH8.out.ses.sb HH8.out.ses.tr (wf_of (by omega) (by omega)))
          rw [HH8.out.hd.noR hfr.gone] at HLo
          have HRg := hide (range_any (k + 4) (sH k most) false C' 0 2147483647 W8 HH8.out.ses.sb HH8.out.ses.tc (HH8.out.wd (by omega)) (by have := HH8.out.hd.lc; omega))
          have HTo : Hid (∀ p ∈ rangeL C' 0 2147483647, p.2.1 ≠ (kk : Int)) := HH8.out.hd.told (HH8.out.wd (by omega)) hfr.gone (by omega)
          have hRl := rangeL_len C' 0 2147483647
          have hCl : C'.length ≤ 1048576 := by have := HH8.out.hd.lc; omega
          obtain ⟨A, hA⟩ : ∃ A, A = rangeL C' 0 2147483647 := ⟨_, rfl⟩
          rw [← hA] at HRg HTo hRl
          clear hfr hW8 huc HF hA HFr
          go_wp2_with fail
          rw [HW8.out]
          refine HLo.out.mono ?_
          rintro e9 w9 ⟨rfl, rfl⟩
          go_wp2_with fail
          refine HRg.out.mono ?_
          rintro e10 w10 ⟨v10, rfl, o10, b10⟩
          have HH10 := hide (HH8.out.below b10)
          obtain ⟨a10, c10, rfl, rd10, lt10⟩ := o10.rd
          have HD10 := hide rd10
          clear o10 b10 rd10 lt10 HLo HRg HH8 huc7 huf7 hul7 hul
          obtain ⟨na, hna⟩ : ∃ na, na = A.length := ⟨_, rfl⟩
          rw [← hna] at hRl ⊢
          have HNa := hide hna
          clear hna
          go_wp2
          go_loopw [18] (fun i W => ∃ x : Nat, i = .int .i64 x ∧ x ≤ na ∧ W = w10) (fun i _ => na - (intOf i).toNat)
          case atStart => exact ⟨0, rfl, Nat.zero_le _, rfl⟩
          case round =>
            obtain ⟨x, rfl, hx, rfl⟩ := hrel
            by_cases hxn : x < na
            · have hxA : x < A.length := by have := HNa.out; omega
              obtain ⟨g, eg, hg1, p1, p2, p3⟩ := HD10.out x hxA
              subst eg
              have hnk := HTo.out _ (List.getElem_mem hxA)
              obtain ⟨hd2, ehd⟩ : ∃ hd2, hd2 = (A[x]).2.1 := ⟨_, rfl⟩
              rw [← ehd] at p2 hnk
              have hnb : (hd2 == (kk : Int)) = false := by simp [hnk]
              have hxb : (x : Int) ≤ 1048576 := by omega
              clear p1 p3 ehd hnk
              go_wp2
              go_roundw
              case rel => exact ⟨x + 1, by go_num, by omega, by trivial⟩
              case measure => simp [intOf]; omega
            · obtain rfl : x = na := by omega
              go_wp2
              go_roundw
              case rel => exact ⟨j + 1, H', R', C', by go_num, by rw [HLen.out]; rfl, by omega, HH10.out⟩
              case measure => simp [intOf]; omega
        · have huc := HH.out.ub.cell kk (by omega)
          rw [HK] at huc
          have HF := hide (HH.out.free kk hkk)
          rw [HK] at HF
          have hul := HH.out.ub.lt
          have hclb : (H.length : Int) ≤ 1048576 := by have := HH.out.hd.lh; omega
          have HQL := hide HH.out.ql
          have HUL := hide HH.out.ul
          have HNW := hide HH.out.nw
          go_wp2_with fail
          refine HF.out.mono ?_
          rintro e7 w7 ⟨H', R', C', rfl, hfr⟩
          have HFr := hide hfr
          have huc7 := hfr.ub.cell kk (by omega)
          have huf7 := hfr.ub.frozen kk
          have hul7 := hfr.ub.lt
          rw [HK] at huc7
          have HLen := hide hfr.len
          rw [HK] at HLen
          obtain ⟨W8, hW8⟩ : ∃ W8, w7.setCell ⟨u, kk, none⟩ (.bool false) = W8 := ⟨_, rfl⟩
          have HW8 := hide hW8
          have HH8 : Hid (Hs w k u w3.heap.size most (j + 1) H' R' C' W8) := hW8 ▸ hfr.note hkk HQL.out HUL.out HNW.out
          have HLo := hide (local_any (k + 4) (sH k most) R' ((kk : Int) + 10) W8 HH8.out.ses.sb HH8.out.ses.tr (wf_of (by omega) (by omega)))
          rw [HH8.out.hd.noR hfr.gone] at HLo
          have HRg := hide (range_any (k + 4) (sH k most) false C' 0 2147483647 W8 HH8.out.ses.sb HH8.out.ses.tc (HH8.out.wd (by omega)) (by have := HH8.out.hd.lc; omega))
          have HTo : Hid (∀ p ∈ rangeL C' 0 2147483647, p.2.1 ≠ (kk : Int)) := HH8.out.hd.told (HH8.out.wd (by omega)) hfr.gone (by omega)
          have hRl := rangeL_len C' 0 2147483647
          have hCl : C'.length ≤ 1048576 := by have := HH8.out.hd.lc; omega
          obtain ⟨A, hA⟩ : ∃ A, A = rangeL C' 0 2147483647 := ⟨_, rfl⟩
          rw [← hA] at HRg HTo hRl
          clear hfr hW8 huc HF hA HFr
          go_wp2_with fail
          rw [HW8.out]
          refine HLo.out.mono ?_
          rintro e9 w9 ⟨rfl, rfl⟩
          go_wp2_with fail
          refine HRg.out.mono ?_
          rintro e10 w10 ⟨v10, rfl, o10, b10⟩
          have HH10 := hide (HH8.out.below b10)
          obtain ⟨a10, c10, rfl, rd10, lt10⟩ := o10.rd
          have HD10 := hide rd10
          clear o10 b10 rd10 lt10 HLo HRg HH8 huc7 huf7 hul7 hul
          obtain ⟨na, hna⟩ : ∃ na, na = A.length := ⟨_, rfl⟩
          rw [← hna] at hRl ⊢
          have HNa := hide hna
          clear hna
          go_wp2
          go_loopw [18] (fun i W => ∃ x : Nat, i = .int .i64 x ∧ x ≤ na ∧ W = w10) (fun i _ => na - (intOf i).toNat)
          case atStart => exact ⟨0, rfl, Nat.zero_le _, rfl⟩
          case round =>
            obtain ⟨x, rfl, hx, rfl⟩ := hrel
            by_cases hxn : x < na
            · have hxA : x < A.length := by have := HNa.out; omega
              obtain ⟨g, eg, hg1, p1, p2, p3⟩ := HD10.out x hxA
              subst eg
              have hnk := HTo.out _ (List.getElem_mem hxA)
              obtain ⟨hd2, ehd⟩ : ∃ hd2, hd2 = (A[x]).2.1 := ⟨_, rfl⟩
              rw [← ehd] at p2 hnk
              have hnb : (hd2 == (kk : Int)) = false := by simp [hnk]
              have hxb : (x : Int) ≤ 1048576 := by omega
              clear p1 p3 ehd hnk
              go_wp2
              go_roundw
              case rel => exact ⟨x + 1, by go_num, by omega, by trivial⟩
              case measure => simp [intOf]; omega
            · obtain rfl : x = na := by omega
              go_wp2
              go_roundw
              case rel => exact ⟨j + 1, H', R', C', by go_num, by rw [HLen.out]; rfl, by omega, HH10.out⟩
              case measure => simp [intOf]; omega
      · by_cases hlo : 0 ≤ x0
        · have hhi64 : ¬ x0 < 64 := fun h => hx1 ⟨hlo, h⟩
          clear hx1
          rcases least H most with hall | ⟨h, h64, hrh, hbelow, hfree⟩
          · have HF := hide (HH.out.full hmm.1 hall)
            have hfull := HH.out.hd.full hmm.1 hall
            have hqc := HH.out.qc
            have hql : w3.heap.size < wr.heap.size := by have := HH.out.ql; have := HH.out.ses.sb.lt; omega
            have hclb : (H.length : Int) ≤ 1048576 := by have := HH.out.hd.lh; omega
            have HH1 : Hid (Hs w k u w3.heap.size most (j + 1) H R C wr) := HH.out.tk.hs HH.out.hd.step
            clear hall
            by_cases hc64 : (H.length : Int) < 64
            · have hcm : ¬ (H.length : Int) ≤ most := fun h => hfull ⟨hc64, h⟩
              clear hfull
              go_wp2_with fail
              refine HF.out.mono ?_
              rintro e7 w7 ⟨rfl, rfl⟩
              go_wp2
              go_roundw
              case rel => exact ⟨j + 1, H, R, C, by go_num, rfl, by omega, HH1.out⟩
              case measure => simp [intOf]; omega
            · clear hfull
              go_wp2_with fail
              refine HF.out.mono ?_
              rintro e7 w7 ⟨rfl, rfl⟩
              go_wp2
              go_roundw
              case rel => exact ⟨j + 1, H, R, C, by go_num, rfl, by omega, HH1.out⟩
              case measure => simp [intOf]; omega
          · have HF := hide (HH.out.handle (by omega) h64 hrh hbelow hfree)
            have HHd := hide HH.out.hd
            have HBe := hide hbelow
            have HFr := hide hfree
            have hclb : (H.length : Int) ≤ 1048576 := by have := HH.out.hd.lh; omega
            clear hbelow hfree
            go_wp2_with fail
            refine HF.out.mono ?_
            rintro e7 w7 ⟨rfl, tk⟩
            have HT := hide tk
            have hqc := tk.qc
            have hql : w3.heap.size < w7.heap.size := by have := tk.ql; have := tk.ses.sb.lt; omega
            have hul := tk.ub.lt
            have huc := tk.ub.cell h (by omega)
            rw [HFr.out] at huc
            have huf := tk.ub.frozen h
            have hh0 : (0 : Int) ≤ (h : Int) := by omega
            have hh63 : (h : Int) ≤ 63 := by omega
            clear tk HF
            go_wp2
            go_loopw [21] (fun i W => ∃ x : Nat, i = .int .i64 x ∧ x ≤ h ∧ W = w7) (fun i _ => h - (intOf i).toNat)
            case atStart => exact ⟨0, rfl, Nat.zero_le _, rfl⟩
            case round =>
              obtain ⟨x, rfl, hx, rfl⟩ := hrel
              by_cases hxh : x < h
              · have hux := HT.out.ub.cell x (by omega)
                rw [HBe.out x hxh] at hux
                go_wp2
                go_roundw
                case rel => exact ⟨x + 1, by go_num, by omega, by trivial⟩
                case measure => simp [intOf]; omega
              · have exh : x = h := by omega
                subst exh
                obtain ⟨W8, hW8⟩ : ∃ W8, wr.setCell ⟨u, x, none⟩ (.bool true) = W8 := ⟨_, rfl⟩
                have HW8 := hide hW8
                have HT8 : Hid (Tk w k u w3.heap.size most (((x : Int), -1) :: H) (((x : Int), -1) :: H) R C W8) := hW8 ▸ HT.out.mark h64
                have HR := hide (HT8.out.remote HHd.out (by omega) h64 HFr.out)
                clear hW8
                go_wp2_with fail
                rw [HW8.out]
                refine HR.out.mono ?_
                rintro e9 w9 ⟨rfl, tk9⟩
                have HT9 := hide tk9
                have HL := hide (tk9.local h64)
                clear tk9 HR
                go_wp2_with fail
                refine HL.out.mono ?_
                rintro e10 w10 ⟨rfl, rfl⟩
                go_wp2_with fail
                refine (HT9.out.arrive _ HHd.out (by omega) h64 HFr.out).mono ?_
                rintro e11 w11 ⟨rfl, hs11⟩
                have HS := hide hs11
                clear hs11
                go_wp2
                go_roundw
                case rel => exact ⟨j + 1, _, _, _, by go_num, by simp, by omega, HS.out⟩
                case measure => simp [intOf]; omega
        · clear hx1
          rcases least H most with hall | ⟨h, h64, hrh, hbelow, hfree⟩
          · have HF := hide (HH.out.full hmm.1 hall)
            have hfull := HH.out.hd.full hmm.1 hall
            have hqc := HH.out.qc
            have hql : w3.heap.size < wr.heap.size := by have := HH.out.ql; have := HH.out.ses.sb.lt; omega
            have hclb : (H.length : Int) ≤ 1048576 := by have := HH.out.hd.lh; omega
            have HH1 : Hid (Hs w k u w3.heap.size most (j + 1) H R C wr) := HH.out.tk.hs HH.out.hd.step
            clear hall
            by_cases hc64 : (H.length : Int) < 64
            · have hcm : ¬ (H.length : Int) ≤ most := fun h => hfull ⟨hc64, h⟩
              clear hfull
              go_wp2_with fail
              refine HF.out.mono ?_
              rintro e7 w7 ⟨rfl, rfl⟩
              go_wp2
              go_roundw
              case rel => exact ⟨j + 1, H, R, C, by go_num, rfl, by omega, HH1.out⟩
              case measure => simp [intOf]; omega
            · clear hfull
              go_wp2_with fail
              refine HF.out.mono ?_
              rintro e7 w7 ⟨rfl, rfl⟩
              go_wp2
              go_roundw
              case rel => exact ⟨j + 1, H, R, C, by go_num, rfl, by omega, HH1.out⟩
              case measure => simp [intOf]; omega
          · have HF := hide (HH.out.handle (by omega) h64 hrh hbelow hfree)
            have HHd := hide HH.out.hd
            have HBe := hide hbelow
            have HFr := hide hfree
            have hclb : (H.length : Int) ≤ 1048576 := by have := HH.out.hd.lh; omega
            clear hbelow hfree
            go_wp2_with fail
            refine HF.out.mono ?_
            rintro e7 w7 ⟨rfl, tk⟩
            have HT := hide tk
            have hqc := tk.qc
            have hql : w3.heap.size < w7.heap.size := by have := tk.ql; have := tk.ses.sb.lt; omega
            have hul := tk.ub.lt
            have huc := tk.ub.cell h (by omega)
            rw [HFr.out] at huc
            have huf := tk.ub.frozen h
            have hh0 : (0 : Int) ≤ (h : Int) := by omega
            have hh63 : (h : Int) ≤ 63 := by omega
            clear tk HF
            go_wp2
            go_loopw [21] (fun i W => ∃ x : Nat, i = .int .i64 x ∧ x ≤ h ∧ W = w7) (fun i _ => h - (intOf i).toNat)
            case atStart => exact ⟨0, rfl, Nat.zero_le _, rfl⟩
            case round =>
              obtain ⟨x, rfl, hx, rfl⟩ := hrel
              by_cases hxh : x < h
              · have hux := HT.out.ub.cell x (by omega)
                rw [HBe.out x hxh] at hux
                go_wp2
                go_roundw
                case rel => exact ⟨x + 1, by go_num, by omega, by trivial⟩
                case measure => simp [intOf]; omega
              · have exh : x = h := by omega
                subst exh
                obtain ⟨W8, hW8⟩ : ∃ W8, wr.setCell ⟨u, x, none⟩ (.bool true) = W8 := ⟨_, rfl⟩
                have HW8 := hide hW8
                have HT8 : Hid (Tk w k u w3.heap.size most (((x : Int), -1) :: H) (((x : Int), -1) :: H) R C W8) := hW8 ▸ HT.out.mark h64
                have HR := hide (HT8.out.remote HHd.out (by omega) h64 HFr.out)
                clear hW8
                go_wp2_with fail
                rw [HW8.out]
                refine HR.out.mono ?_
                rintro e9 w9 ⟨rfl, tk9⟩
                have HT9 := hide tk9
                have HL := hide (tk9.local h64)
                clear tk9 HR
                go_wp2_with fail
                refine HL.out.mono ?_
                rintro e10 w10 ⟨rfl, rfl⟩
                go_wp2_with fail
                refine (HT9.out.arrive _ HHd.out (by omega) h64 HFr.out).mono ?_
                rintro e11 w11 ⟨rfl, hs11⟩
                have HS := hide hs11
                clear hs11
                go_wp2
                go_roundw
                case rel => exact ⟨j + 1, _, _, _, by go_num, by simp, by omega, HS.out⟩
                case measure => simp [intOf]; omega
    · obtain rfl : j = n := by omega
      go_wp2
      go_ret
      exact ⟨rfl, HH.out.be⟩
end Go.Proofs.Ytondbhdlccpklaa
