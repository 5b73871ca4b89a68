
/- Stage 18: spread. -/
import Derived.Test.YtmanfakdbmlfeaaDoorRSprM
import Derived.Test.YtmanfakdbmlfeaaDoorRFitB
import Derived.Deep.OwnRows
namespace Go.Proofs.YtmanfakdbmlfeaaDoor
open Go.RowKit Go.Maps
set_option linter.unusedVariables false
set_option linter.unusedSimpArgs false
set_option maxHeartbeats 4000000 in
theorem spread_any (p : List ByteArray) (f : Nat → Bool) (w : World) (vp va : Value) (hp : Tl w vp p) (ha : Nf w va (p.length + 1) f) (h8 : p.length ≤ 8) :
    Calls Tryd.prog 31 #[vp, va] w fun e w' => ∃ v, e = .returned v ∧ Nf w' v (p.length + 1) (spB p f) ∧ Below w.heap.size w w' := by
  obtain ⟨gp, op, cp, rfl, hcp, hcp9, hxp⟩ := hp
  obtain ⟨ga, ca, rfl, hca, hca9, hga, hxa⟩ := ha
  have hgp := hxp.1
  have HRP : Hid (∀ W, Below w.heap.size w W → Tx W gp op p) := fun W hb => hxp.keep hb hgp
  have HRA : Hid (∀ W, Below w.heap.size w W → ∀ i, i < p.length + 1 → W.cell? ⟨ga, i, none⟩ = some (z1 (f i))) := fun W hb i hi => (World.cell?_of_block (a := ⟨ga, i, none⟩) (hb.block ga hga)).trans (hxa i hi)
  obtain ⟨N, hN⟩ : ∃ N, N = p.length + 1 := ⟨_, rfl⟩
  have hmk := run_make_row' (P := Tryd.prog) 48 3 (.int .i64 0) 8 Tryd.underlying48 Tryd.infoI rfl .i64 .i64 N (by omega) (by omega)
  have hNz : ((p.length : Int) + 1) = (N : Int) := by omega
  have HM := hide (made_arr N)
  have HN := hide hN
  have hN9 : N ≤ 9 := by omega
  clear hxp hxa hN
  go_enter Tryd.func31, Tryd.ntmps31
  go_wp2
  clear hmk
  have hb0 : Below w.heap.size w (w.alloc (.cells (madeCells #[.int .i64 0] N) 3)) := bel1 (Below.refl _ _) (Nat.le_refl _) _
  have HC0 : Hid ((w.alloc (.cells (madeCells #[.int .i64 0] N) 3)).heap[w.heap.size]? = some (.cells (arr (spB p (upto f 0)) N) 3 (0, 0))) := by
    show _ = _
    rw [heap_new, HM.out, arr_congr (h' := spB p (upto f 0)) (fun j _ => (upto_zero p f j).symm)]
  go_loopw [6] (fun i wr => ∃ k : Nat, k ≤ p.length + 1 ∧ i = .int .i64 k ∧ Below w.heap.size w wr ∧ Hid (wr.heap[w.heap.size]? = some (.cells (arr (spB p (upto f k)) N) 3 (0, 0)))) (fun i _ => p.length + 1 - (intOf i).toNat)
  case atStart => exact ⟨0, Nat.zero_le _, rfl, hb0, HC0.out⟩
  case round =>
    clear hb0 HC0
    obtain ⟨k, hk, rfl, hb, HC⟩ := hrel
    by_cases hkn : k ≤ p.length
    · have hkz : (k : Int) ≤ (p.length : Int) := by omega
      have hcell := HRA.out wr hb k (by omega)
      have HB := hide hb
      cases hf : f k
      · have HC2 : Hid (wr.heap[w.heap.size]? = some (.cells (arr (spB p (upto f (k + 1))) N) 3 (0, 0))) := by
          show _ = _
          rw [HC.out, arr_congr (h' := spB p (upto f (k + 1))) (fun j _ => (upto_no p hf j).symm)]
        rw [hf] at hcell
        unfold z1 at hcell
        simp only [Bool.false_eq_true, if_false] at hcell
        clear hf hb
        go_wp2
        go_roundw
        case rel => exact ⟨k + 1, by omega, by go_num, HB.out, HC2.out⟩
        case measure => simp [intOf]; omega
      · rw [hf] at hcell
        unfold z1 at hcell
        simp only [if_true] at hcell
        have hkN : k < N := by have := HN.out; omega
        have HF := hide hf
        have hout := cellOf HC.out k _ (arr_at hkN)
        have hfr : wr.frozen? ⟨w.heap.size, k, none⟩ = false := by simp [World.frozen?, HC.out]
        have HC5 := hide (set_arr HC.out hkN)
        have HB5 : Hid (Below w.heap.size w (wr.setCell ⟨w.heap.size, k, none⟩ (.int .i64 1))) := ⟨hb.os, hb.tape, hb.output, by simpa using hb.size, fun q hq => (blk_set_other _ _ _ _ (by show q ≠ w.heap.size; omega)).trans (hb.block q hq)⟩
        clear hf hb
        go_wp2
        obtain ⟨w5, hw5⟩ : ∃ w5, w5 = wr.setCell ⟨w.heap.size, k, none⟩ (.int .i64 1) := ⟨_, rfl⟩
        rw [← hw5] at HC5 HB5 ⊢
        have HCS : Hid (w5.heap[w.heap.size]? = some (.cells (arr (fun j => spB p (upto f k) j || (ch p k j && decide (j ≤ k))) N) 3 (0, 0))) := by
          show _ = _
          rw [HC5.out, arr_congr (h' := fun j => spB p (upto f k) j || (ch p k j && decide (j ≤ k))) (fun j _ => ?_)]
          congr 1
          rcases Nat.lt_trichotomy j k with e | e | e
          · rw [ch_before p k j e, Bool.false_and]; simp; omega
          · subst e; rw [ch_self]; simp
          · rw [decide_eq_false (by omega), decide_eq_false (show ¬ j ≤ k by omega), Bool.and_false]
        have HFin : Hid (∀ m, k ≤ m → p[m]? ≠ some bHash → arr (fun j => spB p (upto f k) j || (ch p k j && decide (j ≤ m))) N = arr (spB p (upto f (k + 1))) N) := fun m q1 q2 => arr_congr fun j _ => by
          rw [upto_yes p HF.out]
          congr 1
          by_cases e : j ≤ m
          · simp [e]
          · rw [ch_stop p q1 q2 j (by omega), Bool.false_and]
        clear hw5 HC5 HC hcell hout hfr HB
        go_loopw [7] (fun i ws => ∃ m : Nat, k ≤ m ∧ m ≤ p.length ∧ i = .int .i64 m ∧ Below w.heap.size w ws ∧ Hid (ch p k m = true) ∧ Hid (ws.heap[w.heap.size]? = some (.cells (arr (fun j => spB p (upto f k) j || (ch p k j && decide (j ≤ m))) N) 3 (0, 0)))) (fun i _ => p.length - (intOf i).toNat)
        case atStart => exact ⟨k, Nat.le_refl _, hkn, rfl, HB5.out, ch_self p k, HCS.out⟩
        case round =>
          obtain ⟨m, hkm, hm, rfl, hbm, HCH, HCM⟩ := hrel
          have HBm := hide hbm
          by_cases hmn : m < p.length
          · obtain ⟨x, hx⟩ : ∃ x, p[m]? = some x := ⟨_, List.getElem?_eq_getElem hmn⟩
            have hcx := (HRP.out wr hbm).2 m x hx
            by_cases h1 : x = bHash
            · have e1 : (x.toList == [35]) = true := by rw [hash_eq]; simpa using h1
              have hm1 : m + 1 < N := by have := HN.out; omega
              have HCH2 : Hid (ch p k (m + 1) = true) := by show _ = _; rw [ch_step p hkm, hx, h1, HCH.out]; simp
              have hout := cellOf HCM.out (m + 1) _ (arr_at hm1)
              have hfr : wr.frozen? ⟨w.heap.size, m + 1, none⟩ = false := by simp [World.frozen?, HCM.out]
              have HC6 : Hid ((wr.setCell ⟨w.heap.size, m + 1, none⟩ (.int .i64 1)).heap[w.heap.size]? = some (.cells (arr (fun j => spB p (upto f k) j || (ch p k j && decide (j ≤ m + 1))) N) 3 (0, 0))) := by
                show _ = _
                rw [set_arr HCM.out hm1, arr_congr (h' := fun j => spB p (upto f k) j || (ch p k j && decide (j ≤ m + 1))) (fun j _ => ?_)]
                rw [Bool.or_assoc]
                congr 1
                by_cases e : j = m + 1
                · subst e; rw [HCH2.out]; simp
                · rw [decide_eq_false e, Bool.or_false]
                  congr 1
                  rw [Bool.eq_iff_iff, decide_eq_true_eq, decide_eq_true_eq]
                  omega
              have HB6 : Hid (Below w.heap.size w (wr.setCell ⟨w.heap.size, m + 1, none⟩ (.int .i64 1))) := ⟨hbm.os, hbm.tape, hbm.output, by simpa using hbm.size, fun q hq => (blk_set_other _ _ _ _ (by show q ≠ w.heap.size; omega)).trans (hbm.block q hq)⟩
              clear h1 hx hbm
              go_wp2
              go_roundw
              case rel => exact ⟨m + 1, by omega, by omega, by go_num, HB6.out, HCH2.out, HC6.out⟩
              case measure => simp [intOf]; omega
            · have e1 : (x.toList == [35]) = false := by rw [hash_eq]; simpa using h1
              have HE := hide (HFin.out m hkm (by rw [hx]; simpa using h1))
              have HC7 : Hid (wr.heap[w.heap.size]? = some (.cells (arr (spB p (upto f (k + 1))) N) 3 (0, 0))) := by show _ = _; rw [HCM.out, HE.out]
              clear h1 hx hbm
              go_wp2
              go_roundw
              case rel => exact ⟨k + 1, by omega, by go_num, HBm.out, HC7.out⟩
              case measure => simp [intOf]; omega
          · have HE := hide (HFin.out m hkm (by rw [List.getElem?_eq_none (by omega)]; simp))
            have HC7 : Hid (wr.heap[w.heap.size]? = some (.cells (arr (spB p (upto f (k + 1))) N) 3 (0, 0))) := by show _ = _; rw [HCM.out, HE.out]
            have hmz : ¬ (m : Int) < (p.length : Int) := by omega
            clear hbm
            go_wp2
            go_roundw
            case rel => exact ⟨k + 1, by omega, by go_num, HBm.out, HC7.out⟩
            case measure => simp [intOf]; omega
    · have hkz : ¬ (k : Int) ≤ (p.length : Int) := by omega
      have hkN : k = N := by have := HN.out; omega
      go_wp2
      go_ret
      refine ⟨_, rfl, ⟨w.heap.size, N, by rw [HN.out]; rfl, by rw [HN.out]; exact Nat.le_refl _, by unfold maxLen; omega, (Array.getElem?_eq_some_iff.1 HC.out).1, fun i hi => ?_⟩, hb⟩
      have := cellOf HC.out i _ (arr_at (by rw [HN.out]; exact hi))
      rw [this, hkN, upto_all p (by rw [HN.out]; exact hi)]
end Go.Proofs.YtmanfakdbmlfeaaDoor
