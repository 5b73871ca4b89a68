import Derived.Test.YtdcoafpenkofoaaGreatDoorJTakM9
import Derived.Test.YtdcoafpenkofoaaGreatDoorJScanM9
import Derived.Test.YtdcoafpenkofoaaGreatDoorJLogM9
import Derived.Test.YtdcoafpenkofoaaGreatDoorJLstM9
import Derived.Test.YtdcoafpenkofoaaGreatDoorDLawSM9
import Derived.Test.YtdcoafpenkofoaaGreatDoorJAddM9

/- Stage 20: Open, no tail behind the log. -/
namespace Go.Proofs.YtdcoafpenkofoaaGreatDoor
open Go.RowKit Go.Maps Go.MuLone
set_option linter.unusedVariables false
set_option linter.unusedSimpArgs false
set_option maxHeartbeats 4000000 in
theorem open_good (S : Nat → Prop) (w wi : World) (d : Nat) (x : Dx) (F : List Fi) (g : Addr) (hE : Eb w g) (hT : Er w) (h : AW S w wi d x F) (hd : x.down = false) (hn : F.length ≤ 2000000000000) (hl : (dat kG F).1.length ≤ 70368744177664) (hz : (dat kG F).2 ≤ (dat kG F).1.length) (hw : (wl (dat kG F).1).2.2 = 0) (ht : (jTk x F (dat kG F).1.length (dat kG F).2).1 = 0) :
    Calls Tryz.prog 19 #[.pointer (some ⟨d, 0, none⟩)] wi fun e w' => ∃ j v Z, e = .returned (.tuple #[.pointer (some ⟨j, 0, none⟩), v, .int .i64 0]) ∧ wi.heap.size ≤ j ∧ Wy AK w' wi.heap.size v Z ∧ ToldL wi.heap.size w' Z ∧ batches Z = (wl (dat kG F).1).1 ∧ ∃ S', (∀ q, S' q → S q ∨ wi.heap.size ≤ q) ∧ JS S' w w' d j (jTk x F (dat kG F).1.length (dat kG F).2).2.1 (jTk x F (dat kG F).1.length (dat kG F).2).2.2 ((dat kG F).1.length : Int) false ∧ Kp S wi w' := by
  obtain ⟨l, hlq⟩ : ∃ l, (dat kG F).1 = l := ⟨_, rfl⟩
  obtain ⟨z, hzq⟩ : ∃ z, (dat kG F).2 = z := ⟨_, rfl⟩
  have hwe := ((wl_end l.length l (Nat.le_refl _)).2.1 (by rw [← hlq]; exact hw))
  rw [hlq] at hl hz hw ht ⊢
  rw [hzq] at hz ht ⊢
  have HLF := hide (fun S1 wi' (h : AW S1 w wi' d x F) => logFile_any S1 w wi' d x F h hn)
  have HU := hide (aw_up h)
  have HTT := hide ht
  have HWW := hide hw
  have HE := hide hE
  have HT := hide hT
  have HLQ := hide hlq
  have HZQ := hide hzq
  have hdt : (!x.down) = true := by rw [hd]; rfl
  rw [hdt] at HU
  have hsc : scn l (z : Int) = ((wl l).1, l.length, 0) := by
    unfold scn
    rw [if_neg (by omega), if_neg (by rw [hw]; omega), hwe]
  have HSC := hide hsc
  have HHL := hide hl
  have HHZ := hide hz
  clear h hd hn hl hz hw ht hE hT hlq hzq hwe hdt hsc
  go_enter Tryz.func19, Tryz.ntmps19
  go_wp2_with fail
  refine HU.out.mono ?_
  rintro e w1 ⟨rfl, S1, hS1, hA1, hK1⟩
  have hlf := HLF.out S1 w1 hA1
  rw [HLQ.out, HZQ.out] at hlf
  have HL2 := hide hlf
  have HK1 := hide (And.intro hS1 (And.intro hA1 hK1))
  clear hS1 hA1 hK1 hlf
  go_wp2_with fail
  refine HL2.out.mono ?_
  rintro e w2 ⟨nm, v, rfl, hob, hA2, hK2⟩
  obtain ⟨a, c, rfl, hcc⟩ := hob.slice
  have HOB := hide hob
  have HA2 := hide hA2
  have HK2 := hide hK2
  obtain ⟨W3, hW3⟩ : ∃ W3, w2.alloc (.cells #[.string nm, .slice a l.length c, .int .i64 (z : Int)] 73) = W3 := ⟨_, rfl⟩
  have hb3 : Below w2.heap.size w2 W3 := by rw [← hW3]; exact bel1 (Below.refl _ _) (Nat.le_refl _) _
  have hB3 : W3.heap[w2.heap.size]? = some (.cells #[.string nm, .slice a l.length c, .int .i64 (z : Int)] 73 (0, 0)) := by rw [← hW3]; exact heap_new _ _
  have hlt3 : w2.heap.size < W3.heap.size := (Array.getElem?_eq_some_iff.1 hB3).1
  have hA3 := hA2.below hb3
  have hrd : Rd W3 a l.length l := by
    obtain ⟨a', c', e, hr⟩ := (hob.below hb3).rb
    simp only [Value.slice.injEq] at e
    obtain ⟨rfl, _, rfl⟩ := e
    exact hr.2.2
  have HSN := hide (scan_any g a c l (z : Int) W3 (HE.out.below hA3.bel) (HT.out.below hA3.bel) hrd hcc HHL.out)
  have HB3 := hide hb3
  have HBb := hide hB3
  have HL3 := hide hlt3
  have HA3 := hide hA3
  have HW3 := hide hW3
  clear hob hA2 hK2 hW3 hb3 hB3 hlt3 hA3 hrd
  go_wp2_with fail
  rw [HW3.out]
  refine HSN.out.mono ?_
  rintro e w4 ⟨⟨v, Z, rfl, hwy, htl, hbz⟩, hb4⟩
  have hc4 := (hb4.block _ HL3.out).trans HBb.out
  have t0 := cellOf hc4 0 (.string nm) rfl
  have t1 := cellOf hc4 1 (.slice a l.length c) rfl
  have t2 := cellOf hc4 2 (.int .i64 (z : Int)) rfl
  have hL4 : w2.heap.size < w4.heap.size := (Array.getElem?_eq_some_iff.1 hc4).1
  rw [HSC.out] at hbz ⊢
  dsimp only at hbz ⊢
  have HY := hide (And.intro hwy (And.intro htl hbz))
  have HB4 := hide hb4
  clear hwy htl hbz hb4
  go_wp2_with fail
  obtain ⟨W5, hW5⟩ : ∃ W5, w4.alloc (.cells #[.pointer (some ⟨d, 0, none⟩), .int .i64 (l.length : Int), .bool false] 114) = W5 := ⟨_, rfl⟩
  have hb5 : Below w4.heap.size w4 W5 := by rw [← hW5]; exact bel1 (Below.refl _ _) (Nat.le_refl _) _
  have hB5 : W5.heap[w4.heap.size]? = some (.cells (jrA d (l.length : Int) false) 114 (0, 0)) := by rw [← hW5]; exact heap_new _ _
  have hA4 := HA3.out.below HB4.out
  have hJ5 : JS S1 w W5 d w4.heap.size x F (l.length : Int) false := ⟨hA4.below hb5, fun hs => by have := (hA4.at_ _ hs).2; omega, hA4.bel.size, hB5⟩
  have HTK := hide (takeUp_no S1 w W5 d w4.heap.size x F (l.length : Int) hJ5 nm a l.length c z)
  have HB5 := hide hb5
  have HW5 := hide hW5
  have hlt5 : w4.heap.size < W5.heap.size := (Array.getElem?_eq_some_iff.1 hB5).1
  have HL5 := hide hlt5
  have HA0 : Hid (amV 0 = .nilIface) := rfl
  clear hW5 hb5 hB5 hA4 hJ5 hlt5
  rw [HW5.out]
  refine HTK.out.mono ?_
  rintro e w6 ⟨rfl, S6, hS6, hJ6, hK6⟩
  rw [HTT.out, HA0.out]
  have hk35 : Below w2.heap.size w2 W5 := belOn (belOn HB3.out HB3.out.size HB4.out) (Nat.le_trans HB3.out.size HB4.out.size) HB5.out
  have HKA : Hid (Kp S wi w6) := (HK1.out.2.2.transN (((HK2.out.below hk35).trans hK6)) (fun k hk => HK1.out.1 k hk))
  have HSA : Hid (∀ q, S6 q → S q ∨ wi.heap.size ≤ q) := fun q hq => by
    rcases hS6 q hq with h | h
    · exact HK1.out.1 q h
    · have := HK1.out.2.2.size
      have := HK2.out.size
      have := hk35.size
      exact .inr (by omega)
  have HJ6 := hide hJ6
  have hble : wi.heap.size ≤ W3.heap.size := by
    have := HK1.out.2.2.size
    have := HK2.out.size
    have := HB3.out.size
    omega
  have hkk : ∀ k, W3.heap.size ≤ k → k < w4.heap.size → w6.heap[k]? = w4.heap[k]? := fun k h1 h2 =>
    (hK6.block (Nat.lt_of_lt_of_le h2 HB5.out.size) (fun hs => by have := (HA3.out.at_ _ hs).2; omega)).trans (HB5.out.block k h2)
  have HYY : Hid (Wy AK w6 wi.heap.size v Z ∧ ToldL wi.heap.size w6 Z) :=
    ⟨(HY.out.1.at (fun k e => hkk k (HY.out.1.lt e).1 (HY.out.1.lt e).2)).mono hble, (HY.out.2.1.keep (fun k cs t f h1 h2 _ => hkk k h1 (Array.getElem?_eq_some_iff.1 h2).1)).mono hble⟩
  clear hble hkk
  clear hS6 hJ6 hK6 hk35
  go_wp2
  refine bodyPost_ret (results_tmp3 rfl _ _ _) rfl ?_
  refine ⟨w4.heap.size, v, Z, rfl, ?_, HYY.out.1, HYY.out.2, HY.out.2.2, S6, HSA.out, HJ6.out, HKA.out⟩
  have := HK1.out.2.2.size
  have := HK2.out.size
  have := HB3.out.size
  have := HB4.out.size
  omega
end Go.Proofs.YtdcoafpenkofoaaGreatDoor


/- Stage 20: the law's sameBytes, sameBatch, same. -/
namespace Go.Proofs.YtdcoafpenkofoaaGreatDoor
open Go.RowKit Go.MuLone
set_option linter.unusedVariables false
set_option linter.unusedSimpArgs false
theorem mkS_list (l : List Nat) : (mkS l).toList = l.map UInt8.ofNat := by
  rw [mkS, ByteArray.toList_eq]
theorem mkS_inj {l m : List Nat} (hl : ∀ c ∈ l, c < 256) (hm : ∀ c ∈ m, c < 256) (h : l.map UInt8.ofNat = m.map UInt8.ofNat) : l = m := by
  have e : ∀ l : List Nat, (∀ c ∈ l, c < 256) → (l.map UInt8.ofNat).map UInt8.toNat = l := fun l hl => by
    rw [List.map_map]
    conv => rhs; rw [← List.map_id l]
    apply List.map_congr_left
    intro c hc
    have := hl c hc
    simp
    omega
  rw [← e l hl, ← e m hm, h]
theorem mkS_beq (l m : List Nat) (hl : ∀ c ∈ l, c < 256) (hm : ∀ c ∈ m, c < 256) : ((mkS l).toList == (mkS m).toList) = decide (l = m) := by
  rw [mkS_list, mkS_list, Bool.eq_iff_iff]
  simp only [beq_iff_eq, decide_eq_true_eq]
  exact ⟨mkS_inj hl hm, fun h => by rw [h]⟩
theorem sameBytes_any (a b : Option Addr) (n m c k : Nat) (l t : List Nat) (w : World) (hl : Rd w a n l) (ht : Rd w b m t) :
    Calls Tryz.prog 81 #[.slice a n c, .slice b m k] w fun e w' => e = .returned (.bool (decide (l = t))) ∧ w' = w := by
  have h1 := conv_any hl c
  have h2 := conv_any ht k
  have hq := mkS_beq l t hl.2.1 ht.2.1
  clear hl ht
  generalize decide (l = t) = q at *
  go_enter Tryz.func81, Tryz.ntmps81
  go_wp2
  go_ret
  exact ⟨rfl, rfl⟩
theorem Rb.rdS {w : World} {x : Option Addr} {n c : Nat} {l : List Nat} (h : Rb w (.slice x n c) l) : Rd w x n l := by
  obtain ⟨a, c', e, _, _, hr⟩ := h
  simp only [Value.slice.injEq] at e
  obtain ⟨rfl, rfl, rfl⟩ := e
  exact hr
set_option maxHeartbeats 2000000 in
theorem sameBatch_any (a b : Option Addr) (c k : Nat) (L M : List (List Nat)) (w : World) (hL : RdB w a L) (hM : RdB w b M) (hl : L.length ≤ maxLen) :
    Calls Tryz.prog 39 #[.slice a L.length c, .slice b M.length k] w fun e w' => e = .returned (.bool (decide (L = M))) ∧ Below w.heap.size w w' := by
  by_cases hne : L.length = M.length
  · have HL := hide hL
    have HM := hide hM
    have HNE := hide hne
    obtain ⟨q, hq⟩ : ∃ q, decide (L = M) = q := ⟨_, rfl⟩
    have HQ := hide hq
    have hll : L.length ≤ 9223372036854775807 := hl
    have hbl : ((L.length : Int) == (M.length : Int)) = true := by rw [hne]; simp
    have hmm : M.length = L.length := hne.symm
    clear hL hM hl hne
    rw [hq]
    rw [hmm] at hbl ⊢
    clear hq hmm
    go_enter Tryz.func39, Tryz.ntmps39
    go_wp2
    go_loopw [5] (fun i wr => ∃ j : Nat, j ≤ L.length ∧ i = .int .i64 (j : Int) ∧ Hid (∀ (z : Nat) (h1 : z < L.length) (h2 : z < M.length), z < j → L[z] = M[z]) ∧ Below w.heap.size w wr) (fun i _ => L.length - (intOf i).toNat)
    case atStart => exact ⟨0, Nat.zero_le _, rfl, fun z h1 h2 h3 => by omega, Below.refl _ _⟩
    case round =>
      obtain ⟨j, hj, rfl, HEQ, hb⟩ := hrel
      have HB := hide hb
      clear hb
      by_cases hjl : j < L.length
      · have hjm : j < M.length := by have := HNE.out; omega
        obtain ⟨b1, off1, rfl, hb1, hc1⟩ := HL.out (by omega)
        obtain ⟨b2, off2, rfl, hb2, hc2⟩ := HM.out (by omega)
        obtain ⟨x, cx, s1, o1⟩ := hc1 j hjl
        obtain ⟨y, cy, s2, o2⟩ := hc2 j hjm
        have r1 := (HB.out.cell (p := ⟨b1, off1 + j, none⟩) hb1).trans s1
        have r2 := (HB.out.cell (p := ⟨b2, off2 + j, none⟩) hb2).trans s2
        have HX : Hid (∀ V, Below w.heap.size w V → Calls Tryz.prog 81 #[.slice x L[j].length cx, .slice y M[j].length cy] V fun e w' => e = .returned (.bool (decide (L[j] = M[j]))) ∧ w' = V) := fun V hV => sameBytes_any x y _ _ cx cy _ _ V (o1.below hV).rdS (o2.below hV).rdS
        clear hc1 hc2 o1 o2 s1 s2
        cases hd : decide (L[j] = M[j])
        · have HNO : Hid (q = false) := by
            show _ = _
            rw [← HQ.out]
            refine decide_eq_false fun e => of_decide_eq_false hd ?_
            have h := congrArg (fun K => K[j]?) e
            simp only [List.getElem?_eq_getElem hjl, List.getElem?_eq_getElem hjm, Option.some.injEq] at h
            exact h
          rw [hd] at HX
          clear hd
          generalize L[j].length = m1 at *
          generalize M[j].length = m2 at *
          have hki : (j : Int) < (L.length : Int) := by omega
          go_wp2_with fail
          go_region_held (fun V => V.cell? ⟨b1, off1 + j, none⟩ = some (.slice x m1 cx) ∧ V.cell? ⟨b2, off2 + j, none⟩ = some (.slice y m2 cy)) (go_keep) ((go_at_call 81; refine Calls.mono (HX.out _ (by first | exact HB.out | exact HB.out.drew | exact HB.out.drew.drew)) ?_; rintro e2 w2 ⟨rfl, rfl⟩))
          all_goals go_wp2
          all_goals go_ret
          all_goals exact ⟨by rw [HNO.out]; rfl, by first | exact HB.out | exact HB.out.drew | exact HB.out.drew.drew⟩
        · have HYE : Hid (L[j] = M[j]) := hide (of_decide_eq_true hd)
          rw [hd] at HX
          clear hd
          generalize L[j].length = m1 at *
          generalize M[j].length = m2 at *
          have hki : (j : Int) < (L.length : Int) := by omega
          go_wp2_with fail
          go_region_held (fun V => V.cell? ⟨b1, off1 + j, none⟩ = some (.slice x m1 cx) ∧ V.cell? ⟨b2, off2 + j, none⟩ = some (.slice y m2 cy)) (go_keep) ((go_at_call 81; refine Calls.mono (HX.out _ (by first | exact HB.out | exact HB.out.drew | exact HB.out.drew.drew)) ?_; rintro e2 w2 ⟨rfl, rfl⟩))
          all_goals go_wp2
          refine ⟨⟨j + 1, by omega, by go_num, fun z h1 h2 h3 => ?_, by first | exact HB.out.drew | exact HB.out | exact HB.out.drew.drew⟩, by simp [intOf]; omega⟩
          rcases Nat.lt_or_ge z j with h | h
          · exact HEQ.out z h1 h2 h
          · have : z = j := by omega
            subst this
            exact HYE.out
      · have HYES : Hid (q = true) := by
          show _ = _
          rw [← HQ.out]
          exact decide_eq_true (List.ext_getElem HNE.out (fun z h1 h2 => HEQ.out z h1 h2 (by omega)))
        go_wp2
        go_ret
        exact ⟨by rw [HYES.out]; rfl, HB.out⟩
  · have HNO : Hid (decide (L = M) = false) := decide_eq_false fun e => hne (by rw [e])
    have hbl : ((L.length : Int) == (M.length : Int)) = false := beq_eq_false_iff_ne.2 (by omega)
    rw [HNO.out]
    clear hL hM hl hne
    go_enter Tryz.func39, Tryz.ntmps39
    go_wp2
    go_ret
    exact ⟨rfl, Below.refl _ _⟩
set_option maxHeartbeats 2000000 in
theorem same_any (a b : Option Addr) (c k : Nat) (L M : List (List (List Nat))) (w : World) (hL : RdL w a L) (hM : RdL w b M) (hl : L.length ≤ maxLen) (hm : ∀ m ∈ L, m.length ≤ maxLen) :
    Calls Tryz.prog 11 #[.slice a L.length c, .slice b M.length k] w fun e w' => e = .returned (.bool (decide (L = M))) ∧ Below w.heap.size w w' := by
  by_cases hne : L.length = M.length
  · have HMX := hide hm
    clear hm
    have HL := hide hL
    have HM := hide hM
    have HNE := hide hne
    obtain ⟨q, hq⟩ : ∃ q, decide (L = M) = q := ⟨_, rfl⟩
    have HQ := hide hq
    have hll : L.length ≤ 9223372036854775807 := hl
    have hbl : ((L.length : Int) == (M.length : Int)) = true := by rw [hne]; simp
    have hmm : M.length = L.length := hne.symm
    clear hL hM hl hne
    rw [hq]
    rw [hmm] at hbl ⊢
    clear hq hmm
    go_enter Tryz.func11, Tryz.ntmps11
    go_wp2
    go_loopw [5] (fun i wr => ∃ j : Nat, j ≤ L.length ∧ i = .int .i64 (j : Int) ∧ Hid (∀ (z : Nat) (h1 : z < L.length) (h2 : z < M.length), z < j → L[z] = M[z]) ∧ Below w.heap.size w wr) (fun i _ => L.length - (intOf i).toNat)
    case atStart => exact ⟨0, Nat.zero_le _, rfl, fun z h1 h2 h3 => by omega, Below.refl _ _⟩
    case round =>
      obtain ⟨j, hj, rfl, HEQ, hb⟩ := hrel
      have HB := hide hb
      clear hb
      by_cases hjl : j < L.length
      · have hjm : j < M.length := by have := HNE.out; omega
        obtain ⟨b1, off1, rfl, hb1, hc1⟩ := HL.out (by omega)
        obtain ⟨b2, off2, rfl, hb2, hc2⟩ := HM.out (by omega)
        obtain ⟨x, cx, s1, o1⟩ := hc1 j hjl
        obtain ⟨y, cy, s2, o2⟩ := hc2 j hjm
        have r1 := (HB.out.cell (p := ⟨b1, off1 + j, none⟩) hb1).trans s1
        have r2 := (HB.out.cell (p := ⟨b2, off2 + j, none⟩) hb2).trans s2
        have HX : Hid (∀ V, Below w.heap.size w V → Calls Tryz.prog 39 #[.slice x L[j].length cx, .slice y M[j].length cy] V fun e w' => e = .returned (.bool (decide (L[j] = M[j]))) ∧ Below V.heap.size V w') := fun V hV => sameBatch_any x y cx cy L[j] M[j] V (o1.below hV) (o2.below hV) (HMX.out _ (List.getElem_mem hjl))
        clear hc1 hc2 o1 o2
        cases hd : decide (L[j] = M[j])
        · have HNO : Hid (q = false) := by
            show _ = _
            rw [← HQ.out]
            refine decide_eq_false fun e => of_decide_eq_false hd ?_
            have h := congrArg (fun K => K[j]?) e
            simp only [List.getElem?_eq_getElem hjl, List.getElem?_eq_getElem hjm, Option.some.injEq] at h
            exact h
          rw [hd] at HX
          clear hd
          generalize L[j].length = m1 at *
          generalize M[j].length = m2 at *
          have hki : (j : Int) < (L.length : Int) := by omega
          go_wp2_with fail
          go_region_held (fun V => V.cell? ⟨b1, off1 + j, none⟩ = some (.slice x m1 cx) ∧ V.cell? ⟨b2, off2 + j, none⟩ = some (.slice y m2 cy)) (first | go_keep | exact ⟨(HB2.out.cell (p := ⟨b1, off1 + j, none⟩) hb1).trans s1, (HB2.out.cell (p := ⟨b2, off2 + j, none⟩) hb2).trans s2⟩) ((go_at_call 39; refine Calls.mono (HX.out _ (by first | exact HB.out | exact HB.out.drew | exact HB.out.drew.drew)) ?_; rintro e2 w2 ⟨rfl, hbz⟩; have HB2 : Hid (Below w.heap.size w w2) := (by first | exact HB.out.drew.trans (hbz.mono (HB.out.drew).size) | exact HB.out.trans (hbz.mono HB.out.size)); clear hbz))
          all_goals go_wp2
          all_goals go_ret
          all_goals exact ⟨by rw [HNO.out]; rfl, HB2.out⟩
        · have HYE : Hid (L[j] = M[j]) := hide (of_decide_eq_true hd)
          rw [hd] at HX
          clear hd
          generalize L[j].length = m1 at *
          generalize M[j].length = m2 at *
          have hki : (j : Int) < (L.length : Int) := by omega
          go_wp2_with fail
          go_region_held (fun V => V.cell? ⟨b1, off1 + j, none⟩ = some (.slice x m1 cx) ∧ V.cell? ⟨b2, off2 + j, none⟩ = some (.slice y m2 cy)) (first | go_keep | exact ⟨(HB2.out.cell (p := ⟨b1, off1 + j, none⟩) hb1).trans s1, (HB2.out.cell (p := ⟨b2, off2 + j, none⟩) hb2).trans s2⟩) ((go_at_call 39; refine Calls.mono (HX.out _ (by first | exact HB.out | exact HB.out.drew | exact HB.out.drew.drew)) ?_; rintro e2 w2 ⟨rfl, hbz⟩; have HB2 : Hid (Below w.heap.size w w2) := (by first | exact HB.out.drew.trans (hbz.mono (HB.out.drew).size) | exact HB.out.trans (hbz.mono HB.out.size)); clear hbz))
          all_goals go_wp2
          refine ⟨⟨j + 1, by omega, by go_num, fun z h1 h2 h3 => ?_, HB2.out⟩, by simp [intOf]; omega⟩
          rcases Nat.lt_or_ge z j with h | h
          · exact HEQ.out z h1 h2 h
          · have : z = j := by omega
            subst this
            exact HYE.out
      · have HYES : Hid (q = true) := by
          show _ = _
          rw [← HQ.out]
          exact decide_eq_true (List.ext_getElem HNE.out (fun z h1 h2 => HEQ.out z h1 h2 (by omega)))
        go_wp2
        go_ret
        exact ⟨by rw [HYES.out]; rfl, HB.out⟩
  · have HNO : Hid (decide (L = M) = false) := decide_eq_false fun e => hne (by rw [e])
    have hbl : ((L.length : Int) == (M.length : Int)) = false := beq_eq_false_iff_ne.2 (by omega)
    rw [HNO.out]
    clear hL hM hl hne
    go_enter Tryz.func11, Tryz.ntmps11
    go_wp2
    go_ret
    exact ⟨rfl, Below.refl _ _⟩
end Go.Proofs.YtdcoafpenkofoaaGreatDoor


/- Stage 20: told batches are read; the plain facts of live. -/
namespace Go.Proofs.YtdcoafpenkofoaaGreatDoor
open Go.RowKit Go.MuLone
set_option linter.unusedVariables false
set_option linter.unusedSimpArgs false
theorem flat_one {A B : Type} (f : A → List B) (g : A → B) (W : List A) (h : ∀ x ∈ W, f x = [g x]) : W.flatMap f = W.map g := by
  induction W with
  | nil => rfl
  | cons x W ih => rw [List.flatMap_cons, h x (by simp), ih (fun y hy => h y (by simp [hy]))]; rfl
theorem Wy.row1 {A : Type} {K : WK A} {w : World} {base : Nat} {v : Value} {W : List A} (h : Wy K w base v W) (g : A → Value) (he : ∀ x ∈ W, K.enc x = [g x]) : ∃ a c, v = .slice a W.length c ∧ W.length ≤ maxLen ∧ (0 < W.length → ∃ b off, a = some ⟨b, off, none⟩ ∧ b < w.heap.size ∧ ∀ j (hj : j < W.length), w.cell? ⟨b, off + j, none⟩ = some (g W[j])) := by
  rcases h with ⟨rfl, rfl⟩ | ⟨b, off, cap, cur, rfl, h1, h2, h3, h4, h5, h6⟩
  · exact ⟨none, 0, rfl, by simp, by simp⟩
  · refine ⟨_, _, rfl, Nat.le_trans h2 h3, fun _ => ⟨b, off, rfl, (Array.getElem?_eq_some_iff.1 h4).1, fun j hj => ?_⟩⟩
    rw [flat_one _ g W he] at h6
    exact h6 j _ (by simp [hj])
theorem RdB.told {w : World} {base b2 : Nat} {v : Value} {W : List Rc} (h : Wy BK w base v W) (ht : ToldR b2 w W) : ∃ a c, v = .slice a W.length c ∧ W.length ≤ maxLen ∧ RdB w a (W.map (·.1)) := by
  obtain ⟨a, c, e, hl, hr⟩ := h.row1 (·.2) (fun o ho => by
    obtain ⟨x, k, e, _⟩ := (ht.own o ho).slice
    show [if o.2.oneCell' then o.2 else _] = _
    rw [e]
    rfl)
  refine ⟨a, c, e, hl, fun h0 => ?_⟩
  rw [List.length_map] at h0
  obtain ⟨b, off, e1, e2, e3⟩ := hr h0
  refine ⟨b, off, e1, e2, fun j hj => ?_⟩
  rw [List.length_map] at hj
  have ho := ht.own W[j] (List.getElem_mem hj)
  obtain ⟨x, k, e4, _⟩ := ho.slice
  have h5 := e3 j hj
  have h6 := ho.rb
  rw [e4] at h5 h6
  simp only [List.getElem_map]
  exact ⟨x, k, h5, h6⟩
theorem RdL.told {w : World} {base b2 : Nat} {v : Value} {Z : List Bt} (h : Wy AK w base v Z) (ht : ToldL b2 w Z) : ∃ a c, v = .slice a Z.length c ∧ Z.length ≤ maxLen ∧ RdL w a (batches Z) ∧ ∀ m ∈ batches Z, m.length ≤ maxLen := by
  have hrow : ∀ z ∈ Z, ∃ a c, z.2 = .slice a z.1.length c ∧ z.1.length ≤ maxLen ∧ RdB w a (z.1.map (·.1)) := fun z hz =>
    RdB.told (ht.row z hz) ⟨fun o ho => ht.rcs.own o (List.mem_flatMap.2 ⟨z, hz, ho⟩), by
      obtain ⟨l1, l2, rfl⟩ := List.append_of_mem hz
      have := ht.rcs.apt
      simp only [List.flatMap_append, List.flatMap_cons] at this
      exact (List.pairwise_append.1 (List.pairwise_append.1 this).2.1).1⟩
  obtain ⟨a, c, e, hl, hr⟩ := h.row1 (·.2) (fun o ho => by
    obtain ⟨x, k, e, _⟩ := hrow o ho
    show [if o.2.oneCell' then o.2 else _] = _
    rw [e]
    rfl)
  refine ⟨a, c, e, hl, fun h0 => ?_, fun m hm => ?_⟩
  · unfold batches at h0 ⊢
    rw [List.length_map] at h0
    obtain ⟨b, off, e1, e2, e3⟩ := hr h0
    refine ⟨b, off, e1, e2, fun j hj => ?_⟩
    rw [List.length_map] at hj
    obtain ⟨x, k, e4, _, h6⟩ := hrow Z[j] (List.getElem_mem hj)
    have h5 := e3 j hj
    rw [e4] at h5
    simp only [List.getElem_map, List.length_map]
    exact ⟨x, k, h5, h6⟩
  · obtain ⟨z, hz, rfl⟩ := List.mem_map.1 hm
    obtain ⟨_, _, _, h5, _⟩ := hrow z hz
    simpa using h5
/-- live's batch -/
abbrev lvL : List (List Nat) := [[97], [98, 99]]
theorem lv_open : jTk (dx0 1000) [] 0 0 = (0, dx0 1000, []) := by first | rfl | decide | kernel_rfl
theorem lv_batN : batN lvL = 23 := by first | rfl | decide | kernel_rfl
def lvX : Dx := (jAdd (dx0 1000) [] lvL).2.1
def lvF : List Fi := (jAdd (dx0 1000) [] lvL).2.2
theorem lv_add : (jAdd (dx0 1000) [] lvL).1 = 0 := by first | rfl | decide | kernel_rfl
theorem lv_down : lvX.down = false := by first | rfl | decide | kernel_rfl
theorem lv_len : (dat kG lvF).1.length = 23 := by first | rfl | decide | kernel_rfl
theorem lv_safe : (dat kG lvF).2 = 23 := by first | rfl | decide | kernel_rfl
theorem lv_fl : lvF.length = 1 := by first | rfl | decide | kernel_rfl
theorem lv_wl : wl (dat kG lvF).1 = ([lvL], 23, 0) := by first | rfl | decide | kernel_rfl
theorem lv_tk : (jTk lvX lvF 23 23).1 = 0 := by first | rfl | decide | kernel_rfl
theorem jn_wl : wl [0, 0, 0, 5, 0x51, 0x2e, 0x2b, 0x93, 0, 0, 0, 1, 0x61, 0x15, 0x6e, 0xc1, 0x93] = ([[[97]]], 17, 0) := by first | rfl | decide | kernel_rfl
end Go.Proofs.YtdcoafpenkofoaaGreatDoor


/- Stage 20: live. -/
namespace Go.Proofs.YtdcoafpenkofoaaGreatDoor
open Go.RowKit Go.MuLone
set_option linter.unusedVariables false
set_option linter.unusedSimpArgs false
theorem RdL.below {w w' : World} {a : Option Addr} {M : List (List (List Nat))} (h : RdL w a M) (hb : Below w.heap.size w w') : RdL w' a M := fun h0 => by
  obtain ⟨b, off, e, hlt, hc⟩ := h h0
  refine ⟨b, off, e, by have := hb.size; omega, fun j hj => ?_⟩
  obtain ⟨x, c, h1, h2⟩ := hc j hj
  exact ⟨x, c, (hb.cell (p := ⟨b, off + j, none⟩) hlt).trans h1, h2.below hb⟩
theorem open_empty (S : Nat → Prop) (w wi : World) (d : Nat) (g : Addr) (hE : Eb w g) (hT : Er w) (h : AW S w wi d (dx0 1000) []) :
    Calls Tryz.prog 19 #[.pointer (some ⟨d, 0, none⟩)] wi fun e w' => ∃ j a c S', e = .returned (.tuple #[.pointer (some ⟨j, 0, none⟩), .slice a 0 c, .int .i64 0]) ∧ JS S' w w' d j (dx0 1000) [] 0 false := by
  refine (open_good S w wi d (dx0 1000) [] g hE hT h rfl (by simp) (by simp [dat]) (by simp [dat]) rfl (by show (jTk (dx0 1000) [] 0 0).1 = 0; rw [lv_open])).mono ?_
  rintro e w' ⟨j, v, Z, rfl, _, hw, _, hz, S', _, hj, _⟩
  have e : jTk (dx0 1000) [] (dat kG []).1.length (dat kG []).2 = (0, dx0 1000, []) := lv_open
  rw [e] at hj
  have hz0 : Z = [] := by
    have : batches Z = [] := hz
    unfold batches at this
    simpa using this
  subst hz0
  obtain ⟨a, c, rfl⟩ := hw.shape
  exact ⟨j, a, c, S', rfl, hj⟩
theorem Rb.one {W : World} {A : Nat} {x : Nat} {t : TypeId} {f : Nat × Nat} (h : W.heap[A]? = some (.cells #[.int .u8 (x : Int)] t f)) (hx : x < 256) : Rb W (.slice (some ⟨A, 0, none⟩) 1 1) [x] :=
  ⟨_, _, rfl, fun e => by simp at e, by simp, rfl, by simpa using hx, fun _ => ⟨A, 0, rfl, (Array.getElem?_eq_some_iff.1 h).1, fun j hj => by
    have : j = 0 := by simp at hj; omega
    subst this
    exact cellOf h 0 _ rfl⟩⟩
theorem Rb.two {W : World} {A : Nat} {x y : Nat} {t : TypeId} {f : Nat × Nat} (h : W.heap[A]? = some (.cells #[.int .u8 (x : Int), .int .u8 (y : Int)] t f)) (hx : x < 256) (hy : y < 256) : Rb W (.slice (some ⟨A, 0, none⟩) 2 2) [x, y] :=
  ⟨_, _, rfl, fun e => by simp at e, by simp, rfl, by simp; exact ⟨hx, hy⟩, fun _ => ⟨A, 0, rfl, (Array.getElem?_eq_some_iff.1 h).1, fun j hj => by
    have : j = 0 ∨ j = 1 := by simp at hj; omega
    rcases this with rfl | rfl
    · exact cellOf h 0 _ rfl
    · exact cellOf h 1 _ rfl⟩⟩
theorem RdB.lv {W : World} {A B C : Nat} {t1 t2 t3 : TypeId} {f1 f2 f3 : Nat × Nat} (h1 : W.heap[A]? = some (.cells #[.int .u8 97] t1 f1)) (h2 : W.heap[B]? = some (.cells #[.int .u8 98, .int .u8 99] t2 f2)) (h3 : W.heap[C]? = some (.cells #[.slice (some ⟨A, 0, none⟩) 1 1, .slice (some ⟨B, 0, none⟩) 2 2] t3 f3)) : RdB W (some ⟨C, 0, none⟩) lvL := fun _ =>
  ⟨C, 0, rfl, (Array.getElem?_eq_some_iff.1 h3).1, fun j hj => by
    have : j = 0 ∨ j = 1 := by simp at hj; omega
    rcases this with rfl | rfl
    · exact ⟨_, _, cellOf h3 0 _ rfl, Rb.one (x := 97) h1 (by decide)⟩
    · exact ⟨_, _, cellOf h3 1 _ rfl, Rb.two (x := 98) (y := 99) h2 (by decide) (by decide)⟩⟩
theorem size_any {S : Nat → Prop} {w wi : World} {d j : Nat} {x : Dx} {F : List Fi} {sz : Int} {tl : Bool} (h : JS S w wi d j x F sz tl) : Calls Tryz.prog 35 #[.pointer (some ⟨j, 0, none⟩)] wi fun e w' => e = .returned (.int .i64 sz) ∧ w' = wi := by
  obtain ⟨_, c1, _, _⟩ := h.cells
  clear h
  go_enter Tryz.func35, Tryz.ntmps35
  go_wp2
  go_ret
  exact ⟨rfl, rfl⟩
set_option maxHeartbeats 4000000 in
theorem live_yes (w : World) (g : Addr) (hE : Eb w g) (hT : Er w) : Calls Tryz.prog 9 #[] w fun e w' => e = .returned (.bool true) ∧ Below w.heap.size w w' := by
  have HN := hide (aw_new w w (Below.refl _ _) 1000 (by decide) (by decide))
  have HE := hide hE
  have HT := hide hT
  clear hE hT
  go_enter Tryz.func9, Tryz.ntmps9
  go_wp2_with fail
  refine HN.out.mono ?_
  rintro e w1 ⟨d, S1, rfl, hA1, _, _⟩
  have HO := hide (open_empty S1 w w1 d g HE.out HT.out hA1)
  clear hA1
  go_wp2_with fail
  refine HO.out.mono ?_
  rintro e w2 ⟨j, a, c, S2, rfl, hJ2⟩
  obtain ⟨W3, hW3⟩ : ∃ W3, (((w2.alloc (.cells #[.int .u8 97] 5)).alloc (.cells #[.int .u8 98, .int .u8 99] 5)).alloc (.cells #[.slice (some ⟨w2.heap.size, 0, none⟩) 1 1, .slice (some ⟨w2.heap.size + 1, 0, none⟩) 2 2] 23)) = W3 := ⟨_, rfl⟩
  have hb3 : Below w2.heap.size w2 W3 := by rw [← hW3]; exact bel1 (bel1 (bel1 (Below.refl _ _) (Nat.le_refl _) _) (by simp only [World.size_alloc]; omega) _) (by simp only [World.size_alloc]; omega) _
  have hJ3 := hJ2.below hb3
  have k1 : W3.heap[w2.heap.size]? = some (.cells #[.int .u8 97] 5 (0, 0)) := by
    rw [← hW3]; exact heap_past (heap_past (heap_new _ _) _) _
  have k2 : W3.heap[w2.heap.size + 1]? = some (.cells #[.int .u8 98, .int .u8 99] 5 (0, 0)) := by
    rw [← hW3]
    have := heap_new (w2.alloc (.cells #[.int .u8 97] 5)) (.cells #[.int .u8 98, .int .u8 99] 5)
    simp only [World.size_alloc] at this
    exact heap_past this _
  have k3 : W3.heap[w2.heap.size + 1 + 1]? = some (.cells #[.slice (some ⟨w2.heap.size, 0, none⟩) 1 1, .slice (some ⟨w2.heap.size + 1, 0, none⟩) 2 2] 23 (0, 0)) := by
    rw [← hW3]
    have := heap_new ((w2.alloc (.cells #[.int .u8 97] 5)).alloc (.cells #[.int .u8 98, .int .u8 99] 5)) (.cells #[.slice (some ⟨w2.heap.size, 0, none⟩) 1 1, .slice (some ⟨w2.heap.size + 1, 0, none⟩) 2 2] 23)
    simp only [World.size_alloc] at this
    exact this
  have hns : ∀ k, w2.heap.size ≤ k → ¬ S2 k := fun k hk hs => by have := (hJ2.aw.at_ _ hs).2; omega
  have hR : ∀ W', Kp S2 W3 W' → RdB W' (some ⟨w2.heap.size + 1 + 1, 0, none⟩) lvL := fun W' hk =>
    RdB.lv ((hk.block (Array.getElem?_eq_some_iff.1 k1).1 (hns _ (by omega))).trans k1) ((hk.block (Array.getElem?_eq_some_iff.1 k2).1 (hns _ (by omega))).trans k2) ((hk.block (Array.getElem?_eq_some_iff.1 k3).1 (hns _ (by omega))).trans k3)
  have HAD := hide (Add_good S2 w W3 d j (dx0 1000) [] 0 HT.out hJ3 rfl (some ⟨w2.heap.size + 1 + 1, 0, none⟩) 2 lvL hR (by rfl) (by simp) (by rw [lv_add]; decide) (by decide) (by rw [lv_batN]; decide) (by decide) (by decide))
  have HW3 := hide hW3
  clear hW3 hb3 hJ3 k1 k2 k3 hns hR hJ2
  rw [lv_add] at HAD
  go_wp2_with fail
  rw [HW3.out]
  refine HAD.out.mono ?_
  rintro e w4 ⟨rfl, S4, _, hJ4, _⟩
  replace hJ4 : JS S4 w w4 d j lvX lvF 23 false := hJ4
  have HSZ := hide (size_any hJ4)
  have hop := open_good S4 w w4 d lvX lvF g HE.out HT.out hJ4.aw lv_down (by rw [lv_fl]; decide) (by rw [lv_len]; decide) (by rw [lv_len, lv_safe]; decide) (by rw [lv_wl]) (by rw [lv_len, lv_safe]; exact lv_tk)
  rw [lv_wl] at hop
  have HOP := hide hop
  clear hJ4 hop
  go_wp2_with fail
  refine HSZ.out.mono ?_
  rintro e w5 ⟨rfl, rfl⟩
  go_wp2_with fail
  refine HOP.out.mono ?_
  rintro e w6 ⟨j2, v, Z, rfl, _, hwy, htl, hbz, S6, _, hJ6, _⟩
  obtain ⟨va, vc, rfl, hzl, hrl, hml⟩ := RdL.told hwy htl
  have hz1 : Z.length = 1 := by
    have := congrArg List.length hbz
    simpa [batches] using this
  rw [hbz] at hrl
  rw [hz1]
  obtain ⟨W7, hW7⟩ : ∃ W7, ((((w6.alloc (.cells #[.int .u8 97] 5)).alloc (.cells #[.int .u8 98, .int .u8 99] 5)).alloc (.cells #[.slice (some ⟨w6.heap.size, 0, none⟩) 1 1, .slice (some ⟨w6.heap.size + 1, 0, none⟩) 2 2] 23)).alloc (.cells #[.slice (some ⟨w6.heap.size + 1 + 1, 0, none⟩) 2 2] 29)) = W7 := ⟨_, rfl⟩
  have hb7 : Below w6.heap.size w6 W7 := by rw [← hW7]; exact bel1 (bel1 (bel1 (bel1 (Below.refl _ _) (Nat.le_refl _) _) (by simp only [World.size_alloc]; omega) _) (by simp only [World.size_alloc]; omega) _) (by simp only [World.size_alloc]; omega) _
  have k1 : W7.heap[w6.heap.size]? = some (.cells #[.int .u8 97] 5 (0, 0)) := by
    rw [← hW7]; exact heap_past (heap_past (heap_past (heap_new _ _) _) _) _
  have k2 : W7.heap[w6.heap.size + 1]? = some (.cells #[.int .u8 98, .int .u8 99] 5 (0, 0)) := by
    rw [← hW7]
    have := heap_new (w6.alloc (.cells #[.int .u8 97] 5)) (.cells #[.int .u8 98, .int .u8 99] 5)
    simp only [World.size_alloc] at this
    exact heap_past (heap_past this _) _
  have k3 : W7.heap[w6.heap.size + 1 + 1]? = some (.cells #[.slice (some ⟨w6.heap.size, 0, none⟩) 1 1, .slice (some ⟨w6.heap.size + 1, 0, none⟩) 2 2] 23 (0, 0)) := by
    rw [← hW7]
    have := heap_new ((w6.alloc (.cells #[.int .u8 97] 5)).alloc (.cells #[.int .u8 98, .int .u8 99] 5)) (.cells #[.slice (some ⟨w6.heap.size, 0, none⟩) 1 1, .slice (some ⟨w6.heap.size + 1, 0, none⟩) 2 2] 23)
    simp only [World.size_alloc] at this
    exact heap_past this _
  have k4 : W7.heap[w6.heap.size + 1 + 1 + 1]? = some (.cells #[.slice (some ⟨w6.heap.size + 1 + 1, 0, none⟩) 2 2] 29 (0, 0)) := by
    rw [← hW7]
    have := heap_new (((w6.alloc (.cells #[.int .u8 97] 5)).alloc (.cells #[.int .u8 98, .int .u8 99] 5)).alloc (.cells #[.slice (some ⟨w6.heap.size, 0, none⟩) 1 1, .slice (some ⟨w6.heap.size + 1, 0, none⟩) 2 2] 23)) (.cells #[.slice (some ⟨w6.heap.size + 1 + 1, 0, none⟩) 2 2] 29)
    simp only [World.size_alloc] at this
    exact this
  have HSM := hide (same_any va (some ⟨w6.heap.size + 1 + 1 + 1, 0, none⟩) vc 1 [lvL] [lvL] W7 (hrl.below hb7) (RdL.one (L := lvL) (cellOf k4 0 _ rfl) (RdB.lv k1 k2 k3)) (by decide) (by intro m hm; simp only [List.mem_singleton] at hm; rw [hm]; decide))
  have hdt : decide ([lvL] = [lvL]) = true := decide_eq_true rfl
  rw [hdt] at HSM
  have HB7 : Hid (Below w.heap.size w W7) := belOn hJ6.aw.bel hJ6.aw.bel.size hb7
  have HW7 := hide hW7
  clear hwy htl hbz hJ6 hzl hrl hml hz1 hW7 hb7 k1 k2 k3 k4 hdt
  go_wp2_with fail
  rw [HW7.out]
  refine HSM.out.mono ?_
  rintro e w8 ⟨rfl, hb8⟩
  have HB8 : Hid (Below w.heap.size w w8) := belOn HB7.out HB7.out.size hb8
  clear hb8
  go_wp2
  go_ret
  exact ⟨rfl, HB8.out⟩
end Go.Proofs.YtdcoafpenkofoaaGreatDoor
