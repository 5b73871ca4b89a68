import Derived.Test.YthpkajjgbjjbbaaGreatDoorJLogM9
import Derived.Test.YthpkajjgbjjbbaaGreatDoorJLst
import Derived.Test.YthpkajjgbjjbbaaGreatDoorDLawSM9

/- Stage 20: the law's sameBytes, sameBatch, same. -/
namespace Go.Proofs.YthpkajjgbjjbbaaGreatDoor
open Go.RowKit Go.MuLone
set_option linter.unusedVariables false
set_option linter.unusedSimpArgs false
theorem mkS_list (l : List Nat) : (mkS l).toList = l.map UInt8.ofNat := by
  rw [mkS, ByteArray.toList_eq]
theorem mkS_inj {l m : List Nat} (hl : ∀ c ∈ l, c < 256) (hm : ∀ c ∈ m, c < 256) (h : l.map UInt8.ofNat = m.map UInt8.ofNat) : l = m := by
  have e : ∀ l : List Nat, (∀ c ∈ l, c < 256) → (l.map UInt8.ofNat).map UInt8.toNat = l := fun l hl => by
    rw [List.map_map]
    conv => rhs; rw [← List.map_id l]
    apply List.map_congr_left
    intro c hc
    have := hl c hc
    simp
    omega
  rw [← e l hl, ← e m hm, h]
theorem mkS_beq (l m : List Nat) (hl : ∀ c ∈ l, c < 256) (hm : ∀ c ∈ m, c < 256) : ((mkS l).toList == (mkS m).toList) = decide (l = m) := by
  rw [mkS_list, mkS_list, Bool.eq_iff_iff]
  simp only [beq_iff_eq, decide_eq_true_eq]
  exact ⟨mkS_inj hl hm, fun h => by rw [h]⟩
theorem sameBytes_any (a b : Option Addr) (n m c k : Nat) (l t : List Nat) (w : World) (hl : Rd w a n l) (ht : Rd w b m t) :
    Calls Tryz.prog 81 #[.slice a n c, .slice b m k] w fun e w' => e = .returned (.bool (decide (l = t))) ∧ w' = w := by
  have h1 := conv_any hl c
  have h2 := conv_any ht k
  have hq := mkS_beq l t hl.2.1 ht.2.1
  clear hl ht
  generalize decide (l = t) = q at *
  go_enter Tryz.func81, Tryz.ntmps81
  go_wp2
  go_ret
  exact ⟨rfl, rfl⟩
theorem Rb.rdS {w : World} {x : Option Addr} {n c : Nat} {l : List Nat} (h : Rb w (.slice x n c) l) : Rd w x n l := by
  obtain ⟨a, c', e, _, _, hr⟩ := h
  simp only [Value.slice.injEq] at e
  obtain ⟨rfl, rfl, rfl⟩ := e
  exact hr
set_option maxHeartbeats 2000000 in
theorem sameBatch_any (a b : Option Addr) (c k : Nat) (L M : List (List Nat)) (w : World) (hL : RdB w a L) (hM : RdB w b M) (hl : L.length ≤ maxLen) :
    Calls Tryz.prog 39 #[.slice a L.length c, .slice b M.length k] w fun e w' => e = .returned (.bool (decide (L = M))) ∧ Below w.heap.size w w' := by
  by_cases hne : L.length = M.length
  · have HL := hide hL
    have HM := hide hM
    have HNE := hide hne
    obtain ⟨q, hq⟩ : ∃ q, decide (L = M) = q := ⟨_, rfl⟩
    have HQ := hide hq
    have hll : L.length ≤ 9223372036854775807 := hl
    have hbl : ((L.length : Int) == (M.length : Int)) = true := by rw [hne]; simp
    have hmm : M.length = L.length := hne.symm
    clear hL hM hl hne
    rw [hq]
    rw [hmm] at hbl ⊢
    clear hq hmm
    go_enter Tryz.func39, Tryz.ntmps39
    go_wp2
    go_loopw [5] (fun i wr => ∃ j : Nat, j ≤ L.length ∧ i = .int .i64 (j : Int) ∧ Hid (∀ (z : Nat) (h1 : z < L.length) (h2 : z < M.length), z < j → L[z] = M[z]) ∧ Below w.heap.size w wr) (fun i _ => L.length - (intOf i).toNat)
    case atStart => exact ⟨0, Nat.zero_le _, rfl, fun z h1 h2 h3 => by omega, Below.refl _ _⟩
    case round =>
      obtain ⟨j, hj, rfl, HEQ, hb⟩ := hrel
      have HB := hide hb
      clear hb
      by_cases hjl : j < L.length
      · have hjm : j < M.length := by have := HNE.out; omega
        obtain ⟨b1, off1, rfl, hb1, hc1⟩ := HL.out (by omega)
        obtain ⟨b2, off2, rfl, hb2, hc2⟩ := HM.out (by omega)
        obtain ⟨x, cx, s1, o1⟩ := hc1 j hjl
        obtain ⟨y, cy, s2, o2⟩ := hc2 j hjm
        have r1 := (HB.out.cell (p := ⟨b1, off1 + j, none⟩) hb1).trans s1
        have r2 := (HB.out.cell (p := ⟨b2, off2 + j, none⟩) hb2).trans s2
        have HX : Hid (∀ V, Below w.heap.size w V → Calls Tryz.prog 81 #[.slice x L[j].length cx, .slice y M[j].length cy] V fun e w' => e = .returned (.bool (decide (L[j] = M[j]))) ∧ w' = V) := fun V hV => sameBytes_any x y _ _ cx cy _ _ V (o1.below hV).rdS (o2.below hV).rdS
        clear hc1 hc2 o1 o2 s1 s2
        cases hd : decide (L[j] = M[j])
        · have HNO : Hid (q = false) := by
            show _ = _
            rw [← HQ.out]
            refine decide_eq_false fun e => of_decide_eq_false hd ?_
            have h := congrArg (fun K => K[j]?) e
            simp only [List.getElem?_eq_getElem hjl, List.getElem?_eq_getElem hjm, Option.some.injEq] at h
            exact h
          rw [hd] at HX
          clear hd
          generalize L[j].length = m1 at *
          generalize M[j].length = m2 at *
          have hki : (j : Int) < (L.length : Int) := by omega
          go_wp2_with fail
          go_region_held (fun V => V.cell? ⟨b1, off1 + j, none⟩ = some (.slice x m1 cx) ∧ V.cell? ⟨b2, off2 + j, none⟩ = some (.slice y m2 cy)) (go_keep) ((go_at_call 81; refine Calls.mono (HX.out _ (by first | exact HB.out | exact HB.out.drew | exact HB.out.drew.drew)) ?_; rintro e2 w2 ⟨rfl, rfl⟩))
          all_goals go_wp2
          all_goals go_ret
          all_goals exact ⟨by rw [HNO.out]; rfl, by first | exact HB.out | exact HB.out.drew | exact HB.out.drew.drew⟩
        · have HYE : Hid (L[j] = M[j]) := hide (of_decide_eq_true hd)
          rw [hd] at HX
          clear hd
          generalize L[j].length = m1 at *
          generalize M[j].length = m2 at *
          have hki : (j : Int) < (L.length : Int) := by omega
          go_wp2_with fail
          go_region_held (fun V => V.cell? ⟨b1, off1 + j, none⟩ = some (.slice x m1 cx) ∧ V.cell? ⟨b2, off2 + j, none⟩ = some (.slice y m2 cy)) (go_keep) ((go_at_call 81; refine Calls.mono (HX.out _ (by first | exact HB.out | exact HB.out.drew | exact HB.out.drew.drew)) ?_; rintro e2 w2 ⟨rfl, rfl⟩))
          all_goals go_wp2
          refine ⟨⟨j + 1, by omega, by go_num, fun z h1 h2 h3 => ?_, by first | exact HB.out.drew | exact HB.out | exact HB.out.drew.drew⟩, by simp [intOf]; omega⟩
          rcases Nat.lt_or_ge z j with h | h
          · exact HEQ.out z h1 h2 h
          · have : z = j := by omega
            subst this
            exact HYE.out
      · have HYES : Hid (q = true) := by
          show _ = _
          rw [← HQ.out]
          exact decide_eq_true (List.ext_getElem HNE.out (fun z h1 h2 => HEQ.out z h1 h2 (by omega)))
        go_wp2
        go_ret
        exact ⟨by rw [HYES.out]; rfl, HB.out⟩
  · have HNO : Hid (decide (L = M) = false) := decide_eq_false fun e => hne (by rw [e])
    have hbl : ((L.length : Int) == (M.length : Int)) = false := beq_eq_false_iff_ne.2 (by omega)
    rw [HNO.out]
    clear hL hM hl hne
    go_enter Tryz.func39, Tryz.ntmps39
    go_wp2
    go_ret
    exact ⟨rfl, Below.refl _ _⟩
set_option maxHeartbeats 2000000 in
theorem same_any (a b : Option Addr) (c k : Nat) (L M : List (List (List Nat))) (w : World) (hL : RdL w a L) (hM : RdL w b M) (hl : L.length ≤ maxLen) (hm : ∀ m ∈ L, m.length ≤ maxLen) :
    Calls Tryz.prog 11 #[.slice a L.length c, .slice b M.length k] w fun e w' => e = .returned (.bool (decide (L = M))) ∧ Below w.heap.size w w' := by
  by_cases hne : L.length = M.length
  · have HMX := hide hm
    clear hm
    have HL := hide hL
    have HM := hide hM
    have HNE := hide hne
    obtain ⟨q, hq⟩ : ∃ q, decide (L = M) = q := ⟨_, rfl⟩
    have HQ := hide hq
    have hll : L.length ≤ 9223372036854775807 := hl
    have hbl : ((L.length : Int) == (M.length : Int)) = true := by rw [hne]; simp
    have hmm : M.length = L.length := hne.symm
    clear hL hM hl hne
    rw [hq]
    rw [hmm] at hbl ⊢
    clear hq hmm
    go_enter Tryz.func11, Tryz.ntmps11
    go_wp2
    go_loopw [5] (fun i wr => ∃ j : Nat, j ≤ L.length ∧ i = .int .i64 (j : Int) ∧ Hid (∀ (z : Nat) (h1 : z < L.length) (h2 : z < M.length), z < j → L[z] = M[z]) ∧ Below w.heap.size w wr) (fun i _ => L.length - (intOf i).toNat)
    case atStart => exact ⟨0, Nat.zero_le _, rfl, fun z h1 h2 h3 => by omega, Below.refl _ _⟩
    case round =>
      obtain ⟨j, hj, rfl, HEQ, hb⟩ := hrel
      have HB := hide hb
      clear hb
      by_cases hjl : j < L.length
      · have hjm : j < M.length := by have := HNE.out; omega
        obtain ⟨b1, off1, rfl, hb1, hc1⟩ := HL.out (by omega)
        obtain ⟨b2, off2, rfl, hb2, hc2⟩ := HM.out (by omega)
        obtain ⟨x, cx, s1, o1⟩ := hc1 j hjl
        obtain ⟨y, cy, s2, o2⟩ := hc2 j hjm
        have r1 := (HB.out.cell (p := ⟨b1, off1 + j, none⟩) hb1).trans s1
        have r2 := (HB.out.cell (p := ⟨b2, off2 + j, none⟩) hb2).trans s2
        have HX : Hid (∀ V, Below w.heap.size w V → Calls Tryz.prog 39 #[.slice x L[j].length cx, .slice y M[j].length cy] V fun e w' => e = .returned (.bool (decide (L[j] = M[j]))) ∧ Below V.heap.size V w') := fun V hV => sameBatch_any x y cx cy L[j] M[j] V (o1.below hV) (o2.below hV) (HMX.out _ (List.getElem_mem hjl))
        clear hc1 hc2 o1 o2
        cases hd : decide (L[j] = M[j])
        · have HNO : Hid (q = false) := by
            show _ = _
            rw [← HQ.out]
            refine decide_eq_false fun e => of_decide_eq_false hd ?_
            have h := congrArg (fun K => K[j]?) e
            simp only [List.getElem?_eq_getElem hjl, List.getElem?_eq_getElem hjm, Option.some.injEq] at h
            exact h
          rw [hd] at HX
          clear hd
          generalize L[j].length = m1 at *
          generalize M[j].length = m2 at *
          have hki : (j : Int) < (L.length : Int) := by omega
          go_wp2_with fail
          go_region_held (fun V => V.cell? ⟨b1, off1 + j, none⟩ = some (.slice x m1 cx) ∧ V.cell? ⟨b2, off2 + j, none⟩ = some (.slice y m2 cy)) (first | go_keep | exact ⟨(HB2.out.cell (p := ⟨b1, off1 + j, none⟩) hb1).trans s1, (HB2.out.cell (p := ⟨b2, off2 + j, none⟩) hb2).trans s2⟩) ((go_at_call 39; refine Calls.mono (HX.out _ (by first | exact HB.out | exact HB.out.drew | exact HB.out.drew.drew)) ?_; rintro e2 w2 ⟨rfl, hbz⟩; have HB2 : Hid (Below w.heap.size w w2) := (by first | exact HB.out.drew.trans (hbz.mono (HB.out.drew).size) | exact HB.out.trans (hbz.mono HB.out.size)); clear hbz))
          all_goals go_wp2
          all_goals go_ret
          all_goals exact ⟨by rw [HNO.out]; rfl, HB2.out⟩
        · have HYE : Hid (L[j] = M[j]) := hide (of_decide_eq_true hd)
          rw [hd] at HX
          clear hd
          generalize L[j].length = m1 at *
          generalize M[j].length = m2 at *
          have hki : (j : Int) < (L.length : Int) := by omega
          go_wp2_with fail
          go_region_held (fun V => V.cell? ⟨b1, off1 + j, none⟩ = some (.slice x m1 cx) ∧ V.cell? ⟨b2, off2 + j, none⟩ = some (.slice y m2 cy)) (first | go_keep | exact ⟨(HB2.out.cell (p := ⟨b1, off1 + j, none⟩) hb1).trans s1, (HB2.out.cell (p := ⟨b2, off2 + j, none⟩) hb2).trans s2⟩) ((go_at_call 39; refine Calls.mono (HX.out _ (by first | exact HB.out | exact HB.out.drew | exact HB.out.drew.drew)) ?_; rintro e2 w2 ⟨rfl, hbz⟩; have HB2 : Hid (Below w.heap.size w w2) := (by first | exact HB.out.drew.trans (hbz.mono (HB.out.drew).size) | exact HB.out.trans (hbz.mono HB.out.size)); clear hbz))
          all_goals go_wp2
          refine ⟨⟨j + 1, by omega, by go_num, fun z h1 h2 h3 => ?_, HB2.out⟩, by simp [intOf]; omega⟩
          rcases Nat.lt_or_ge z j with h | h
          · exact HEQ.out z h1 h2 h
          · have : z = j := by omega
            subst this
            exact HYE.out
      · have HYES : Hid (q = true) := by
          show _ = _
          rw [← HQ.out]
          exact decide_eq_true (List.ext_getElem HNE.out (fun z h1 h2 => HEQ.out z h1 h2 (by omega)))
        go_wp2
        go_ret
        exact ⟨by rw [HYES.out]; rfl, HB.out⟩
  · have HNO : Hid (decide (L = M) = false) := decide_eq_false fun e => hne (by rw [e])
    have hbl : ((L.length : Int) == (M.length : Int)) = false := beq_eq_false_iff_ne.2 (by omega)
    rw [HNO.out]
    clear hL hM hl hne
    go_enter Tryz.func11, Tryz.ntmps11
    go_wp2
    go_ret
    exact ⟨rfl, Below.refl _ _⟩
end Go.Proofs.YthpkajjgbjjbbaaGreatDoor
