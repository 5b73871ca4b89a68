import Derived.Test.YtcadlhpgapdgdaaGreatDoorJQwM9
import Derived.Test.YtcadlhpgapdgdaaGreatDoorJScanM9

/- Stage 20: the document's Scan. -/
namespace Go.Proofs.YtcadlhpgapdgdaaGreatDoor
open Go.RowKit
set_option linter.unusedVariables false
set_option linter.unusedSimpArgs false
theorem bat_push {w wr w3 w5 : World} {N : Nat} {va vb : Value} {Z : List Bt} {Wb : List Rc} {o : Obj} (hN : N ≤ wr.heap.size) (hwy : Wy AK wr N va Z) (HT : ToldL N wr Z) (HB3 : Below wr.heap.size wr w3) (hw : Wy BK w3 wr.heap.size vb Wb) (hr : ToldR wr.heap.size w3 Wb) (hgr : (w3.alloc o).grownBy w5 va.ownBlock) :
    ToldL N w5 (Z ++ [(Wb, vb)]) ∧ (Below N w wr → Below N w w5) := by
  have hb4 : Below wr.heap.size wr (w3.alloc o) := bel1 HB3 HB3.size _
  have hb34 : Below w3.heap.size w3 (w3.alloc o) := bel1 (Below.refl _ _) (Nat.le_refl _) _
  refine ⟨?_, fun h => ((h.trans (hb4.mono hN))).grown hgr (Nat.le_trans hN hb4.size) (fun k hk => (hwy.lt hk).1)⟩
  have hst : ∀ k cs ty f, (w3.alloc o).heap[k]? = some (Obj.cells cs ty f) → ty ≠ 29 → w5.heap[k]? = (w3.alloc o).heap[k]? := fun k cs ty f hk hty => by
    refine hgr.block k (Array.getElem?_eq_some_iff.1 hk).1 (fun e => ?_)
    obtain ⟨cur, hc⟩ := hwy.typ e.symm
    have := (hb4.block k (hwy.lt e.symm).2).trans hc
    rw [hk] at this
    simp only [Option.some.injEq, Obj.cells.injEq] at this
    exact hty this.2.1
  have t5 : ToldL N w5 Z := (HT.below hb4).keep fun k cs t f hk hk' hty => hst k cs t f hk' (by rcases hty with rfl | rfl <;> decide)
  have w8 : Wy BK w5 N vb Wb := (hw.mono hN).at (fun k e => by
    obtain ⟨cur, hc⟩ := hw.typ e
    have h1 := (hb34.block k (hw.lt e).2).trans hc
    exact (hst k _ _ _ h1 (by decide)).trans (hb34.block k (hw.lt e).2))
  have r9 : ToldR N w5 Wb := (hr.mono hN).keep (fun r hr' g hg => by
    obtain ⟨cs, f, hc⟩ := (hr.own r hr').blk hg
    have hl := ((hr.own r hr').lt g hg).2
    have h1 := (hb34.block g hl).trans hc
    exact (hst g _ _ _ h1 (by decide)).trans (hb34.block g hl))
  exact t5.push (B := wr.heap.size) w8 r9 (fun g hg => (hw.lt hg).1) (fun o ho g hg => ((hr.own o ho).lt g hg).1) (fun z hz g hg => ((HT.row z hz).lt hg).2) (fun z hz o ho g hg => ((HT.rcs.own o (List.mem_flatMap.2 ⟨z, hz, ho⟩)).lt g hg).2)
/-- what is amiss behind the last whole batch, as the document's Scan asks it -/
theorem torn_iff (X : List Nat) (hX : ∀ c ∈ X, c < 256) (h : (wl X).1 = [] ∧ (wl X).2.1 = 0) : (X.length < 8 ∧ (wl X).2.2 < 2) ∨ (8 ≤ X.length ∧ hdQ X = -1 ∧ 2 ≤ (wl X).2.2) ∨ (8 ≤ X.length ∧ ∃ G : Nat, G < 4294967296 + X.length ∧ hdQ X = (G : Int) ∧ G + 12 ≤ X.length ∧ 2 ≤ (wl X).2.2) ∨ (8 ≤ X.length ∧ ∃ G : Nat, G < 4294967296 ∧ hdQ X = (G : Int) ∧ X.length < G + 12 ∧ (wl X).2.2 < 2) := by
  by_cases h0 : X.length = 0
  · left
    rw [wl_nil h0]
    exact ⟨by omega, by decide⟩
  · by_cases h1 : (fst1 X).1 = 0
    · have := fst1_size X h1
      rw [wl_one h0 h1] at h
      exact absurd h.1 (by simp)
    · rw [wl_bad h0 h1]
      by_cases h8 : X.length < 8
      · left
        refine ⟨h8, ?_⟩
        unfold fst1
        rw [if_pos h8]
        decide
      · right
        by_cases h5 : getN (X.take 4) < 5 ∨ sst X 4 = false
        · left
          refine ⟨by omega, if_pos (.inr h5), ?_⟩
          unfold fst1
          rw [if_neg h8, if_pos h5]
          decide
        · right
          have hq : hdQ X = (getN (X.take 4) : Int) := if_neg (fun h => h.elim h8 h5)
          by_cases hl : X.length < 8 + getN (X.take 4) + 4
          · right
            refine ⟨by omega, _, getN_lt4 (fun c hc => hX c (List.mem_of_mem_take hc)) (by rw [List.length_take]; omega), hq, by omega, ?_⟩
            unfold fst1
            rw [if_neg h8, if_neg h5, if_pos hl]
            decide
          · left
            refine ⟨by omega, _, by omega, hq, by omega, ?_⟩
            unfold fst1 at h1 ⊢
            rw [if_neg h8, if_neg h5, if_neg hl] at h1 ⊢
            split
            · decide
            · rename_i hs
              rw [if_neg hs] at h1
              cases hp : spl ((X.drop 8).take (getN (X.take 4))) with
              | none => show 2 ≤ 2; decide
              | some t => rw [hp] at h1; exact absurd rfl h1
set_option maxHeartbeats 8000000 in
theorem scan20_any (b off n cap : Nat) (l : List Nat) (s : Int) (w : World) (hrd : Rd w (some ⟨b, off, none⟩) n l) (hbw : b < w.heap.size) (hc : n ≤ cap) (hn : n ≤ 70368744177664) (hs : -9223372036854775808 ≤ s ∧ s < 9223372036854775808) :
    Calls Tryz.prog 13 #[.slice (some ⟨b, off, none⟩) n cap, .int .i64 s] w fun e w' => ScP w.heap.size l s e w' ∧ Below w.heap.size w w' := by
  have HR := hide hrd
  have hln : l.length = n := hrd.1
  have HLN := hide hln
  by_cases hneg : s < 0
  · have HQ : Hid (scn l s = ([], 0, 1)) := if_pos (.inl hneg)
    clear hrd hln
    go_enter Tryz.func13, Tryz.ntmps13
    go_wp2
    refine bodyPost_ret (results_tmp3 rfl _ _ _) rfl ?_
    exact ⟨ScP.nil HQ.out _, Below.refl _ _⟩
  · by_cases hbig : (n : Int) < s
    · have HQ : Hid (scn l s = ([], 0, 1)) := if_pos (.inr (by omega))
      clear hrd hln
      go_enter Tryz.func13, Tryz.ntmps13
      go_wp2
      refine bodyPost_ret (results_tmp3 rfl _ _ _) rfl ?_
      exact ⟨ScP.nil HQ.out _, Below.refl _ _⟩
    · have HNB : Hid (¬ (s < 0 ∨ (l.length : Int) < s)) := by show ¬ _; rw [hln]; omega
      have HHD : Hid (∀ k, k ≤ n → ∀ W, Below w.heap.size w W → Calls Tryz.prog 41 #[.slice (some ⟨b, off, none⟩) n cap, .int .i64 (k : Int)] W fun e w' => e = .returned (.int .i64 (hdQ (l.drop k))) ∧ W = w') := fun k hk W hW => head_any b off n cap k l W (by omega) hc hk (hrd.below hW)
      clear hrd hln
      go_enter Tryz.func13, Tryz.ntmps13
      go_wp2
      go_loopw [7, 8] (fun vr i wr => ∃ (k : Nat) (Z : List Bt), k ≤ n ∧ i = .int .i64 (k : Int) ∧ Wy AK wr w.heap.size vr Z ∧ Hid (ToldL w.heap.size wr Z) ∧ Hid (batches Z ++ (wl (l.drop k)).1 = (wl l).1 ∧ k + (wl (l.drop k)).2.1 = (wl l).2.1 ∧ (wl (l.drop k)).2.2 = (wl l).2.2) ∧ Below w.heap.size w wr ∧ Z.length * 17 ≤ k) (fun _ i _ => n - (intOf i).toNat)
      case atStart => exact ⟨0, [], Nat.zero_le _, rfl, .inl ⟨rfl, rfl⟩, ToldL.nil _ _, hide ⟨by simp [batches], by simp, by simp⟩, Below.refl _ _, by simp⟩
      case round =>
        obtain ⟨k, Z, hk, rfl, hwy, HT, HS, hb, hlen⟩ := hrel
        obtain ⟨va, vc, rfl⟩ := hwy.shape
        have HWY := hide hwy
        have HB := hide hb
        have HLen := hide hlen
        have HDL : Hid ((l.drop k).length = n - k) := by show _ = _; rw [List.length_drop, HLN.out]
        by_cases hkn : k < n
        · have HWH := hide (whole20_any b off n cap k l wr (HR.out.below hb) (Nat.lt_of_lt_of_le hbw hb.size) hc (by omega) hk)
          clear hwy hb hlen
          go_wp2_with fail
          refine HWH.out.mono ?_
          rintro e w3 ⟨hcase, hb3⟩
          have HB3 := hide hb3
          clear hb3
          rcases hcase with ⟨hne, rfl⟩ | ⟨heq, v5, rfl, W5, hw5, hwy5, htl5⟩
          · have HX : Hid ((wl (l.drop k)).1 = [] ∧ (wl (l.drop k)).2.1 = 0) := by
              show _ ∧ _
              rw [wl_bad (by rw [HDL.out]; omega) hne]
              exact ⟨rfl, rfl⟩
            clear hne
            have HBW : Hid (Below w.heap.size w w3) := HB.out.trans (HB3.out.mono HB.out.size)
            have HZ : Hid (Wy AK w3 w.heap.size (.slice va Z.length vc) Z ∧ ToldL w.heap.size w3 Z) := ⟨HWY.out.at (fun q hq => HB3.out.block q (HWY.out.lt hq).2), HT.out.below HB3.out⟩
            go_wp2_with fail
            refine (HHD.out k hk w3 HBW.out).mono ?_
            rintro e w4 ⟨rfl, rfl⟩
            have HEN : Hid ((wl l).2.1 = k ∧ batches Z = (wl l).1) := by
              obtain ⟨s1, s2, s3⟩ := HS.out
              rw [HX.out.1, List.append_nil] at s1
              rw [HX.out.2] at s2
              exact ⟨by omega, s1⟩
            have hto := torn_iff (l.drop k) (fun c hc => HR.out.2.1 c (List.mem_of_mem_drop hc)) HX.out
            rw [HDL.out, HS.out.2.2] at hto
            generalize hdQ (l.drop k) = D at *
            obtain ⟨c, hcq⟩ : ∃ c, (wl l).2.2 = c := ⟨_, rfl⟩
            have HCQ := hide hcq
            rw [hcq] at hto
            clear hcq
            have HOK : Hid (¬ ((k : Int) < s ∧ 2 ≤ c) → scn l s = ((wl l).1, k, 0)) := fun h => by
              unfold scn
              rw [if_neg HNB.out, HEN.out.1, HCQ.out, if_neg h]
            have HTO : Hid (((k : Int) < s ∧ 2 ≤ c) → scn l s = ([], k, 201)) := fun h => by
              unfold scn
              rw [if_neg HNB.out, HEN.out.1, HCQ.out, if_pos h]
            rcases hto with ⟨h8, h2⟩ | ⟨h8, rfl, h2⟩ | ⟨h8, G, hg, rfl, h12, h2⟩ | ⟨h8, G, hg, rfl, h12, h2⟩
            · have h8i : ¬ (8 : Int) ≤ (n : Int) - (k : Int) := by omega
              by_cases hks : (k : Int) < s
              · skip
                have HQ := hide (HOK.out (by omega))
                go_wp2
                all_goals refine bodyPost_ret (results_tmp3 rfl _ _ _) rfl ?_
                all_goals exact ⟨⟨_, Z, by rw [HQ.out]; rfl, HZ.out.1, HZ.out.2, by rw [HQ.out]; exact HEN.out.2⟩, HBW.out⟩
              · skip
                have HQ := hide (HOK.out (by omega))
                go_wp2
                all_goals refine bodyPost_ret (results_tmp3 rfl _ _ _) rfl ?_
                all_goals exact ⟨⟨_, Z, by rw [HQ.out]; rfl, HZ.out.1, HZ.out.2, by rw [HQ.out]; exact HEN.out.2⟩, HBW.out⟩
            · have h8i : (8 : Int) ≤ (n : Int) - (k : Int) := by omega
              by_cases hks : (k : Int) < s
              · skip
                have HQ := hide (HTO.out ⟨hks, by omega⟩)
                go_wp2
                all_goals refine bodyPost_ret (results_tmp3 rfl _ _ _) rfl ?_
                all_goals exact ⟨ScP.nil HQ.out _, HBW.out⟩
              · skip
                have HQ := hide (HOK.out (by omega))
                go_wp2
                all_goals refine bodyPost_ret (results_tmp3 rfl _ _ _) rfl ?_
                all_goals exact ⟨⟨_, Z, by rw [HQ.out]; rfl, HZ.out.1, HZ.out.2, by rw [HQ.out]; exact HEN.out.2⟩, HBW.out⟩
            · have h8i : (8 : Int) ≤ (n : Int) - (k : Int) := by omega
              have h12i : (G : Int) + 12 ≤ (n : Int) - (k : Int) := by omega
              have hgn : ¬ (G : Int) < 0 := by omega
              by_cases hks : (k : Int) < s
              · skip
                have HQ := hide (HTO.out ⟨hks, by omega⟩)
                go_wp2
                all_goals refine bodyPost_ret (results_tmp3 rfl _ _ _) rfl ?_
                all_goals exact ⟨ScP.nil HQ.out _, HBW.out⟩
              · skip
                have HQ := hide (HOK.out (by omega))
                go_wp2
                all_goals refine bodyPost_ret (results_tmp3 rfl _ _ _) rfl ?_
                all_goals exact ⟨⟨_, Z, by rw [HQ.out]; rfl, HZ.out.1, HZ.out.2, by rw [HQ.out]; exact HEN.out.2⟩, HBW.out⟩
            · have h8i : (8 : Int) ≤ (n : Int) - (k : Int) := by omega
              have h12i : ¬ (G : Int) + 12 ≤ (n : Int) - (k : Int) := by omega
              have hgn : ¬ (G : Int) < 0 := by omega
              by_cases hks : (k : Int) < s
              · skip
                have HQ := hide (HOK.out (by omega))
                go_wp2
                all_goals refine bodyPost_ret (results_tmp3 rfl _ _ _) rfl ?_
                all_goals exact ⟨⟨_, Z, by rw [HQ.out]; rfl, HZ.out.1, HZ.out.2, by rw [HQ.out]; exact HEN.out.2⟩, HBW.out⟩
              · skip
                have HQ := hide (HOK.out (by omega))
                go_wp2
                all_goals refine bodyPost_ret (results_tmp3 rfl _ _ _) rfl ?_
                all_goals exact ⟨⟨_, Z, by rw [HQ.out]; rfl, HZ.out.1, HZ.out.2, by rw [HQ.out]; exact HEN.out.2⟩, HBW.out⟩
          · have hsz := fst1_size _ heq
            rw [HDL.out] at hsz
            obtain ⟨z, hz⟩ : ∃ z, (fst1 (l.drop k)).2.2 = z := ⟨_, rfl⟩
            have HZ0 : Hid (w.heap.size ≤ wr.heap.size) := HB.out.size
            have HWO : Hid (wl (l.drop k) = ((fst1 (l.drop k)).2.1 :: (wl (l.drop (k + z))).1, z + (wl (l.drop (k + z))).2.1, (wl (l.drop (k + z))).2.2)) := by
              show _ = _
              have := wl_one (b := l.drop k) (by rw [HDL.out]; omega) heq
              rw [hz, List.drop_drop] at this
              exact this
            rw [hz] at hsz ⊢
            obtain ⟨xa, xc, rfl⟩ := hwy5.shape
            have HW5 := hide (And.intro hw5 (And.intro hwy5 htl5))
            have hnz : (((k + z : Nat) : Int) == 0) = false := beq_eq_false_iff_ne.2 (by omega)
            have HSZ := hide hsz
            clear hw5 hwy5 htl5 heq hz hsz
            obtain ⟨y, hy⟩ : ∃ y, k + z = y := ⟨_, rfl⟩
            have HYE := hide hy
            rw [hy] at hnz ⊢
            clear hy
            go_wp2_with (at_builtin; go_loud (refine wpList_append_way akOk _ rfl (.tmp 34) (.tmp 36) rfl w.heap.size (.slice va Z.length vc) Z (W5, .slice xa W5.length xc) rfl (HWY.out.at fun q hq => (bel1 HB3.out HB3.out.size _).block q (HWY.out.lt hq).2) w3.heap.size 1 rfl (heap_new _ _) (by have := HZ0.out; have := HB3.out.size; simp; omega) (by have := HLen.out; simp only [AK]; omega) ?_; intro v6 w6 hwy6 hgr6 hat6))
            have HPU := bat_push (w := w) HZ0.out HWY.out HT.out HB3.out HW5.out.2.1 HW5.out.2.2 hgr6
            have hzz := HSZ.out
            have hye := HYE.out
            refine ⟨⟨y, _, by omega, rfl, hwy6, HPU.1, hide ?_, HPU.2 HB.out, ?_⟩, ?_⟩
            · obtain ⟨s1, s2, s3⟩ := HS.out
              rw [HWO.out, hye] at s1 s2 s3
              refine ⟨?_, by rw [← s2]; show y + _ = k + (z + _); omega, s3⟩
              rw [← s1, ← HW5.out.1]
              simp [batches]
            · rw [List.length_append]
              have := HLen.out
              simp
              omega
            · simp [intOf]
              omega
        · have hkn' : k = n := by omega
          have HX : Hid ((wl (l.drop k)).1 = [] ∧ (wl (l.drop k)).2.1 = 0) := by
            show _ ∧ _
            rw [wl_nil (by rw [HDL.out]; omega)]
            exact ⟨rfl, rfl⟩
          have HBW : Hid (Below w.heap.size w wr) := HB.out
          have HZ : Hid (Wy AK wr w.heap.size (.slice va Z.length vc) Z ∧ ToldL w.heap.size wr Z) := ⟨HWY.out, HT.out⟩
          clear hwy hb hlen
          clear hkn'
          have hkn2 : ¬ (k : Int) < (n : Int) := by omega
          go_wp2_with fail
          refine (HHD.out k hk wr HBW.out).mono ?_
          rintro e w4 ⟨rfl, rfl⟩
          have HEN : Hid ((wl l).2.1 = k ∧ batches Z = (wl l).1) := by
            obtain ⟨s1, s2, s3⟩ := HS.out
            rw [HX.out.1, List.append_nil] at s1
            rw [HX.out.2] at s2
            exact ⟨by omega, s1⟩
          have hto := torn_iff (l.drop k) (fun c hc => HR.out.2.1 c (List.mem_of_mem_drop hc)) HX.out
          rw [HDL.out, HS.out.2.2] at hto
          generalize hdQ (l.drop k) = D at *
          obtain ⟨c, hcq⟩ : ∃ c, (wl l).2.2 = c := ⟨_, rfl⟩
          have HCQ := hide hcq
          rw [hcq] at hto
          clear hcq
          have HOK : Hid (¬ ((k : Int) < s ∧ 2 ≤ c) → scn l s = ((wl l).1, k, 0)) := fun h => by
            unfold scn
            rw [if_neg HNB.out, HEN.out.1, HCQ.out, if_neg h]
          have HTO : Hid (((k : Int) < s ∧ 2 ≤ c) → scn l s = ([], k, 201)) := fun h => by
            unfold scn
            rw [if_neg HNB.out, HEN.out.1, HCQ.out, if_pos h]
          rcases hto with ⟨h8, h2⟩ | ⟨h8, rfl, h2⟩ | ⟨h8, G, hg, rfl, h12, h2⟩ | ⟨h8, G, hg, rfl, h12, h2⟩
          · have h8i : ¬ (8 : Int) ≤ (n : Int) - (k : Int) := by omega
            by_cases hks : (k : Int) < s
            · skip
              have HQ := hide (HOK.out (by omega))
              go_wp2
              all_goals refine bodyPost_ret (results_tmp3 rfl _ _ _) rfl ?_
              all_goals exact ⟨⟨_, Z, by rw [HQ.out]; rfl, HZ.out.1, HZ.out.2, by rw [HQ.out]; exact HEN.out.2⟩, HBW.out⟩
            · skip
              have HQ := hide (HOK.out (by omega))
              go_wp2
              all_goals refine bodyPost_ret (results_tmp3 rfl _ _ _) rfl ?_
              all_goals exact ⟨⟨_, Z, by rw [HQ.out]; rfl, HZ.out.1, HZ.out.2, by rw [HQ.out]; exact HEN.out.2⟩, HBW.out⟩
          · have h8i : (8 : Int) ≤ (n : Int) - (k : Int) := by omega
            by_cases hks : (k : Int) < s
            · skip
              have HQ := hide (HTO.out ⟨hks, by omega⟩)
              go_wp2
              all_goals refine bodyPost_ret (results_tmp3 rfl _ _ _) rfl ?_
              all_goals exact ⟨ScP.nil HQ.out _, HBW.out⟩
            · skip
              have HQ := hide (HOK.out (by omega))
              go_wp2
              all_goals refine bodyPost_ret (results_tmp3 rfl _ _ _) rfl ?_
              all_goals exact ⟨⟨_, Z, by rw [HQ.out]; rfl, HZ.out.1, HZ.out.2, by rw [HQ.out]; exact HEN.out.2⟩, HBW.out⟩
          · have h8i : (8 : Int) ≤ (n : Int) - (k : Int) := by omega
            have h12i : (G : Int) + 12 ≤ (n : Int) - (k : Int) := by omega
            have hgn : ¬ (G : Int) < 0 := by omega
            by_cases hks : (k : Int) < s
            · skip
              have HQ := hide (HTO.out ⟨hks, by omega⟩)
              go_wp2
              all_goals refine bodyPost_ret (results_tmp3 rfl _ _ _) rfl ?_
              all_goals exact ⟨ScP.nil HQ.out _, HBW.out⟩
            · skip
              have HQ := hide (HOK.out (by omega))
              go_wp2
              all_goals refine bodyPost_ret (results_tmp3 rfl _ _ _) rfl ?_
              all_goals exact ⟨⟨_, Z, by rw [HQ.out]; rfl, HZ.out.1, HZ.out.2, by rw [HQ.out]; exact HEN.out.2⟩, HBW.out⟩
          · have h8i : (8 : Int) ≤ (n : Int) - (k : Int) := by omega
            have h12i : ¬ (G : Int) + 12 ≤ (n : Int) - (k : Int) := by omega
            have hgn : ¬ (G : Int) < 0 := by omega
            by_cases hks : (k : Int) < s
            · skip
              have HQ := hide (HOK.out (by omega))
              go_wp2
              all_goals refine bodyPost_ret (results_tmp3 rfl _ _ _) rfl ?_
              all_goals exact ⟨⟨_, Z, by rw [HQ.out]; rfl, HZ.out.1, HZ.out.2, by rw [HQ.out]; exact HEN.out.2⟩, HBW.out⟩
            · skip
              have HQ := hide (HOK.out (by omega))
              go_wp2
              all_goals refine bodyPost_ret (results_tmp3 rfl _ _ _) rfl ?_
              all_goals exact ⟨⟨_, Z, by rw [HQ.out]; rfl, HZ.out.1, HZ.out.2, by rw [HQ.out]; exact HEN.out.2⟩, HBW.out⟩
end Go.Proofs.YtcadlhpgapdgdaaGreatDoor


/- Stage 20: the document's Scan of any bytes. -/
namespace Go.Proofs.YtcadlhpgapdgdaaGreatDoor
open Go.RowKit
set_option linter.unusedVariables false
set_option linter.unusedSimpArgs false
theorem head_none (a : Option Addr) (cap : Nat) (w : World) : Calls Tryz.prog 41 #[.slice a 0 cap, .int .i64 0] w fun e w' => e = .returned (.int .i64 (-1)) ∧ w = w' := by
  go_enter Tryz.func41, Tryz.ntmps41
  go_wp2
  go_ret
  exact ⟨rfl, rfl⟩
set_option maxHeartbeats 2000000 in
theorem scan20_empty (a : Option Addr) (cap : Nat) (s : Int) (w : World) : Calls Tryz.prog 13 #[.slice a 0 cap, .int .i64 s] w fun e w' => ScP w.heap.size [] s e w' ∧ Below w.heap.size w w' := by
  by_cases hneg : s < 0
  · have HQ : Hid (scn [] s = ([], 0, 1)) := if_pos (.inl hneg)
    go_enter Tryz.func13, Tryz.ntmps13
    go_wp2
    refine bodyPost_ret (results_tmp3 rfl _ _ _) rfl ?_
    exact ⟨ScP.nil HQ.out _, Below.refl _ _⟩
  · by_cases hbig : 0 < s
    · have HQ : Hid (scn [] s = ([], 0, 1)) := if_pos (.inr (by simpa using hbig))
      go_enter Tryz.func13, Tryz.ntmps13
      go_wp2
      refine bodyPost_ret (results_tmp3 rfl _ _ _) rfl ?_
      exact ⟨ScP.nil HQ.out _, Below.refl _ _⟩
    · have hs0 : s = 0 := by omega
      subst hs0
      have HQ : Hid (scn [] 0 = ([], 0, 0)) := by show _ = _; unfold scn; rw [if_neg (by simp), wl_nil rfl, if_neg (by simp)]
      go_enter Tryz.func13, Tryz.ntmps13
      go_wp2
      go_loop [7, 8] (fun vr i => vr = .slice none 0 0 ∧ i = .int .i64 0) (fun _ _ => 0)
      case atStart => exact ⟨rfl, rfl⟩
      case round =>
        obtain ⟨rfl, rfl⟩ := hrel
        go_wp2_with (go_at_call 41; refine (head_none a cap _).mono ?_; rintro e w' ⟨rfl, rfl⟩)
        refine bodyPost_ret (results_tmp3 rfl _ _ _) rfl ?_
        exact ⟨ScP.nil HQ.out _, Below.refl _ _⟩
theorem scan20_rb (a : Option Addr) (cap : Nat) (l : List Nat) (s : Int) (w : World) (hr : Rb w (.slice a l.length cap) l) (hn : l.length ≤ 70368744177664) (hs : -9223372036854775808 ≤ s ∧ s < 9223372036854775808) :
    Calls Tryz.prog 13 #[.slice a l.length cap, .int .i64 s] w fun e w' => ScP w.heap.size l s e w' ∧ Below w.heap.size w w' := by
  obtain ⟨a', c', e, _, hc, hrd⟩ := hr
  simp only [Value.slice.injEq, true_and] at e
  obtain ⟨rfl, rfl⟩ := e
  by_cases h0 : l.length = 0
  · have hl : l = [] := List.length_eq_zero_iff.1 h0
    subst hl
    exact scan20_empty a cap s w
  · obtain ⟨b, off, rfl, hb, _⟩ := hrd.2.2 (by omega)
    exact scan20_any b off l.length cap l s w hrd hb hc hn hs
end Go.Proofs.YtcadlhpgapdgdaaGreatDoor
