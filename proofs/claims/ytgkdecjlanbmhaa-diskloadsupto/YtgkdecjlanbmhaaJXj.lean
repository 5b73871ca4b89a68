
/- Stages 19, 20: the document's disk: Rename. -/
import Derived.Test.YtgkdecjlanbmhaaJXi
namespace Go.Proofs.Ytgkdecjlanbmhaa
open Go.RowKit Go.Maps Go.MuLone
set_option linter.unusedVariables false
set_option linter.unusedSimpArgs false
theorem perm_head {F : List Fi} (hn : (F.map (·.1)).Nodup) {k : ByteArray} (h : ∃ f ∈ F, f.1 = k) : F.Perm ((k, dat k F) :: woF k F) := by
  obtain ⟨f, hf, rfl⟩ := h
  obtain ⟨i, hi, rfl⟩ := List.getElem_of_mem hf
  have := set_perm hn hi F[i]
  rw [List.set_getElem_self] at this
  rw [dat_mem hn hf rfl]
  exact this
theorem DB.kp {B : Nat} {w w' : World} {v : Value} {l : List Nat} {T : Nat → Prop} (h : DB B w v l) (hk : Kp T w w') (hT : ∀ g, v.ownBlock = some g → ¬ T g) : DB B w' v l := h.same hk.size (fun g e => hk.block (h.2 g e).2 (hT g e))
section
variable {w w' : World} {B r : Nat} {lv : Value} {x : Dx} {W : List Fo}
set_option maxHeartbeats 8000000 in
set_option maxRecDepth 100000 in
theorem rename_r (h : XD w B r lv x W) (hB : B ≤ w.heap.size) (a b : ByteArray) (hsa : a.size ≤ 4611686018427387904) (hsb : b.size ≤ 4611686018427387904) :
    Calls Try.prog 33 #[.pointer (some ⟨r, 0, none⟩), .string a, .string b] w fun e w' => e = .returned (.int .i64 (dRen x (W.map (·.1)) a b).1) ∧ XN w B r lv (dRen x (W.map (·.1)) a b).2.1 (dRen x (W.map (·.1)) a b).2.2 w' := by
  have HX := hide h
  have HNA := hide (isN_any a hsa w)
  have HNB := hide (isN_any b hsb w)
  have HFD := hide (find_r h.rd a)
  obtain ⟨_, _, d0, _, c2, _, _, _, _⟩ := h.rd.cells
  clear h hsa hsb
  cases hd : x.down
  case true =>
    have HD : Hid (dRen x (W.map (·.1)) a b = (3, x, W.map (·.1))) := by show _ = _; unfold dRen findE; rw [hd]; rfl
    rw [hd] at c2
    clear hd d0
    obtain ⟨ba, hba⟩ : ∃ ba, nm a = ba := ⟨_, rfl⟩
    obtain ⟨bb, hbb⟩ : ∃ bb, nm b = bb := ⟨_, rfl⟩
    rw [hba] at HNA
    rw [hbb] at HNB
    clear hba hbb
    go_enter Try.func33, Try.ntmps33
    go_wp2_with fail
    refine HNA.out.mono ?_
    rintro e w' ⟨rfl, hw'⟩
    obtain rfl := hw'.symm
    go_wp2_with fail
    refine HNB.out.mono ?_
    rintro e w' ⟨rfl, hw'⟩
    obtain rfl := hw'.symm
    go_wp2
    go_ret
    rw [HD.out]
    exact ⟨rfl, HX.out.same⟩
  case false =>
    rw [hd] at c2
    by_cases hnn : nm a = true ∧ nm b = true
    case neg =>
      have HD : Hid (dRen x (W.map (·.1)) a b = (1, x, W.map (·.1))) := by
        show _ = _
        unfold dRen findE
        rw [hd]
        cases h1 : nm a <;> cases h2 : nm b <;> first | (exfalso; exact hnn ⟨h1, h2⟩) | simp [h1, h2]
      have hor : (nm a = false) ∨ (nm a = true ∧ nm b = false) := by
        cases h1 : nm a
        · exact .inl rfl
        · cases h2 : nm b
          · exact .inr ⟨rfl, rfl⟩
          · exact absurd ⟨h1, h2⟩ hnn
      clear hnn hd d0
      obtain ⟨bb, hbb⟩ : ∃ bb, nm b = bb := ⟨_, rfl⟩
      rw [hbb] at HNB hor
      rcases hor with hq | ⟨hq, rfl⟩
      all_goals
        rw [hq] at HNA
        clear hq hbb
        go_enter Try.func33, Try.ntmps33
        go_wp2_with fail
        refine HNA.out.mono ?_
        rintro e w' ⟨rfl, hw'⟩
        obtain rfl := hw'.symm
        go_wp2_with fail
        refine HNB.out.mono ?_
        rintro e w' ⟨rfl, hw'⟩
        obtain rfl := hw'.symm
        go_wp2
        go_ret
        rw [HD.out]
        exact ⟨rfl, HX.out.same⟩
    case pos =>
      obtain ⟨hn1, hn2⟩ := hnn
      rw [hn1] at HNA
      rw [hn2] at HNB
      have hfe : findE x.down ((W.map (·.1)).map (·.1)) a [b] = if hasN ((W.map (·.1)).map (·.1)) a then 0 else 191 := by unfold findE; rw [hd]; simp [hn1, hn2]
      have HFE := hide hfe
      clear hfe hn1 hn2 hd
      go_enter Try.func33, Try.ntmps33
      go_wp2_with fail
      refine HNA.out.mono ?_
      rintro e w' ⟨rfl, hw'⟩
      obtain rfl := hw'.symm
      go_wp2_with fail
      refine HNB.out.mono ?_
      rintro e w' ⟨rfl, hw'⟩
      obtain rfl := hw'.symm
      clear HNA HNB
      go_wp2_with fail
      refine HFD.out.mono ?_
      rintro e w' ⟨hf, hw'⟩
      obtain rfl := hw'.symm
      rcases hf with ⟨i, hi, he, rfl⟩ | ⟨hf, rfl⟩
      case inr =>
        have HD : Hid (dRen x (W.map (·.1)) a b = (191, x, W.map (·.1))) := by
          have hno : hasN ((W.map (·.1)).map (·.1)) a = false := by
            cases hh : hasN ((W.map (·.1)).map (·.1)) a
            · rfl
            · obtain ⟨o, ho, e⟩ := hasN_names.1 hh
              exact absurd e (hf o ho)
          show _ = _
          unfold dRen
          rw [HFE.out, hno]
          rfl
        clear hf
        go_wp2
        go_ret
        rw [HD.out]
        exact ⟨rfl, HX.out.same⟩
      case inl =>
        obtain ⟨g, off, cap, a1, c1, elv, _, _, hg, hgr, r0, r1, r2, he2, hc1⟩ := HX.out.rd.elem i hi
        subst elv
        have hde := HX.out.rd.dat W[i] (List.getElem_mem hi)
        have hsz := HX.out.size W[i] (List.getElem_mem hi)
        have hF0 : findE x.down ((W.map (·.1)).map (·.1)) a [b] = 0 := by rw [HFE.out, hasN_names.2 ⟨_, List.getElem_mem hi, he⟩]; rfl
        have hmem := List.getElem_mem hi
        obtain ⟨o, ho⟩ : ∃ o, W[i] = o := ⟨_, rfl⟩
        rw [ho] at r0 r1 r2 he2 hc1 hde he hsz hmem
        obtain ⟨⟨s, l, z⟩, ov⟩ := o
        dsimp only at r0 r1 r2 he2 hc1 hde he hsz
        subst he2
        subst he
        have hnd := HX.out.rd.nodup
        have hdat : dat s (W.map (·.1)) = (l, z) := dat_mem hnd (List.mem_map_of_mem hmem) rfl
        have HDT := hide hdat
        have HDE := hide hde
        have HSZ := hide hsz
        have HMM := hide hmem
        have HF0 := hide hF0
        have hin : ¬ (i : Int) < 0 := by omega
        have hil : (i : Int) < (W.length : Int) := by omega
        obtain ⟨W1, hW1⟩ : ∃ W1, w.alloc (.cells #[.string s, .slice a1 l.length c1, .int .i64 (z : Int)] 44) = W1 := ⟨_, rfl⟩
        have hb1 : Below w.heap.size w W1 := by rw [← hW1]; exact bel1 (Below.refl _ _) (Nat.le_refl _) _
        have hO1 : W1.heap[w.heap.size]? = some (.cells #[.string s, .slice a1 l.length c1, .int .i64 (z : Int)] 44 (0, 0)) := by rw [← hW1]; exact heap_new _ _
        have HB1 := hide hb1
        have HO1 := hide hO1
        have HW1 := hide hW1
        clear hW1 hb1 hO1 hdat hde hsz hmem hF0 hnd ho hc1
        by_cases hsf : z < l.length
        · have HD : Hid (dRen x (W.map (·.1)) s b = (192, x, W.map (·.1))) := by show _ = _; unfold dRen; rw [if_neg (by rw [HF0.out]; simp), HDT.out, if_pos hsf]
          have hzi : (z : Int) < (l.length : Int) := by omega
          clear hsf
          go_wp2
          go_ret
          rw [HD.out]
          exact ⟨rfl, XN.via (lv1 := .slice (some ⟨g, off, none⟩) W.length cap) (x1 := x) (W1 := W) (Kp.ofBelow (by rw [HW1.out]; exact HB1.out)) (fun g e => .inl e) (XD.same ⟨HX.out.rd.below (by rw [HW1.out]; exact HB1.out), HX.out.ok, HX.out.few⟩)⟩
        · have HFA := hide (fails_r (HX.out.rd.below HB1.out) ⟨HX.out.ok.left0, HX.out.ok.left1⟩)
          have hzi : ¬ (z : Int) < (l.length : Int) := by omega
          have HSF := hide hsf
          clear hsf
          go_wp2_with fail
          rw [HW1.out]
          refine HFA.out.mono ?_
          rintro e w3 ⟨rfl, h3, hk3⟩
          have hq : r < w.heap.size := HX.out.rd.lt
          have HQ := hide hq
          have HK3 : Hid (Kp (fun q => q = r) w w3) := (Kp.ofBelow HB1.out).trans hk3
          have hO3 := (hk3.block (Array.getElem?_eq_some_iff.1 HO1.out).1 (fun e => by omega)).trans HO1.out
          have HO3 := hide hO3
          have H3 := hide h3
          clear h3 hk3 hO3 HFA
          by_cases hl : x.left = 0
          · have hfx : fX x = x := if_pos (.inr hl)
            have h3' := H3.out
            rw [hfx] at h3'
            have HX3 : Hid (XD w3 B r (.slice (some ⟨g, off, none⟩) W.length cap) x W) := ⟨h3', HX.out.ok, HX.out.few⟩
            have HFE := hide (HX3.out.fell hl)
            obtain ⟨_, _, _, _, _, _, _, k5, _⟩ := HX3.out.rd.cells
            have hdl : decide (x.left = 0) = true := decide_eq_true hl
            have HD : Hid (dRen x (W.map (·.1)) s b = (3, actX x (W.map (·.1)), actF x (W.map (·.1)))) := by show _ = _; unfold dRen; rw [if_neg (by rw [HF0.out]; simp), HDT.out, if_neg HSF.out, if_pos hl]
            clear h3' hfx hl hq
            go_wp2_with fail
            refine HFE.out.mono ?_
            rintro e w4 ⟨rfl, hn4⟩
            have HN4 := hide hn4
            clear hn4
            go_wp2
            go_ret
            rw [HD.out]
            exact ⟨rfl, XN.via (lv1 := .slice (some ⟨g, off, none⟩) W.length cap) (x1 := x) (W1 := W) (HK3.out.mono (fun q hq => .inl hq)) (fun g e => .inl e) HN4.out⟩
          · have hdl : decide (x.left = 0) = false := decide_eq_false hl
            have HL := hide hl
            have HT1 := hide (take_r H3.out (by have := HX.out.few; omega) (Nat.le_trans hB HK3.out.size) s)
            clear hl hq
            go_wp2_with fail
            refine HT1.out.mono ?_
            rintro e w4 ⟨rfl, lv4, h4, k4, l4⟩
            have hf4 : (noK s W).length ≤ 2000000000000 := by have := HX.out.few; have := List.length_filter_le (fun o : Fo => !decide (o.1.1 = s)) W; unfold noK; omega
            have HK4 : Hid (Kp (fun q => q = r) w w4) := HK3.out.trans k4
            have HT2 := hide (take_r h4 hf4 (Nat.le_trans hB HK4.out.size) b)
            have HO4 := hide ((k4.block (Array.getElem?_eq_some_iff.1 HO3.out).1 (fun e => by have := HQ.out; omega)).trans HO3.out)
            clear h4 k4 l4 hf4 HT1
            go_wp2_with fail
            refine HT2.out.mono ?_
            rintro e w5 ⟨rfl, lv5, h5, k5, l5⟩
            have hO5 := (k5.block (Array.getElem?_eq_some_iff.1 HO4.out).1 (fun e => by have := HQ.out; omega)).trans HO4.out
            have HK5 : Hid (Kp (fun q => q = r) w w5) := HK4.out.trans k5
            have m0 := cellOf hO5 0 (.string s) rfl
            have m1 := cellOf hO5 1 (.slice a1 l.length c1) rfl
            have m2 := cellOf hO5 2 (.int .i64 (z : Int)) rfl
            have mf := frozen_of hO5 0
            have HLV5 : Hid (∀ q, lv5.ownBlock = some q → w4.heap.size ≤ q) := l5
            have HSUB : Hid (∀ o ∈ noK b (noK s W), o ∈ W ∧ o.1.1 ≠ b ∧ o.1.1 ≠ s) := fun o ho => by
              have h1 := List.mem_filter.1 ho
              have h2 := List.mem_filter.1 h1.1
              exact ⟨h2.1, by simpa using h1.2, by simpa using h2.2⟩
            have hlt4 : w.heap.size < w4.heap.size := (Array.getElem?_eq_some_iff.1 HO4.out).1
            have hset : ∀ q, q ≠ w.heap.size → (w5.setCell ⟨w.heap.size, 0, none⟩ (.string b)).heap[q]? = w5.heap[q]? := fun q hq => blk_set_other _ _ _ _ hq
            have h6 : RD (w5.setCell ⟨w.heap.size, 0, none⟩ (.string b)) B r lv5 (fX x) (noK b (noK s W)) := h5.same (by simp) (fun q hq hor => hset q (by
              rcases hor with rfl | hor | ⟨o, ho, hor⟩
              · have := HQ.out; omega
              · have := l5 q hor; omega
              · have := ((HX.out.rd.dat o (HSUB.out o ho).1).1.2 q hor).2; omega))
            have hk6 : Kp (fun q => q = r) w (w5.setCell ⟨w.heap.size, 0, none⟩ (.string b)) := ⟨HK5.out.1, HK5.out.2.1, HK5.out.2.2.1, by have := HK5.out.2.2.2.1; simpa using this, fun q hq hs => (hset q (by omega)).trans (HK5.out.2.2.2.2 q hq hs)⟩
            have hO6 : (w5.setCell ⟨w.heap.size, 0, none⟩ (.string b)).heap[w.heap.size]? = some (.cells #[.string b, .slice a1 l.length c1, .int .i64 (z : Int)] 44 (0, 0)) := by rw [blk_set hO5]; rfl
            have hd6 : DB B (w5.setCell ⟨w.heap.size, 0, none⟩ (.string b)) (.slice a1 l.length c1) l := HDE.out.1.kp hk6 (fun q e => (HDE.out.2 q e).1)
            have hfew6 : (noK b (noK s W)).length ≤ 1000000000000 := by
              have := HX.out.few
              have := List.length_filter_le (fun o : Fo => !decide (o.1.1 = s)) W
              have := List.length_filter_le (fun o : Fo => !decide (o.1.1 = b)) (noK s W)
              unfold noK at *
              omega
            have HPT := hide (put_r h6 (by omega) (Nat.le_trans hB hk6.size) b a1 l c1 z hd6 (fun q e => (HDE.out.2 q e).1) (fun o ho => (HSUB.out o ho).2.1))
            obtain ⟨w6, hw6⟩ : ∃ w6, w5.setCell ⟨w.heap.size, 0, none⟩ (.string b) = w6 := ⟨_, rfl⟩
            rw [hw6] at HPT hk6 hO6
            have n0 := cellOf hO6 0 (.string b) rfl
            have n1 := cellOf hO6 1 (.slice a1 l.length c1) rfl
            have n2 := cellOf hO6 2 (.int .i64 (z : Int)) rfl
            have HK6 := hide hk6
            have HW6 := hide hw6
            have HFW := hide hfew6
            clear h5 k5 l5 hO5 hlt4 hset h6 hk6 hO6 hd6 hw6 hfew6 HT2
            go_wp2_with fail
            rw [HW6.out]
            refine HPT.out.mono ?_
            rintro e w7 ⟨rfl, lv7, h7, k7, l7⟩
            have HX7 := hide (And.intro h7 (And.intro k7 l7))
            clear h7 k7 l7 HPT
            go_wp2
            go_ret
            have hnd := HX.out.rd.nodup
            have hro := ren_ok HX.out.ok hnd s b
            have hp7 : ((insL ((b, l, z), .slice a1 l.length c1) (noK b (noK s W))).map (·.1)).Perm ((b, l, z) :: woF b (woF s (W.map (·.1)))) := by
              have := (insL_perm ((b, l, z), .slice a1 l.length c1) (noK b (noK s W))).map (·.1)
              rw [List.map_cons, noK_map, noK_map] at this
              exact this
            have hmm : ∃ f ∈ W.map (·.1), f.1 = s := ⟨_, List.mem_map_of_mem HMM.out, rfl⟩
            obtain ⟨e1, e2, e3, e4⟩ := fX_act (F := W.map (·.1)) HL.out
            have hkp : Kp (Wr r (.slice (some ⟨g, off, none⟩) W.length cap)) w w7 := (HK6.out.trans HX7.out.2.1).mono (fun q hq => .inl hq)
            have hln : (insL ((b, l, z), .slice a1 l.length c1) (noK b (noK s W))).length ≤ 1000000000000 := by
              rw [insL_len]
              have h1 : (noK s W).length < W.length := by
                have hp := (perm_head hnd hmm).length_eq
                rw [List.length_cons, List.length_map] at hp
                have h2 : (noK s W).length = (woF s (W.map (·.1))).length := by rw [← noK_map, List.length_map]
                omega
              have h3 := List.length_filter_le (fun o : Fo => !decide (o.1.1 = b)) (noK s W)
              have := HX.out.few
              unfold noK at *
              omega
            by_cases hsb : s = b
            · have HD : dRen x (W.map (·.1)) s b = (0, actX x (W.map (·.1)), W.map (·.1)) := by unfold dRen; rw [if_neg (by rw [HF0.out]; simp), HDT.out, if_neg HSF.out, if_neg HL.out, if_pos hsb]
              rw [HD] at hro ⊢
              have hpp : ((insL ((b, l, z), .slice a1 l.length c1) (noK b (noK s W))).map (·.1)).Perm (W.map (·.1)) := by
                refine hp7.trans ?_
                have h1 := perm_head hnd hmm
                rw [HDT.out] at h1
                rw [← hsb, woX_no (fun f hf e => by have := (List.mem_filter.1 hf).2; simp [e] at this)]
                exact h1.symm
              exact ⟨rfl, lv7, _, ⟨HX7.out.1.cong e1.symm e2.symm e3.symm e4.symm, hro.perm hpp.symm, hln⟩, hpp, hkp, fun q e => .inr (Nat.le_trans HK6.out.size (HX7.out.2.2 q e))⟩
            · have HD : dRen x (W.map (·.1)) s b = (0, { actX x (W.map (·.1)) with used := x.used - (lenOf b (W.map (·.1)) : Int) }, (b, l, z) :: woF s (woF b (W.map (·.1)))) := by unfold dRen; rw [if_neg (by rw [HF0.out]; simp), HDT.out, if_neg HSF.out, if_neg HL.out, if_neg hsb]
              rw [HD] at hro ⊢
              have hpp : ((insL ((b, l, z), .slice a1 l.length c1) (noK b (noK s W))).map (·.1)).Perm ((b, l, z) :: woF s (woF b (W.map (·.1)))) := by
                refine hp7.trans (List.Perm.of_eq ?_)
                congr 1
                unfold woF
                rw [List.filter_filter, List.filter_filter]
                congr 1
                funext f
                exact Bool.and_comm _ _
              exact ⟨rfl, lv7, _, ⟨HX7.out.1.cong e1.symm e2.symm e3.symm e4.symm, hro.perm hpp.symm, hln⟩, hpp, hkp, fun q e => .inr (Nat.le_trans HK6.out.size (HX7.out.2.2 q e))⟩
end
end Go.Proofs.Ytgkdecjlanbmhaa
