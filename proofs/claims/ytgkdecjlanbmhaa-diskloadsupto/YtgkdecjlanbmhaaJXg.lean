
/- Stages 19, 20: the document's disk: Sync, Append. -/
import Derived.Test.YtgkdecjlanbmhaaJXf
namespace Go.Proofs.Ytgkdecjlanbmhaa
open Go.RowKit Go.Maps Go.MuLone
set_option linter.unusedVariables false
set_option linter.unusedSimpArgs false
theorem woX_no {k : ByteArray} {F : List Fi} (h : ∀ f ∈ F, ¬ f.1 = k) : woF k F = F := List.filter_eq_self.2 (fun f hf => by simpa using h f hf)
theorem set_perm {F : List Fi} (hn : (F.map (·.1)).Nodup) {i : Nat} (hi : i < F.length) (f' : Fi) : (F.set i f').Perm (f' :: woF F[i].1 F) := by
  have e : F = F.take i ++ F[i] :: F.drop (i + 1) := by
    rw [List.getElem_cons_drop, List.take_append_drop]
  have hs : F.set i f' = F.take i ++ f' :: F.drop (i + 1) := by
    rw [List.set_eq_take_append_cons_drop, if_pos hi]
  have hp : (F.map (·.1)).Perm (F[i].1 :: (F.take i ++ F.drop (i + 1)).map (·.1)) := by
    have h1 : F.Perm (F[i] :: (F.take i ++ F.drop (i + 1))) := (List.Perm.of_eq e).trans List.perm_middle
    exact h1.map (·.1)
  obtain ⟨f0, hf0⟩ : ∃ f0, F[i] = f0 := ⟨_, rfl⟩
  rw [hf0] at e hp ⊢
  have hno : ∀ f ∈ F.take i ++ F.drop (i + 1), ¬ f.1 = f0.1 := fun f hf e2 => by
    have := (List.nodup_cons.1 (hp.nodup_iff.1 hn)).1
    exact this (e2 ▸ List.mem_map_of_mem hf)
  have hw : woF f0.1 F = F.take i ++ F.drop (i + 1) := by
    have h1 : woF f0.1 (F.take i ++ f0 :: F.drop (i + 1)) = woF f0.1 (F.take i) ++ woF f0.1 (f0 :: F.drop (i + 1)) := by
      unfold woF
      rw [List.filter_append]
    have h2 : woF f0.1 (f0 :: F.drop (i + 1)) = woF f0.1 (F.drop (i + 1)) := by
      unfold woF
      rw [List.filter_cons, if_neg (by simp)]
    rw [← e, h2, woX_no (fun f hf => hno f (List.mem_append.2 (.inl hf))), woX_no (fun f hf => hno f (List.mem_append.2 (.inr hf)))] at h1
    exact h1
  rw [hs, hw]
  exact List.perm_middle
section
variable {w w' : World} {B r : Nat} {lv : Value} {x : Dx} {W : List Fo}
set_option maxHeartbeats 2000000 in
set_option maxRecDepth 100000 in
theorem sync_r (h : XD w B r lv x W) (hB : B ≤ w.heap.size) (k : ByteArray) (hk : k.size ≤ 4611686018427387904) : Calls Try.prog 32 #[.pointer (some ⟨r, 0, none⟩), .string k] w fun e w' => e = .returned (.int .i64 (dSync x (W.map (·.1)) k).1) ∧ XN w B r lv (dSync x (W.map (·.1)) k).2.1 (dSync x (W.map (·.1)) k).2.2 w' := by
  have HA := hide (asked_r h.rd k hk)
  have HX := hide h
  obtain ⟨R, hR⟩ : ∃ R, findE x.down ((W.map (·.1)).map (·.1)) k [] = R := ⟨_, rfl⟩
  have HR := hide hR
  rw [hR] at HA
  by_cases h0 : R = 0
  · have HFA := hide (fails_r h.rd ⟨h.ok.left0, h.ok.left1⟩)
    subst h0
    have HHA : Hid (∃ o ∈ W, o.1.1 = k) := by
      show ∃ o ∈ W, o.1.1 = k
      refine hasN_names.1 ?_
      unfold findE at hR
      cases hh : hasN ((W.map (·.1)).map (·.1)) k
      · rw [hh] at hR
        revert hR
        cases x.down <;> cases nm k <;> simp
      · rfl
    clear h hR hk
    by_cases hl : x.left = 0
    · have HD : Hid (dSync x (W.map (·.1)) k = (3, actX x (W.map (·.1)), actF x (W.map (·.1)))) := by show _ = _; unfold dSync; rw [if_neg (by rw [HR.out]; simp), if_pos hl]
      rw [decide_eq_true hl] at HFA
      have HL := hide hl
      clear hl
      go_enter Try.func32, Try.ntmps32
      go_wp2_with fail
      refine HA.out.mono ?_
      rintro e w1 ⟨rfl, hw1⟩
      obtain rfl := hw1.symm
      go_wp2_with fail
      refine HFA.out.mono ?_
      rintro e w2 ⟨rfl, h2, hk2⟩
      have hfx : fX x = x := if_pos (.inr HL.out)
      rw [hfx] at h2
      have HX2 : Hid (XD w2 B r lv x W) := ⟨h2, HX.out.ok, HX.out.few⟩
      have HFL := hide (HX2.out.fell HL.out)
      obtain ⟨_, _, _, _, _, _, _, k5, _⟩ := h2.cells
      have HK2 := hide hk2
      clear h2 hk2 hfx
      go_wp2_with fail
      refine HFL.out.mono ?_
      rintro e w3 ⟨rfl, hn3⟩
      have HN3 := hide hn3
      clear hn3
      go_wp2
      go_ret
      rw [HD.out]
      exact ⟨rfl, XN.via (x1 := x) (W1 := W) (HK2.out.mono (fun k h => .inl h)) (fun g e => .inl e) HN3.out⟩
    · have HD : Hid (dSync x (W.map (·.1)) k = (0, actX x (W.map (·.1)), (k, (dat k (W.map (·.1))).1, (dat k (W.map (·.1))).1.length) :: woF k (W.map (·.1)))) := by show _ = _; unfold dSync; rw [if_neg (by rw [HR.out]; simp), if_neg hl]
      rw [decide_eq_false hl] at HFA
      have HL := hide hl
      clear hl
      go_enter Try.func32, Try.ntmps32
      go_wp2_with fail
      refine HA.out.mono ?_
      rintro e w1 ⟨rfl, hw1⟩
      obtain rfl := hw1.symm
      go_wp2_with fail
      refine HFA.out.mono ?_
      rintro e w2 ⟨rfl, h2, hk2⟩
      have HFD := hide (find_r h2 k)
      have H2 := hide h2
      have HK2 := hide hk2
      clear h2 hk2
      go_wp2_with fail
      refine HFD.out.mono ?_
      rintro e w3 ⟨hf, hw3⟩
      obtain rfl := hw3.symm
      rcases hf with ⟨i, hi, he, rfl⟩ | ⟨hf, _⟩
      case inr => obtain ⟨o, ho, e⟩ := HHA.out; exact absurd e (hf o ho)
      obtain ⟨g, off, cap, a1, c1, elv, _, _, hg, hgr, r0, r1, r2, he2, hc1⟩ := H2.out.elem i hi
      subst elv
      obtain ⟨_, _, d0, _, _, _, _, _, _⟩ := H2.out.cells
      have hf2 := wy_froz H2.out.row (off + i * 3 + 2)
      have hde0 := H2.out.dat W[i] (List.getElem_mem hi)
      obtain ⟨o, ho⟩ : ∃ o, W[i] = o := ⟨_, rfl⟩
      have HOO := hide ho
      have HHI := hide hi
      rw [ho] at r0 r1 r2 he2 hc1 hde0 he
      obtain ⟨⟨s, l, z⟩, ov⟩ := o
      dsimp only at r0 r1 r2 he2 hc1 hde0 he
      subst he2
      subst he
      have HDE := hide hde0
      obtain ⟨m, hm⟩ : ∃ m, l.length = m := ⟨_, rfl⟩
      have HM := hide hm
      rw [hm] at r1 hc1
      have hil : (i : Int) < (W.length : Int) := by omega
      clear r0 hm ho hde0
      go_wp2_with fail
      go_big_region
      go_wp2
      go_ret
      have hnd := HX.out.rd.nodup
      have hiF : i < (W.map (·.1)).length := by rw [List.length_map]; exact HHI.out
      have hFi : (W.map (·.1))[i] = (s, l, z) := by rw [List.getElem_map, HOO.out]
      have hdat : dat s (W.map (·.1)) = (l, z) := by
        have := dat_mem hnd (List.getElem_mem hiF) (by rw [hFi])
        rw [hFi] at this
        exact this
      have hsd := sync_ok HX.out.ok hnd s
      rw [HD.out] at hsd ⊢
      rw [hdat] at hsd ⊢
      have hmap : (W.set i ((s, l, l.length), .slice a1 l.length c1)).map (·.1) = (W.map (·.1)).set i (s, l, l.length) := by rw [List.map_set]
      have hpm := set_perm hnd hiF (s, l, l.length)
      rw [hFi] at hpm
      rw [← hmap] at hpm
      obtain ⟨e1, e2, e3, e4⟩ := fX_act (F := W.map (·.1)) HL.out
      have hR2 := H2.out.setF i HHI.out ((s, l, l.length), .slice a1 l.length c1) 2 (.int .i64 (m : Int)) (by decide) (by rw [HOO.out, HM.out]; rfl) (by rw [HOO.out]) HDE.out.1 (fun q e => ⟨(HDE.out.2 q e).1, fun e2 => (HDE.out.2 q e).2 (by rw [e2]; rfl)⟩)
      refine ⟨rfl, _, _, ⟨(RD.cong (hR2.below (Below.drew (Below.refl _ _))) e1.symm e2.symm e3.symm e4.symm), hsd.perm hpm.symm, by rw [List.length_set]; exact HX.out.few⟩, hpm, ?_, fun g e => .inl e⟩
      exact ((Kp.setCell (S := Wr r (.slice (some ⟨g, off, none⟩) W.length cap)) (HK2.out.mono (fun k h => .inl h)) (.inr rfl) _)).below (Below.drew (Below.refl _ _))
  · have HD : Hid (dSync x (W.map (·.1)) k = (R, x, W.map (·.1))) := by show _ = _; unfold dSync; rw [HR.out]; exact if_pos h0
    have hne : (R != 0) = true := by simpa using h0
    clear h hR hk h0
    go_enter Try.func32, Try.ntmps32
    go_wp2_with (go_at_call 64; refine HA.out.mono ?_; rintro e w' ⟨rfl, rfl⟩)
    go_ret
    rw [HD.out]
    exact ⟨rfl, HX.out.same⟩
end
end Go.Proofs.Ytgkdecjlanbmhaa
