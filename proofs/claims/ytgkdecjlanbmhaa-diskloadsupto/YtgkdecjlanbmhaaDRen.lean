
/- Stage 19: Rename. -/
import Derived.Test.YtgkdecjlanbmhaaDSync
namespace Go.Proofs.Ytgkdecjlanbmhaa
open Go.RowKit Go.Maps Go.MuLone
set_option linter.unusedVariables false
set_option linter.unusedSimpArgs false
theorem str_eq (s t : ByteArray) : (s.toList == t.toList) = decide (s = t) := by
  rw [Bool.eq_iff_iff, beq_iff_eq, decide_eq_true_eq, Lib.toList_data, Lib.toList_data]
  constructor
  · intro h; exact ByteArray.ext (Array.toList_inj.1 h)
  · intro h; rw [h]
theorem wo_wo (k : ByteArray) (E : List En) : wo k (wo k E) = wo k E := wo_self wo_not
theorem woF_perm {k : ByteArray} {F G : List Fi} (h : F.Perm G) : (woF k F).Perm (woF k G) := h.filter _
/-- what Rename does -/
def dRen (x : Dx) (F : List Fi) (a b : ByteArray) : Int × Dx × List Fi :=
  if findE x.down (F.map (·.1)) a [b] ≠ 0 then (findE x.down (F.map (·.1)) a [b], x, F) else if (dat a F).2 < (dat a F).1.length then (192, x, F) else if x.left = 0 then (3, actX x F, actF x F) else if a = b then (0, actX x F, F)
  else (0, { actX x F with used := x.used - (lenOf b F : Int) }, (b, dat a F) :: woF a (woF b F))
section
variable {S : Nat → Prop} {w w' : World} {d m : Nat} {x : Dx} {E : List En} {a b : ByteArray}
/-- the table without the old name, and with the new one -/
theorem DkS.moved {e : En} (h : DkS S w d m x (e :: wo b E)) (he : e.f.1 = a) (hab : a ≠ b) {w4 w5 : World} (h4 : Tb w4 m (tbl (wo a (e :: wo b E)))) (k4 : Kp (fun q => q = m) w w4) (h5 : Tb w5 m ((b, e.p) :: tbl (wo b (wo a (e :: wo b E))))) (k5 : Kp (fun q => q = m) w4 w5) (hb : nm b = true) :
    DkS S w5 d m x (⟨(b, e.f.2), e.p, e.v⟩ :: wo b E) := by
  have hw : wo a (e :: wo b E) = wo b E := wo_cons he h.names
  rw [hw] at h4 h5
  rw [wo_wo] at h5
  have e4 := (h.others k4).2 e List.mem_cons_self
  have hD4 : DkS S w4 d m x (wo b E) := by
    have := h.del (k := a) (by rw [hw]; exact h4) k4
    rw [hw] at this
    exact this
  have hap := List.pairwise_cons.1 h.apt
  have hps := List.nodup_cons.1 (by simpa using h.ps : (e.p :: (wo b E).map (·.p)).Nodup)
  exact hD4.add ⟨(b, e.f.2), e.p, e.v⟩ h5 k5 ⟨e4.1, e4.2.1, e4.2.2.1, e4.2.2.2.1, hb⟩ hps.1 (fun q hq => hap.1 q hq)
end
theorem lenOf_perm {k : ByteArray} {F G : List Fi} (h : F.Perm G) (hn : (F.map (·.1)).Nodup) : lenOf k F = lenOf k G := by
  have h1 := usd_wo (k := k) hn
  have h2 := usd_wo (k := k) ((h.map (·.1)).nodup_iff.1 hn)
  have h3 := usd_perm h
  have h4 := usd_perm (woF_perm (k := k) h)
  omega
set_option maxHeartbeats 16000000 in
set_option maxRecDepth 100000 in
theorem rename_any (S : Nat → Prop) (w : World) (d : Nat) (x : Dx) (F : List Fi) (hD : DD S w d x F) (a b : ByteArray) (hn : F.length + 1 ≤ maxLen) :
    Calls Try.prog 28 #[.pointer (some ⟨d, 0, none⟩), .string a, .string b] w fun e w' => e = .returned (.int .i64 (dRen x F a b).1) ∧ ∃ F', F'.Perm (dRen x F a b).2.2 ∧ Beh S w d (dRen x F a b).2.1 F' w' := by
  obtain ⟨c0, f0, hD1, hk1⟩ := hD.lock
  have HSD : Hid (S d) := hD.dsk.sd
  have HLK : Hid (x.lk = 0) := hD.lk
  have HO := hide hD.ok
  obtain ⟨m, E, rfl, hD1⟩ := hD1
  have hO1 := HO.out.lk 1
  obtain ⟨W1, hW1⟩ : ∃ W1, W1 = (w.setCell ⟨d, 0, none⟩ (.int .i32 1)).alloc (.cells #[.string b] 9) := ⟨_, rfl⟩
  have hz1 : W1.heap.size = w.heap.size + 1 := by rw [hW1]; simp
  have hb1 : Below (w.setCell ⟨d, 0, none⟩ (.int .i32 1)).heap.size (w.setCell ⟨d, 0, none⟩ (.int .i32 1)) W1 := by rw [hW1]; exact bel1 (Below.refl _ _) (Nat.le_refl _) _
  have hB1 : W1.heap[w.heap.size]? = some (.cells #[.string b] 9 (0, 0)) := by
    have := heap_new (w.setCell ⟨d, 0, none⟩ (.int .i32 1)) (.cells #[.string b] 9)
    rw [hW1]
    simpa using this
  have hD2 : DkS S W1 d m { x with lk := 1 } E := (hD1.lts.keep (fun q hq => hb1.block q hq.2)).mono (fun k h => h.1)
  have HFI := hide (find_n S W1 d m _ E hD2 a (.slice (some ⟨w.heap.size, 0, none⟩) 1 1) [b] (Sr.one (by omega) (cellOf hB1 0 _ rfl)) (by simp))
  dsimp only at HFI
  have HK1 : Hid (Kp S w W1) := hk1.below hb1
  have HO1 := hide hO1
  have HW1 := hide hW1
  have HNM : Hid (((E.map En.f).map (·.1)).Nodup) := by show List.Nodup _; rw [List.map_map]; exact hD1.names
  have HN : Hid (E.length + 1 ≤ maxLen) := by show E.length + 1 ≤ maxLen; simpa using hn
  clear hD hD1 hk1 hO1 hW1 hz1 hb1 hB1 hD2 hn
  by_cases h1 : findE x.down (E.map (·.f.1)) a [b] = 0
  · have hin := hasN_iff.1 ((find_dn (.inl h1)).2.2.2.2 h1)
    have hna := (find_dn (.inl h1)).2.1
    have hnb : nm b = true := by have := (find_dn (.inl h1)).2.2.1; simpa using this
    rw [h1] at HFI
    have hfp : fP E a 0 = luV (tbl E) a := rfl
    rw [hfp] at HFI
    -- find, then hasTail
    have HFT : Hid (Calls Try.prog 59 #[.pointer (some ⟨d, 0, none⟩), .string a, .slice (some ⟨w.heap.size, 0, none⟩) 1 1] W1 fun e w' => ∃ e0 E', e = .returned (.tuple #[.pointer (some ⟨e0.p, 0, none⟩), .int .i64 0]) ∧ E.Perm (e0 :: E') ∧ e0.f.1 = a ∧ dat a (E.map En.f) = e0.f.2 ∧ DkS S w' d m { x with lk := 1 } (e0 :: E') ∧ Kp S w w' ∧
        Calls Try.prog 60 #[.pointer (some ⟨e0.p, 0, none⟩)] w' fun e w2 => e = .returned (.bool (decide ((dat a (E.map En.f)).2 < (dat a (E.map En.f)).1.length))) ∧ Below w'.heap.size w' w2) := by
      refine HFI.out.mono ?_
      rintro e w2 ⟨rfl, hD2, hb2⟩
      obtain ⟨e0, E', hpm, hek, hlu, hD3, hwo, hdat, hmem⟩ := hD2.got hin
      have he := hD3.ens e0 List.mem_cons_self
      refine ⟨e0, E', by rw [hlu]; rfl, hpm, hek, hdat, hD3.mono (fun k h => h.1), HK1.out.below hb2, ?_⟩
      rw [hdat]
      exact hasTail_any e0.p e0.v e0.f.2.1 e0.f.2.2 w2 he.2.1 he.2.2.1
    by_cases h2 : (dat a (E.map En.f)).2 < (dat a (E.map En.f)).1.length
    · have hres : dRen x (E.map En.f) a b = (192, x, E.map En.f) := by unfold dRen; rw [map_fst, if_neg (by rw [h1]; simp), if_pos h2]
      rw [hres]
      rw [decide_eq_true h2] at HFT
      clear hres HFI hfp h1 h2 hin
      go_enter_defers Try.func28, Try.ntmps28
      go_wp2_with (go_at_call 41; refine (lock_free Try.muLib ⟨d, 0, none⟩ _ c0 f0).mono ?_; rintro e w' ⟨rfl, rfl⟩)
      rw [← HW1.out]
      refine HFT.out.mono ?_
      rintro e w2 ⟨e0, E', rfl, hpm, hek, hdat, hD2, hk2, hc⟩
      have HC := hide hc
      have HD2 := hide hD2
      have HK2 := hide hk2
      have HPM := hide hpm
      clear hc hD2 hk2 hek hdat hpm
      go_wp2_with fail
      refine HC.out.mono ?_
      rintro e w3 ⟨rfl, hb3⟩
      have hB : Beh S w d { x with lk := 1 } (E.map En.f) w3 := (Beh.of HK2.out (Dsk.perm HD2.out.dsk (HPM.out.symm.map En.f))).below hb3
      have HF0 := hide (hB.fin HSD.out rfl)
      have HF : Hid (w3.cell? ⟨d, 0, none⟩ = some (.int .i32 1) ∧ w3.frozen? ⟨d, 0, none⟩ = false ∧ ∃ F', F'.Perm (E.map En.f) ∧ Beh S w d x F' (w3.setCell ⟨d, 0, none⟩ (.int .i32 0))) := ⟨HF0.out.1, HF0.out.2.1, _, .refl _, lk_back HLK.out HF0.out.2.2⟩
      clear hb3 hB
      go_wp2
      refine leaves_cons (f := 42) (args := #[.pointer (some ⟨d, 0, none⟩)]) (by simp) (by simp [go_sem]) ?_
      refine (unlock_deferred Try.muLib ⟨d, 0, none⟩ .returning _ (HF.out).1 (HF.out).2.1).mono ?_
      rintro e u' w'' ⟨rfl, rfl, rfl⟩
      exact ⟨_, results_tmp rfl _ _ _, rfl, (HF.out).2.2⟩
    · rw [decide_eq_false h2] at HFT
      by_cases h3 : x.left = 0
      · have hres : dRen x (E.map En.f) a b = (3, actX x (E.map En.f), actF x (E.map En.f)) := by unfold dRen; rw [map_fst, if_neg (by rw [h1]; simp), if_neg h2, if_pos h3]
        rw [hres]
        have HAC : Hid (∀ w3 (G : List Fi), G.Perm (E.map En.f) → Beh S w d { x with lk := 1 } G w3 → Calls Try.prog 58 #[.pointer (some ⟨d, 0, none⟩)] w3 fun e w' => e = .returned (.int .i64 3) ∧ w'.cell? ⟨d, 0, none⟩ = some (.int .i32 1) ∧ w'.frozen? ⟨d, 0, none⟩ = false ∧ ∃ F', F'.Perm (actF x (E.map En.f)) ∧ Beh S w d (actX x (E.map En.f)) F' (w'.setCell ⟨d, 0, none⟩ (.int .i32 0))) := fun w3 G hG hB => by
          have hB1 : Beh S w d { x with lk := 1 } (E.map En.f) w3 := ⟨hB.1.perm hG, hB.2⟩
          refine (act_n _ w3 d _ _ hB1.1 HO1.out).mono ?_
          rintro e w4 ⟨rfl, h⟩
          have h9 := (hB1.next h).fin HSD.out (actX_fields _ _).1
          refine ⟨by rw [show actE ({ x with lk := 1 } : Dx) = 3 from if_pos h3], h9.1, h9.2.1, _, .refl _, ?_⟩
          have h10 := h9.2.2
          rw [actX_lk] at h10
          have e1 : ({ ({ actX x (E.map En.f) with lk := 1 } : Dx) with lk := 0 } : Dx) = actX x (E.map En.f) := lk_self ((actX_fields _ _).1.trans HLK.out)
          rw [e1] at h10
          exact h10
        clear hres HFI hfp h1 h2 h3 hin
        go_enter_defers Try.func28, Try.ntmps28
        go_wp2_with (go_at_call 41; refine (lock_free Try.muLib ⟨d, 0, none⟩ _ c0 f0).mono ?_; rintro e w' ⟨rfl, rfl⟩)
        rw [← HW1.out]
        refine HFT.out.mono ?_
        rintro e w2 ⟨e0, E', rfl, hpm, hek, hdat, hD2, hk2, hc⟩
        have HC := hide hc
        have HD2 := hide hD2
        have HK2 := hide hk2
        have HPM := hide hpm
        clear hc hD2 hk2 hek hdat hpm
        go_wp2_with fail
        refine HC.out.mono ?_
        rintro e w3 ⟨rfl, hb3⟩
        have HA3 := hide (HAC.out w3 _ (HPM.out.symm.map En.f) ((Beh.of HK2.out HD2.out.dsk).below hb3))
        clear hb3
        go_wp2_with fail
        refine HA3.out.mono ?_
        rintro e w4 ⟨rfl, hf⟩
        have HF := hide hf
        clear hf
        go_wp2
        refine leaves_cons (f := 42) (args := #[.pointer (some ⟨d, 0, none⟩)]) (by simp) (by simp [go_sem]) ?_
        refine (unlock_deferred Try.muLib ⟨d, 0, none⟩ .returning _ (HF.out).1 (HF.out).2.1).mono ?_
        rintro e u' w'' ⟨rfl, rfl, rfl⟩
        exact ⟨_, results_tmp rfl _ _ _, rfl, (HF.out).2.2⟩
      · have HAC : Hid (∀ w3 e0 E', E.Perm (e0 :: E') → DkS S w3 d m { x with lk := 1 } (e0 :: E') → Calls Try.prog 58 #[.pointer (some ⟨d, 0, none⟩)] w3 fun e w' => e = .returned (.int .i64 0) ∧ DkS S w' d m (actX { x with lk := 1 } (E.map En.f)) (e0 :: E') ∧ Kp S w3 w') := fun w3 e0 E' hpm hD3 => by
          have hO3 : DOk { x with lk := 1 } ((e0 :: E').map En.f) := by
            have h := HO1.out
            exact ⟨by rw [← usd_perm (hpm.map En.f)]; exact h.used, by rw [← usd_perm (hpm.map En.f)]; exact h.room, h.most, fun f hf => h.safe f ((hpm.map En.f).mem_iff.2 hf), h.left0, h.left1, h.keep0, h.keep1⟩
          refine (act_ok _ w3 d m _ _ hD3 hO3 h3).mono ?_
          rintro e w4 ⟨rfl, hD4, hK4⟩
          exact ⟨rfl, by rw [actX_ne (x := { x with lk := 1 }) h3 (E.map En.f) ((e0 :: E').map En.f)]; exact hD4, hK4⟩
        by_cases h4 : a = b
        · have hres : dRen x (E.map En.f) a b = (0, actX x (E.map En.f), E.map En.f) := by unfold dRen; rw [map_fst, if_neg (by rw [h1]; simp), if_neg h2, if_neg h3, if_pos h4]
          rw [hres]
          have hab : (a.toList == b.toList) = true := by rw [h4]; simp
          clear hres HFI hfp h1 h2 h3 hin h4
          go_enter_defers Try.func28, Try.ntmps28
          go_wp2_with (go_at_call 41; refine (lock_free Try.muLib ⟨d, 0, none⟩ _ c0 f0).mono ?_; rintro e w' ⟨rfl, rfl⟩)
          rw [← HW1.out]
          refine HFT.out.mono ?_
          rintro e w2 ⟨e0, E', rfl, hpm, hek, hdat, hD2, hk2, hc⟩
          have HC := hide hc
          have HD2 := hide hD2
          have HK2 := hide hk2
          have HPM := hide hpm
          clear hc hD2 hk2 hek hdat hpm
          go_wp2_with fail
          refine HC.out.mono ?_
          rintro e w3 ⟨rfl, hb3⟩
          have hD3 : DkS S w3 d m { x with lk := 1 } (e0 :: E') := (HD2.out.lts.keep (fun q hq => hb3.block q hq.2)).mono (fun k h => h.1)
          have HA3 := hide (HAC.out w3 e0 E' HPM.out hD3)
          have HK3 : Hid (Kp S w w3) := HK2.out.below hb3
          clear hb3 hD3
          go_wp2_with fail
          refine HA3.out.mono ?_
          rintro e w4 ⟨rfl, hD4, hK4⟩
          have HF : Hid (w4.cell? ⟨d, 0, none⟩ = some (.int .i32 1) ∧ w4.frozen? ⟨d, 0, none⟩ = false ∧ ∃ F', F'.Perm (E.map En.f) ∧ Beh S w d (actX x (E.map En.f)) F' (w4.setCell ⟨d, 0, none⟩ (.int .i32 0))) := by
            have h9 := (Beh.of (HK3.out.trans hK4) (Dsk.perm hD4.dsk (HPM.out.symm.map En.f))).fin HSD.out (actX_fields _ _).1
            refine ⟨h9.1, h9.2.1, _, .refl _, ?_⟩
            have h10 := h9.2.2
            rw [actX_lk] at h10
            have e1 : ({ ({ actX x (E.map En.f) with lk := 1 } : Dx) with lk := 0 } : Dx) = actX x (E.map En.f) := lk_self ((actX_fields _ _).1.trans HLK.out)
            rw [e1] at h10
            exact h10
          clear hD4 hK4
          go_wp2
          refine leaves_cons (f := 42) (args := #[.pointer (some ⟨d, 0, none⟩)]) (by simp) (by simp [go_sem]) ?_
          refine (unlock_deferred Try.muLib ⟨d, 0, none⟩ .returning _ (HF.out).1 (HF.out).2.1).mono ?_
          rintro e u' w'' ⟨rfl, rfl, rfl⟩
          exact ⟨_, results_tmp rfl _ _ _, rfl, (HF.out).2.2⟩
        · have hres : dRen x (E.map En.f) a b = (0, { actX x (E.map En.f) with used := x.used - (lenOf b (E.map En.f) : Int) }, (b, dat a (E.map En.f)) :: woF a (woF b (E.map En.f))) := by unfold dRen; rw [map_fst, if_neg (by rw [h1]; simp), if_neg h2, if_neg h3, if_neg h4]
          rw [hres]
          have hab : (a.toList == b.toList) = false := by
            rw [str_eq]
            exact decide_eq_false h4
          have HDR : Hid (∀ w4 e0 E', E.Perm (e0 :: E') → e0.f.1 = a → DkS S w4 d m (actX { x with lk := 1 } (E.map En.f)) (e0 :: E') → Calls Try.prog 61 #[.pointer (some ⟨d, 0, none⟩), .string b] w4 fun e w' => e = .returned (.tuple #[]) ∧ DkS S w' d m { actX { x with lk := 1 } (E.map En.f) with used := x.used - (lenOf b (E.map En.f) : Int) } (e0 :: wo b E') ∧ Kp S w4 w') := fun w4 e0 E' hpm hek hD4 => by
            have hus := actX_used (x := { x with lk := 1 }) h3 (E.map En.f)
            refine (drop_any _ w4 d m _ _ hD4 b hnb (by rw [hus.1, ← usd_perm (hpm.map En.f)]; exact HO1.out.used) (by rw [← usd_perm (hpm.map En.f)]; exact HO1.out.usd_le)).mono ?_
            rintro e w5 ⟨rfl, hD5, hK5⟩
            refine ⟨rfl, ?_, hK5⟩
            rw [hus.1, ← lenOf_perm (hpm.map En.f) HNM.out] at hD5
            have e1 : wo b (e0 :: E') = e0 :: wo b E' := List.filter_cons_of_pos (by simp [hek, h4])
            rw [e1] at hD5
            exact hD5
          have HPU : Hid (∀ w6 e0 E', E.Perm (e0 :: E') → DkS S w6 d m { actX { x with lk := 1 } (E.map En.f) with used := x.used - (lenOf b (E.map En.f) : Int) } (wo a (e0 :: wo b E')) → Calls Try.prog 62 #[.pointer (some ⟨d, 0, none⟩), .string b, .pointer (some ⟨e0.p, 0, none⟩)] w6 fun e w' => e = .returned (.tuple #[]) ∧ Tb w' m ((b, e0.p) :: tbl (wo b (wo a (e0 :: wo b E')))) ∧ Kp (fun q => q = m) w6 w') := fun w6 e0 E' hpm hD6 => by
            refine put_any S w6 d m _ _ hD6 b hnb e0.p ?_
            have h5 : (wo a (e0 :: wo b E')).length ≤ (e0 :: wo b E').length := List.length_filter_le _ _
            have h6 : (wo b E').length ≤ E'.length := List.length_filter_le _ _
            have h7 := hpm.length_eq
            have h8 := HN.out
            simp only [List.length_cons] at h5 h7
            omega
          have HFN : Hid (∀ w5 w6 w7 e0 E', E.Perm (e0 :: E') → e0.f.1 = a → dat a (E.map En.f) = e0.f.2 → DkS S w5 d m { actX { x with lk := 1 } (E.map En.f) with used := x.used - (lenOf b (E.map En.f) : Int) } (e0 :: wo b E') → Kp S w w5 → Tb w6 m (tbl (wo a (e0 :: wo b E'))) → Kp (fun q => q = m) w5 w6 → Tb w7 m ((b, e0.p) :: tbl (wo b (wo a (e0 :: wo b E')))) → Kp (fun q => q = m) w6 w7 →
              w7.cell? ⟨d, 0, none⟩ = some (.int .i32 1) ∧ w7.frozen? ⟨d, 0, none⟩ = false ∧ ∃ F', F'.Perm ((b, dat a (E.map En.f)) :: woF a (woF b (E.map En.f))) ∧ Beh S w d { actX x (E.map En.f) with used := x.used - (lenOf b (E.map En.f) : Int) } F' (w7.setCell ⟨d, 0, none⟩ (.int .i32 0))) := fun w5 w6 w7 e0 E' hpm hek hdat hD5 hk5 ht6 hk6 ht7 hk7 => by
            have hD7 := hD5.moved hek h4 ht6 hk6 ht7 hk7 hnb
            have hms : ∀ q, q = m → S q := fun q e => by rw [e]; exact hD5.sm
            have h9 := (Beh.of ((hk5.trans (hk6.mono hms)).trans (hk7.mono hms)) hD7.dsk).fin HSD.out (actX_fields _ _).1
            refine ⟨h9.1, h9.2.1, (⟨(b, e0.f.2), e0.p, e0.v⟩ :: wo b E' : List En).map En.f, ?_, ?_⟩
            rotate_left
            · have h10 := h9.2.2
              rw [actX_lk] at h10
              have e1 : ({ ({ ({ actX x (E.map En.f) with lk := 1 } : Dx) with used := x.used - (lenOf b (E.map En.f) : Int) } : Dx) with lk := 0 } : Dx) = { actX x (E.map En.f) with used := x.used - (lenOf b (E.map En.f) : Int) } := lk_self (x := { actX x (E.map En.f) with used := x.used - (lenOf b (E.map En.f) : Int) }) ((actX_fields _ _).1.trans HLK.out)
              rw [e1] at h10
              exact h10
            · rw [List.map_cons, hdat]
              refine List.Perm.cons _ ?_
              rw [← map_wo, ← map_wo]
              refine List.Perm.map _ ?_
              have p1 : (wo a (wo b E)).Perm (wo a (wo b (e0 :: E'))) := wo_perm (wo_perm hpm)
              have e1 : wo b (e0 :: E') = e0 :: wo b E' := List.filter_cons_of_pos (by simp [hek, h4])
              rw [e1, wo_cons hek hD5.names] at p1
              exact p1.symm
          have HKA : Hid (a.size ≤ maxLen) := nm_size hna
          clear hres HFI hfp h1 h2 h3 hin h4 hna hnb
          go_enter_defers Try.func28, Try.ntmps28
          go_wp2_with (go_at_call 41; refine (lock_free Try.muLib ⟨d, 0, none⟩ _ c0 f0).mono ?_; rintro e w' ⟨rfl, rfl⟩)
          rw [← HW1.out]
          refine HFT.out.mono ?_
          rintro e w2 ⟨e0, E', rfl, hpm, hek, hdat, hD2, hk2, hc⟩
          have HC := hide hc
          have HD2 := hide hD2
          have HK2 := hide hk2
          have HPM := hide hpm
          have HEK := hide hek
          have HDT := hide hdat
          clear hc hD2 hk2 hek hdat hpm
          go_wp2_with fail
          refine HC.out.mono ?_
          rintro e w3 ⟨rfl, hb3⟩
          have hD3 : DkS S w3 d m { x with lk := 1 } (e0 :: E') := (HD2.out.lts.keep (fun q hq => hb3.block q hq.2)).mono (fun k h => h.1)
          have HA3 := hide (HAC.out w3 e0 E' HPM.out hD3)
          have HK3 : Hid (Kp S w w3) := HK2.out.below hb3
          clear hb3 hD3
          go_wp2_with fail
          refine HA3.out.mono ?_
          rintro e w4 ⟨rfl, hD4, hK4⟩
          have HDR4 := hide (HDR.out w4 e0 E' HPM.out HEK.out hD4)
          have HK4 : Hid (Kp S w w4) := HK3.out.trans hK4
          clear hD4 hK4
          go_wp2_with fail
          refine HDR4.out.mono ?_
          rintro e w5 ⟨rfl, hD5, hK5⟩
          have HD5 := hide hD5
          have HK5 : Hid (Kp S w w5) := HK4.out.trans hK5
          have c52 : w5.cell? ⟨d, 2, none⟩ = some (.map (some m)) := hD5.cell 2 _ rfl
          clear hD5 hK5
          go_wp2_with (at_delete; go_loud (refine del_T rfl _ _ rfl m rfl a rfl (tbl (e0 :: wo b E')) HD5.out.tab HKA.out ?_; intro w6 r1 r2 r3; rw [tbl_wo] at r1; have HT6 := hide r1; have HK6 := hide r2; clear r1 r2 r3))
          refine (HPU.out w6 e0 E' HPM.out (HD5.out.del HT6.out HK6.out)).mono ?_
          rintro e w7 ⟨rfl, ht7, hk7⟩
          have HF := hide (HFN.out w5 w6 w7 e0 E' HPM.out HEK.out HDT.out HD5.out HK5.out HT6.out HK6.out ht7 hk7)
          clear ht7 hk7
          go_wp2
          refine leaves_cons (f := 42) (args := #[.pointer (some ⟨d, 0, none⟩)]) (by simp) (by simp [go_sem]) ?_
          refine (unlock_deferred Try.muLib ⟨d, 0, none⟩ .returning _ (HF.out).1 (HF.out).2.1).mono ?_
          rintro e u' w'' ⟨rfl, rfl, rfl⟩
          exact ⟨_, results_tmp rfl _ _ _, rfl, (HF.out).2.2⟩
  · have hres : dRen x (E.map En.f) a b = (findE x.down (E.map (·.f.1)) a [b], x, E.map En.f) := by unfold dRen; rw [map_fst, if_pos h1]
    rw [hres]
    have hfp : fP E a (findE x.down (E.map (·.f.1)) a [b]) = .pointer none := if_neg h1
    rw [hfp] at HFI
    have HFI2 : Hid (Calls Try.prog 59 #[.pointer (some ⟨d, 0, none⟩), .string a, .slice (some ⟨w.heap.size, 0, none⟩) 1 1] W1 fun e w' => e = .returned (.tuple #[.pointer none, .int .i64 (findE x.down (E.map (·.f.1)) a [b])]) ∧ w'.cell? ⟨d, 0, none⟩ = some (.int .i32 1) ∧ w'.frozen? ⟨d, 0, none⟩ = false ∧ ∃ F', F'.Perm (E.map En.f) ∧ Beh S w d x F' (w'.setCell ⟨d, 0, none⟩ (.int .i32 0))) := by
      refine HFI.out.mono ?_
      rintro e w2 ⟨rfl, hD2, hb2⟩
      have h9 := (Beh.of (HK1.out.below hb2) (hD2.mono (fun k h => h.1)).dsk).fin HSD.out rfl
      exact ⟨rfl, h9.1, h9.2.1, _, .refl _, lk_back HLK.out h9.2.2⟩
    generalize findE x.down (E.map (·.f.1)) a [b] = r at *
    clear hres HFI hfp
    go_enter_defers Try.func28, Try.ntmps28
    go_wp2_with (go_at_call 41; refine (lock_free Try.muLib ⟨d, 0, none⟩ _ c0 f0).mono ?_; rintro e w' ⟨rfl, rfl⟩)
    rw [← HW1.out]
    refine HFI2.out.mono ?_
    rintro e w2 ⟨rfl, hf⟩
    have HF := hide hf
    clear hf
    go_wp2
    refine leaves_cons (f := 42) (args := #[.pointer (some ⟨d, 0, none⟩)]) (by simp) (by simp [go_sem]) ?_
    refine (unlock_deferred Try.muLib ⟨d, 0, none⟩ .returning _ (HF.out).1 (HF.out).2.1).mono ?_
    rintro e u' w'' ⟨rfl, rfl, rfl⟩
    exact ⟨_, results_tmp rfl _ _ _, rfl, (HF.out).2.2⟩
end Go.Proofs.Ytgkdecjlanbmhaa
