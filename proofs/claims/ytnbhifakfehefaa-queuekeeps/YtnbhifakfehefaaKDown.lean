
/- Stage 17: container/heap's down. -/
import Derived.Test.YtnbhifakfehefaaKUp
namespace Go.Proofs.Ytnbhifakfehefaa
open Go.RowKit
set_option linter.unusedVariables false
set_option linter.unusedSimpArgs false
/-- what down leaves: moved: a heap; not: as it was -/
def DownP (E : Nat → It) (H H' : List Nat) (n i0 i : Nat) (b : Bool) : Prop := ((i0 < i ∨ b = true) → HeapOk (leE E) H' n) ∧ (¬ i0 < i → H' = H ∧ UpI (leE E) H n i0)
theorem down_ends {E : Nat → It} {H H1 : List Nat} {n i0 i : Nat} {b b1 : Bool} (hd : DownI (leE E) H1 n i b1) (hb : b = true → b1 = true) (hi : i0 < i → b1 = true) (hs : ¬ i0 < i → i = i0 ∧ H1 = H) (hc : ∀ c, 0 < c → c < n → par c = i → leE E (hv H1 i) (hv H1 c)) : DownP E H H1 n i0 i b := by
  refine ⟨fun h => ?_, fun h => ?_⟩
  · have : b1 = true := h.elim hi hb
    subst this
    exact down_end hd hc
  · obtain ⟨rfl, rfl⟩ := hs h
    exact ⟨rfl, down_end' hd hc⟩
/-- down, on its way -/
def DnI (E : Nat → It) (H : List Nat) (n i0 : Nat) (b : Bool) (w : World) (B qb : Nat) (F : Value) (i : Nat) (wr : World) : Prop := ∃ (H1 : List Nat) (b1 : Bool), H1.Perm H ∧ Ln wr B qb F H1 E ∧ n ≤ H1.length ∧ DownI (leE E) H1 n i b1 ∧ (b = true → b1 = true) ∧ (i0 < i → b1 = true) ∧ (¬ i0 < i → i = i0 ∧ H1 = H) ∧ (∀ k, n ≤ k → hv H1 k = hv H k) ∧ Kp (inF F H) w wr
set_option maxRecDepth 100000 in
set_option maxHeartbeats 8000000 in
theorem down_any (B qb : Nat) (F : Value) (H : List Nat) (E : Nat → It) (i0 n : Nat) (b : Bool) (w : World) (h : Ln w B qb F H E) (hn : n ≤ H.length) (h4 : i0 < 4096) (hdn : DownI (leE E) H n i0 b) :
    Calls Try.prog 47 #[ifc qb, .int .i64 (i0 : Int), .int .i64 (n : Int)] w fun e w' => ∃ (H' : List Nat) (i : Nat), e = .returned (.bool (decide (i0 < i))) ∧ H'.Perm H ∧ Ln w' B qb F H' E ∧ DownP E H H' n i0 i b ∧ (∀ k, n ≤ k → hv H' k = hv H k) ∧ Kp (inF F H) w w' := by
  have hlen := h.lx.len
  have hn4 : n ≤ 4096 := by omega
  have HS : Hid (DnI E H n i0 b w B qb F i0 w) := ⟨H, b, List.Perm.refl _, h, hn, hdn, id, fun hx => absurd hx (by omega), fun _ => ⟨rfl, rfl⟩, fun _ _ => rfl, Kp.refl _ _⟩
  clear h hn hdn hlen
  unfold ifc
  go_enter Try.func47, Try.ntmps47
  go_wp2
  go_loopw [7, 8, 9, 10] (fun vi _ _ _ wr => ∃ i : Nat, vi = .int .i64 (i : Int) ∧ i ≤ 4096 ∧ i0 ≤ i ∧ Hid (DnI E H n i0 b w B qb F i wr)) (fun vi _ _ _ _ => 5000 - (intOf vi).toNat)
  case atStart => exact ⟨i0, rfl, by omega, by omega, HS⟩
  case round =>
    obtain ⟨i, rfl, hi4, hi0, HR⟩ := hrel
    obtain ⟨H1, b1, hp, hl, hn1, hdi, hbb, hib, his, hbey, hk⟩ := HR.out
    have HP := hide hp
    have HL := hide hl
    have HN1 := hide hn1
    have HDI := hide hdi
    have HBY := hide hbey
    have HK := hide hk
    have HENDS : Hid ((∀ c, 0 < c → c < n → par c = i → leE E (hv H1 i) (hv H1 c)) → DownP E H H1 n i0 i b) := fun hc => down_ends hdi hbb hib his hc
    clear HR hp hl hn1 hdi hbb hib his hbey hk
    by_cases h1 : 2 * i + 1 < n
    · have hg1 : ¬ (n : Int) ≤ 2 * (i : Int) + 1 := by omega
      by_cases h2 : 2 * i + 2 < n
      · obtain ⟨J1, hJ1⟩ : ∃ J, J = 2 * i + 1 := ⟨_, rfl⟩
        obtain ⟨J2, hJ2⟩ : ∃ J, J = 2 * i + 2 := ⟨_, rfl⟩
        have e1 : 2 * (i : Int) + 1 = (J1 : Int) := by omega
        have e2 : (J1 : Int) + 1 = (J2 : Int) := by omega
        have hJn : J2 < n := by omega
        have hJ12 : J1 < J2 := by omega
        have hiJ : i < J1 := by omega
        have HP1 : Hid (par J1 = i) := by rw [hJ1]; show par _ = i; unfold par; omega
        have HP2 : Hid (par J2 = i) := by rw [hJ2]; show par _ = i; unfold par; omega
        have HCH : Hid (∀ c, par c = i → 0 < c → c = J1 ∨ c = J2) := fun c hc c0 => by unfold par at hc; omega
        have hm := mLess wr qb F HL.out.cell
        clear hJ1 hJ2 h1 h2 hg1
        go_wp2_with fail
        refine Calls.mono (less_line B F H1 E wr HL.out.lx J2 J1 (by have := HN1.out; omega) (by have := HN1.out; omega)) ?_
        rintro e w2 ⟨rfl, hb2⟩
        have HL2 := hide (HL.out.below hb2)
        have HK2 := hide (HK.out.below hb2)
        clear hm hb2
        by_cases hy : ordZ (E (hv H1 J2)) (E (hv H1 J1)) < 0
        · have HMIN : Hid (∀ c, 0 < c → c < n → par c = i → leE E (hv H1 J2) (hv H1 c)) := fun c c0 cn pc => by
            rcases HCH.out c pc c0 with rfl | rfl
            · exact leE_of E _ _ ((ordZ_neg _ _).1 hy)
            · exact leE_refl E _
          have HJp := HP2
          have hdy : decide (ordZ (E (hv H1 J2)) (E (hv H1 J1)) < 0) = true := decide_eq_true hy
          clear hy
          have hm2 := mLess w2 qb F HL2.out.cell
          go_wp2_with fail
          refine Calls.mono (less_line B F H1 E w2 HL2.out.lx J2 i (by have := HN1.out; omega) (by have := HN1.out; omega)) ?_
          rintro e w3 ⟨rfl, hb3⟩
          have HL3 := hide (HL2.out.below hb3)
          have HK3 := hide (HK2.out.below hb3)
          have hm3 := mSwap w3 qb F HL3.out.cell
          clear hm2 hb3
          by_cases hz : ordZ (E (hv H1 J2)) (E (hv H1 i)) < 0
          · have HZ := hide ((ordZ_neg _ _).1 hz)
            go_wp2_with fail
            refine Calls.mono (swap_line B F H1 E w3 HL3.out.lx i J2 (by have := HN1.out; omega) (by have := HN1.out; omega) (by omega)) ?_
            rintro e w4 ⟨rfl, HW⟩
            go_wp2
            go_roundw
            case rel =>
              have q1 : i < H1.length := by have := HN1.out; omega
              have q2 : J2 < H1.length := by have := HN1.out; omega
              refine ⟨J2, rfl, by omega, by omega, sw H1 i J2, true, (sw_perm H1 i J2 q1 q2).trans HP.out, HL3.out.swapped q1 q2 HW.out.1 HW.out.2, by rw [sw_len]; exact HN1.out, ?_, fun _ => rfl, fun _ => rfl, fun hx => absurd (show i0 < J2 by omega) hx, ?_, ?_⟩
              · exact down_step HDI.out (by omega) HN1.out HJp.out (by omega) HMIN.out (leE_of E _ _ HZ.out)
              · intro k hk
                rw [hv_sw H1 i J2 k q1 q2, if_neg (by omega), if_neg (by omega)]
                exact HBY.out k hk
              · exact HK3.out.trans (HW.out.2.mono (fun k hk => (inF_perm HP.out k).1 hk))
            case measure => simp [intOf]; omega
          · have HZ : Hid (∀ c, 0 < c → c < n → par c = i → leE E (hv H1 i) (hv H1 c)) := fun c c0 cn pc => leE_trans E _ _ _ (fun ha => hz ((ordZ_neg _ _).2 ha)) (HMIN.out c c0 cn pc)
            have hd : decide (ordZ (E (hv H1 J2)) (E (hv H1 i)) < 0) = false := decide_eq_false hz
            clear hz
            go_wp2
            go_ret
            exact ⟨H1, i, by simp, HP.out, HL3.out, HENDS.out HZ.out, HBY.out, HK3.out⟩
        · have HMIN : Hid (∀ c, 0 < c → c < n → par c = i → leE E (hv H1 J1) (hv H1 c)) := fun c c0 cn pc => by
            rcases HCH.out c pc c0 with rfl | rfl
            · exact leE_refl E _
            · exact fun ha => hy ((ordZ_neg _ _).2 ha)
          have HJp := HP1
          have hdy : decide (ordZ (E (hv H1 J2)) (E (hv H1 J1)) < 0) = false := decide_eq_false hy
          clear hy
          have hm2 := mLess w2 qb F HL2.out.cell
          go_wp2_with fail
          refine Calls.mono (less_line B F H1 E w2 HL2.out.lx J1 i (by have := HN1.out; omega) (by have := HN1.out; omega)) ?_
          rintro e w3 ⟨rfl, hb3⟩
          have HL3 := hide (HL2.out.below hb3)
          have HK3 := hide (HK2.out.below hb3)
          have hm3 := mSwap w3 qb F HL3.out.cell
          clear hm2 hb3
          by_cases hz : ordZ (E (hv H1 J1)) (E (hv H1 i)) < 0
          · have HZ := hide ((ordZ_neg _ _).1 hz)
            go_wp2_with fail
            refine Calls.mono (swap_line B F H1 E w3 HL3.out.lx i J1 (by have := HN1.out; omega) (by have := HN1.out; omega) (by omega)) ?_
            rintro e w4 ⟨rfl, HW⟩
            go_wp2
            go_roundw
            case rel =>
              have q1 : i < H1.length := by have := HN1.out; omega
              have q2 : J1 < H1.length := by have := HN1.out; omega
              refine ⟨J1, rfl, by omega, by omega, sw H1 i J1, true, (sw_perm H1 i J1 q1 q2).trans HP.out, HL3.out.swapped q1 q2 HW.out.1 HW.out.2, by rw [sw_len]; exact HN1.out, ?_, fun _ => rfl, fun _ => rfl, fun hx => absurd (show i0 < J1 by omega) hx, ?_, ?_⟩
              · exact down_step HDI.out (by omega) HN1.out HJp.out (by omega) HMIN.out (leE_of E _ _ HZ.out)
              · intro k hk
                rw [hv_sw H1 i J1 k q1 q2, if_neg (by omega), if_neg (by omega)]
                exact HBY.out k hk
              · exact HK3.out.trans (HW.out.2.mono (fun k hk => (inF_perm HP.out k).1 hk))
            case measure => simp [intOf]; omega
          · have HZ : Hid (∀ c, 0 < c → c < n → par c = i → leE E (hv H1 i) (hv H1 c)) := fun c c0 cn pc => leE_trans E _ _ _ (fun ha => hz ((ordZ_neg _ _).2 ha)) (HMIN.out c c0 cn pc)
            have hd : decide (ordZ (E (hv H1 J1)) (E (hv H1 i)) < 0) = false := decide_eq_false hz
            clear hz
            go_wp2
            go_ret
            exact ⟨H1, i, by simp, HP.out, HL3.out, HENDS.out HZ.out, HBY.out, HK3.out⟩
      · obtain ⟨J1, hJ1⟩ : ∃ J, J = 2 * i + 1 := ⟨_, rfl⟩
        have e1 : 2 * (i : Int) + 1 = (J1 : Int) := by omega
        have hJn : J1 < n := by omega
        have hJm : ¬ J1 + 1 < n := by omega
        have hJm' : ¬ (J1 : Int) + 1 < (n : Int) := by omega
        have hiJ : i < J1 := by omega
        have HJp : Hid (par J1 = i) := by rw [hJ1]; show par _ = i; unfold par; omega
        have HMIN : Hid (∀ c, 0 < c → c < n → par c = i → leE E (hv H1 J1) (hv H1 c)) := fun c c0 cn pc => by
          have : c = J1 := by unfold par at pc; omega
          rw [this]
          exact leE_refl E _
        clear hJ1 h1 h2 hg1
        have hm2 := mLess wr qb F HL.out.cell
        go_wp2_with fail
        refine Calls.mono (less_line B F H1 E wr HL.out.lx J1 i (by have := HN1.out; omega) (by have := HN1.out; omega)) ?_
        rintro e w3 ⟨rfl, hb3⟩
        have HL3 := hide (HL.out.below hb3)
        have HK3 := hide (HK.out.below hb3)
        have hm3 := mSwap w3 qb F HL3.out.cell
        clear hm2 hb3
        by_cases hz : ordZ (E (hv H1 J1)) (E (hv H1 i)) < 0
        · have HZ := hide ((ordZ_neg _ _).1 hz)
          go_wp2_with fail
          refine Calls.mono (swap_line B F H1 E w3 HL3.out.lx i J1 (by have := HN1.out; omega) (by have := HN1.out; omega) (by omega)) ?_
          rintro e w4 ⟨rfl, HW⟩
          go_wp2
          go_roundw
          case rel =>
            have q1 : i < H1.length := by have := HN1.out; omega
            have q2 : J1 < H1.length := by have := HN1.out; omega
            refine ⟨J1, rfl, by omega, by omega, sw H1 i J1, true, (sw_perm H1 i J1 q1 q2).trans HP.out, HL3.out.swapped q1 q2 HW.out.1 HW.out.2, by rw [sw_len]; exact HN1.out, ?_, fun _ => rfl, fun _ => rfl, fun hx => absurd (show i0 < J1 by omega) hx, ?_, ?_⟩
            · exact down_step HDI.out (by omega) HN1.out HJp.out (by omega) HMIN.out (leE_of E _ _ HZ.out)
            · intro k hk
              rw [hv_sw H1 i J1 k q1 q2, if_neg (by omega), if_neg (by omega)]
              exact HBY.out k hk
            · exact HK3.out.trans (HW.out.2.mono (fun k hk => (inF_perm HP.out k).1 hk))
          case measure => simp [intOf]; omega
        · have HZ : Hid (∀ c, 0 < c → c < n → par c = i → leE E (hv H1 i) (hv H1 c)) := fun c c0 cn pc => leE_trans E _ _ _ (fun ha => hz ((ordZ_neg _ _).2 ha)) (HMIN.out c c0 cn pc)
          have hd : decide (ordZ (E (hv H1 J1)) (E (hv H1 i)) < 0) = false := decide_eq_false hz
          clear hz
          go_wp2
          go_ret
          exact ⟨H1, i, by simp, HP.out, HL3.out, HENDS.out HZ.out, HBY.out, HK3.out⟩
    · have HZ : Hid (∀ c, 0 < c → c < n → par c = i → leE E (hv H1 i) (hv H1 c)) := fun c c0 cn pc => by unfold par at pc; omega
      go_wp2
      go_ret
      exact ⟨H1, i, by simp, HP.out, HL.out, HENDS.out HZ.out, HBY.out, HK.out⟩
end Go.Proofs.Ytnbhifakfehefaa
