
/- heap.Remove. -/
import Derived.Test.YtnbhifakfehefaaKRem
namespace Go.Proofs.Ytnbhifakfehefaa
open Go.RowKit
set_option linter.unusedVariables false
set_option linter.unusedSimpArgs false
def HRemP (B qb b : Nat) (c : Cf) (hi : Int) (A F : Value) (H : List Nat) (E : Nat → It) (w w' : World) (F' : Value) (H' : List Nat) : Prop :=
  QB w' qb c hi A F' ∧ Lx w' B F' H' E ∧ (H' ++ [b]).Perm H ∧ HeapOk (leE E) H' H'.length ∧ F'.ownBlock = F.ownBlock ∧ Kp (fun k => k = qb ∨ inF F H k) w w' ∧ ∃ p, IB w' b ((E b).at p)
theorem down_mid {E : Nat → It} {H : List Nat} {n j : Nat} (h : HeapOk (leE E) H (n + 1)) (hn : n < H.length) (hj : j < n) : DownI (leE E) (sw H j n) n j false := by
  have hs := fun k (hk : k < n) => hv_sw H j n k (by omega) hn
  refine ⟨fun k k0 kn pk hb => ?_, fun k k0 kn j0 pk => ?_⟩
  · have hkj : k ≠ j := by
      rcases hb with h | h
      · exact h
      · cases h
    have : par k < k := by unfold par; omega
    rw [hs _ (by omega), hs _ kn, if_neg (by omega), if_neg pk, if_neg (by omega), if_neg hkj]
    exact h k k0 (by omega)
  · have h1 : par j < j := by unfold par; omega
    have h2 : par k < k := by unfold par; omega
    rw [hs _ (by omega), hs _ kn, if_neg (by omega), if_neg (by omega), if_neg (by omega), if_neg (by omega)]
    have a := h j j0 (by omega)
    have b := h k k0 (by omega)
    rw [pk] at b
    exact leE_trans E _ _ _ a b
theorem perm_to {H H3 : List Nat} {n : Nat} {b : Nat} (hp : H3.Perm H) (hl : H.length = n + 1) (hb : hv H3 n = b) : H3 = H3.take n ++ [b] ∧ (H3.take n ++ [b]).Perm H ∧ (H3.take n).length = n := by
  have h1 : H3.length = n + 1 := by rw [hp.length_eq, hl]
  have h2 := snoc_of H3 n h1
  rw [hb] at h2
  exact ⟨h2, by rw [← h2]; exact hp, by rw [List.length_take]; omega⟩
theorem pop_tail {w w3 : World} {B qb b n : Nat} {c : Cf} {hi : Int} {A F : Value} {H H3 : List Nat} {E : Nat → It} (hq : QB w qb c hi A F) (hln : Ln w B qb F H E) (hl : H.length = n + 1) (hp : H3.Perm H) (hl3 : Ln w3 B qb F H3 E) (hb : hv H3 n = b) (hok : HeapOk (leE E) H3 n) (hk : Kp (inF F H) w w3) :
    Calls Try.prog 94 #[.pointer (some ⟨qb, 7, none⟩)] w3 fun e w' => e = .returned (.iface 67 (ptr b)) ∧ ∃ F' H', Hid (HRemP B qb b c hi A F H E w w' F' H') := by
  obtain ⟨hsn, hpm, hlt⟩ := perm_to hp hl hb
  have hq3 : QB w3 qb c hi A F := (hk.block hq.lt hln.out).trans hq
  have hl3' : Lx w3 B F (H3.take n ++ [b]) E := by rw [← hsn]; exact hl3.lx
  have hib : IB w3 b ((E b).at (n : Int)) := hl3'.it n b (by rw [List.getElem?_append_right (by omega), hlt, Nat.sub_self]; rfl)
  have hbq : b ≠ qb := fun e => (hq3.ne_item hib) e.symm
  have hbF : F.ownBlock ≠ some b := fun e => (hib.ne_row hl3'.row e) rfl
  refine Calls.mono (pop_line B qb b c hi A F (H3.take n) E w3 hq3 hl3') ?_
  rintro e w4 ⟨rfl, F4, HP⟩
  obtain ⟨r1, r2, r3, r4⟩ := HP.out
  refine ⟨rfl, F4, H3.take n, r1, r2, hpm, fun k k0 kn => ?_, r3, (hk.mono (fun k hk => .inr hk)).trans (r4.mono (fun k hk => hk.elim .inl (fun h => .inr (.inl h)))), n, (r4.block hib.lt (fun hk => hk.elim hbq hbF)).trans hib⟩
  rw [hlt] at kn
  have : par k < k := by unfold par; omega
  rw [hv_take _ _ _ (by omega), hv_take _ _ _ kn]
  exact hok k k0 kn
set_option maxRecDepth 100000 in
set_option maxHeartbeats 4000000 in
theorem heap_remove (B qb : Nat) (c : Cf) (hi : Int) (A F : Value) (H : List Nat) (E : Nat → It) (j : Nat) (w : World) (hq : QB w qb c hi A F) (hl : Lx w B F H E) (hh : HeapOk (leE E) H H.length) (hj : j < H.length) :
    Calls Try.prog 30 #[ifc qb, .int .i64 (j : Int)] w fun e w' => e = .returned (.iface 67 (ptr (hv H j))) ∧ ∃ F' H', Hid (HRemP B qb (hv H j) c hi A F H E w w' F' H') := by
  obtain ⟨n, hn⟩ : ∃ n, H.length = n + 1 := ⟨H.length - 1, by omega⟩
  have h4 : n < 4096 := by have := hl.len; omega
  have HLN := hide (Ln.of hq hl)
  obtain ⟨a, cap, hF⟩ := row_form hl.row
  rw [hn] at hF hj
  have HQ := hide hq
  have hm := mLen w qb F HLN.out.cell
  have hm2 := mSwap w qb F HLN.out.cell
  have HHN := hide hn
  have HFF := hide hF
  have HOK := hide hh
  by_cases hjn : j = n
  · subst hjn
    have HPO := hide (pop_tail hq HLN.out hn (List.Perm.refl H) HLN.out rfl (fun k k0 kn => hh k k0 (by omega)) (Kp.refl _ w))
    have hm3 := mPop w qb
    rw [hF] at hm hm2
    clear hq hl hh hn hF
    unfold ifc
    go_enter Try.func30, Try.ntmps30
    go_wp2_with fail
    refine Calls.mono (len_line F (j + 1) cap a w) ?_
    rintro e w1 ⟨rfl, rfl⟩
    go_wp2_with fail
    refine Calls.mono HPO.out ?_
    rintro e w4 ⟨rfl, F4, H4, HP⟩
    go_wp2
    go_ret
    exact ⟨rfl, F4, H4, HP⟩
  · have hjn' : ¬ (n : Int) = (j : Int) := by omega
    have HSW : Hid (Calls Try.prog 93 #[F, .int .i64 (j : Int), .int .i64 (n : Int)] w fun e w' => e = .returned (.tuple #[]) ∧ Hid (Ln w' B qb F (sw H j n) E ∧ Kp (inF F H) w w')) := by
      refine Calls.mono (swap_line B F H E w hl j n (by omega) (by omega) hjn) ?_
      rintro e w' ⟨rfl, HW⟩
      exact ⟨rfl, HLN.out.swapped (by omega) (by omega) HW.out.1 HW.out.2, HW.out.2⟩
    have HDI : Hid (DownI (leE E) (sw H j n) n j false) := down_mid (by rw [← hn]; exact hh) (by omega) (by omega)
    have HPM : Hid ((sw H j n).Perm H) := sw_perm H j n (by omega) (by omega)
    have HVB : Hid (hv (sw H j n) n = hv H j) := by
      show _ = _
      rw [hv_sw H j n n (by omega) (by omega), if_pos rfl]
    rw [hF] at hm hm2 HSW
    clear hq hl hh hn hF
    unfold ifc
    go_enter Try.func30, Try.ntmps30
    go_wp2_with fail
    refine Calls.mono (len_line F (n + 1) cap a w) ?_
    rintro e w1 ⟨rfl, rfl⟩
    go_wp2_with fail
    refine Calls.mono HSW.out ?_
    rintro e w2 ⟨rfl, HW⟩
    rw [← HFF.out] at HW
    have q := down_any B qb F (sw H j n) E j n false w2 HW.out.1 (by rw [sw_len, HHN.out]; omega) (by omega) HDI.out
    unfold ifc at q
    have HDN := hide q
    clear q hm hm2
    go_wp2_with fail
    refine Calls.mono HDN.out ?_
    rintro e w3 ⟨H3, i3, rfl, hp3, hl3, hd3, hbey, hk3⟩
    have hkk : Kp (inF F H) w1 w3 := HW.out.2.trans (hk3.mono (fun k hk => (inF_perm HPM.out k).1 hk))
    have hv3 : hv H3 n = hv H j := (hbey n (Nat.le_refl _)).trans HVB.out
    by_cases hji : j < i3
    · have HPO := hide (pop_tail HQ.out HLN.out HHN.out (hp3.trans HPM.out) hl3 hv3 (hd3.1 (.inl hji)) hkk)
      have hm3 := mPop w3 qb
      clear hp3 hl3 hd3 hbey hk3 hkk hv3
      go_wp2_with fail
      refine Calls.mono HPO.out ?_
      rintro e w4 ⟨rfl, F4, H4, HP⟩
      go_wp2
      go_ret
      exact ⟨rfl, F4, H4, HP⟩
    · obtain ⟨rfl, hup⟩ := hd3.2 hji
      have q := up_any B qb F (sw H j n) E j w3 n hl3 (by omega) (by rw [sw_len, HHN.out]; omega) hup
      unfold ifc at q
      have HUP := hide q
      have HKK := hide hkk
      clear q hp3 hl3 hd3 hbey hk3 hkk hup
      go_wp2_with fail
      refine Calls.mono HUP.out ?_
      rintro e w4 ⟨rfl, H4⟩
      obtain ⟨H5, p5, l5, o5, b5, k5⟩ := H4.out
      have HPO := hide (pop_tail HQ.out HLN.out HHN.out (p5.trans HPM.out) l5 ((b5 n (Nat.le_refl _)).trans HVB.out) o5 (HKK.out.trans (k5.mono (fun k hk => (inF_perm HPM.out k).1 hk))))
      have hm3 := mPop w4 qb
      clear H4 p5 l5 o5 b5 k5
      go_wp2_with fail
      refine Calls.mono HPO.out ?_
      rintro e w5 ⟨rfl, F4, H6, HP⟩
      go_wp2
      go_ret
      exact ⟨rfl, F4, H6, HP⟩
end Go.Proofs.Ytnbhifakfehefaa
