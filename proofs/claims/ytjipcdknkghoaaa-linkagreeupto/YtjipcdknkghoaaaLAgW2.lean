
/- LinkAgree: the walk. -/
import Derived.Test.YtjipcdknkghoaaaLAgT
import Derived.Test.YtjipcdknkghoaaaLAwW
import Derived.Test.YtjipcdknkghoaaaLAgW0
namespace Go.Proofs.Ytjipcdknkghoaaa
open Go.RowKit Go.Maps
set_option linter.unusedVariables false
set_option linter.unusedSimpArgs false

set_option maxRecDepth 100000 in
set_option maxHeartbeats 16000000 in
theorem agree_lo_t (count mode : Int) (a : Option Addr) (n cap : Nat) (fs : Nat → Tn) (w : World) (hR : RT w a n fs) (hn : n ≤ 1048576) (hc : count < 0) :
    Calls Try.prog 3 #[.int .i64 count, .int .i64 mode, .bool true, .slice a n cap] w fun e1 w' => e1 = .returned (.bool true) ∧ Below w.heap.size w w' := by
  have hlow := md_low mode
  have hmd := md_in mode
  have hcr : 0 ≤ (4294967290 : Int) ∧ (4294967290 : Int) ≤ 4294967295 := by omega
  obtain ⟨md, hm⟩ : ∃ md, md = mdOf mode := ⟨_, rfl⟩
  rw [← hm] at hmd
  have hm2 : Int.tmod (Int.tmod mode 3 + 3) 3 = md := hm.symm
  have HMd := hide hmd
  have HR := hide hR
  have HN := hide hn
  have HCr := hide hcr
  have hni : (n : Int) ≤ 1048576 := by omega
  clear hmd hm hR hn hcr
  go_enter Try.func3, Try.ntmps3
  go_wp2_with (first | (go_at_call 5; refine (awake_any _).mono ?_; rintro e1 w1 ⟨rfl, hb1⟩; refine Shut.out ?_))
  unfold Shut
  obtain ⟨V, hV⟩ : ∃ V, w1.alloc (.cells (cfA ⟨#[108]⟩ false md 0 4294967290 0) 25) = V := ⟨_, rfl⟩
  have h0 : V.heap[w1.heap.size]? = some (.cells (cfA ⟨#[108]⟩ false md 0 4294967290 0) 25 (0, 0)) := hV ▸ heap_alloc_last w1 _
  have hbV : Below w.heap.size w V := hV ▸ bel1 hb1 hb1.size _
  have hw1 := hb1.size
  have HV : Hid (w1.alloc (.cells #[.string ⟨#[108]⟩, .bool false, .int .i64 md, .int .i64 0, .int .i64 4294967290, .int .i64 0] 25) = V) := hV
  obtain ⟨c0, c1, c2, c3, c4, c5, cl, cf⟩ := cf_facts h0
  obtain ⟨V0, hV0⟩ : ∃ V0, V.setCell ⟨w1.heap.size, 3, none⟩ (.int .i64 1) = V0 := ⟨_, rfl⟩
  have h00 : V0.heap[w1.heap.size]? = some (.cells (cfA ⟨#[108]⟩ false md 1 4294967290 0) 25 (0, 0)) := hV0 ▸ cf_rm h0 1
  have hbV0 : Below w.heap.size w V0 := hV0 ▸ bel_setCell hbV hw1 _ _
  have HV0 := hide hV0
  clear hV0 h0 hbV
  obtain ⟨e0, e1, e2, e3, e4, e5, el, ef⟩ := cf_facts h00
  have H0 := hide h00
  have HB0 := hide hbV0
  have HNw := hide (new_yes ⟨#[108]⟩ false md 1 4294967290 0 V0 (by decide) (md_is HMd.out) (by decide) (isIn_c HCr.out) (by decide))
  clear hV hb1 h00 hbV0
  go_wp2_with (first | rw [HV0.out] | rw [HV.out] | (go_at_call 6; refine HNw.out.mono ?_; rintro e9 w2 ⟨n1, rfl, hn1, hL1, hb2⟩; refine Shut.out ?_))
  unfold Shut
  have h1 := (hb2.block _ el).trans H0.out
  have hbw := HB0.out.trans (hb2.mono HB0.out.size)
  have hl1 := Nat.lt_of_lt_of_le el hn1
  clear c0 c1 c2 c3 c4 c5 cl cf e0 e1 e2 e3 e4 e5 el ef H0 HV HV0 HB0 HNw hb2 hn1
  obtain ⟨W1, hW1⟩ : ∃ W1, w2.setCell ⟨w1.heap.size, 1, none⟩ (.bool true) = W1 := ⟨_, rfl⟩
  have kW : Kp (fun q => q = w1.heap.size) w2 W1 := hW1 ▸ kp_self (Kp.refl _ _) _ _
  have h2 : W1.heap[w1.heap.size]? = some (.cells (cfA ⟨#[108]⟩ true md 1 4294967290 0) 25 (0, 0)) := hW1 ▸ cf_rc h1 true
  have hL2 : Lnk W1 (n1 + 1) (newLk ⟨#[108]⟩ false md 1 4294967290 n1) [] := hL1.kp kW (fun q hq e => by unfold inL newLk at hq; dsimp only at hq; omega)
  have hb2 : Below w.heap.size w W1 := bel_kp hbw kW (fun q e => by omega)
  obtain ⟨c0, c1, c2, c3, c4, c5, cl, cf⟩ := cf_facts h1
  obtain ⟨e0, e1, e2, e3, e4, e5, el, ef⟩ := cf_facts h2
  have HW1 := hide hW1
  have HL2 := hide hL2
  have HB2 := hide hb2
  have HNl := hide hl1
  have HNw := hide (new_yes ⟨#[108]⟩ true md 1 4294967290 0 W1 (by decide) (md_is HMd.out) (by decide) (isIn_c HCr.out) (by decide))
  clear hW1 h1 h2 hL2 hb2 hbw kW hL1 hl1
  go_wp2_with (first | rw [HW1.out] | (go_at_call 6; refine HNw.out.mono ?_; rintro e9 w3 ⟨m1, rfl, hm1, hM, hb3⟩; refine Shut.out ?_))
  unfold Shut
  have hP := Pr.made (w := w) HL2.out (fun q hq => by have := HNl.out; unfold inL newLk at hq; dsimp only at hq; omega) HB2.out hm1 hM rfl hb3
  have hS := Pm.start hP
  obtain ⟨W3, hW3⟩ : ∃ W3, w3.alloc (.cells (pmA (n1 + 1) (m1 + 1) 0 nilV nilV nilV) 32) = W3 := ⟨_, rfl⟩
  rw [hW3] at hS
  have HW3 : Hid (w3.alloc (.cells #[.pointer (some ⟨n1 + 1, 0, none⟩), .pointer (some ⟨m1 + 1, 0, none⟩), .slice none 0 0, .slice none 0 0, .int .i64 0, .slice none 0 0] 32) = W3) := hW3
  have HT0 : Hid (TurnI w.heap.size w w3.heap.size (n1 + 1) (m1 + 1) 0 0 true md 4294967290 W3) := ⟨_, _, _, _, _, _, _, _, _, _, _, _, _, _, _, hS, Al.start HCr.out⟩
  clear c0 c1 c2 c3 c4 c5 cl cf e0 e1 e2 e3 e4 e5 el ef HW1 HL2 HB2 HNw hb3 hM hm1 hP hS hW3 HNl hw1
  obtain ⟨pk, hpk⟩ : ∃ pk, pk = w3.heap.size := ⟨_, rfl⟩
  go_wp2_with (rw [HW3.out]; refine Shut.out ?_)
  unfold Shut
  rw [← hpk] at HT0 ⊢
  clear HW3 hpk
  go_wp2_with fail
  go_loopw [14] (fun i wr => ∃ j N : Nat, i = .int .i64 (j : Int) ∧ j ≤ n ∧ Hid (TurnI w.heap.size w pk (n1 + 1) (m1 + 1) N j true md 4294967290 wr)) (fun i _ => n - (intOf i).toNat)
  case atStart => exact ⟨0, 0, rfl, Nat.zero_le _, HT0.out⟩
  case round =>
    clear HT0
    obtain ⟨j, N, rfl, hj, HT⟩ := hrel
    by_cases hjn : j < n
    · have hjb : (j : Int) ≤ 1048576 := by omega
      have hbw : Below w.heap.size w wr := by obtain ⟨s, r, Ts, Tr, vO, vB, vG, O, B, G, e, p, L, a, b, hp, ha⟩ := HT.out; exact hp.bel
      obtain ⟨b, off, rfl, hbl, hrg⟩ := HR.out.at hjn hbw
      have HRg := hide hrg
      have HC : Hid (Calls Try.prog 7 #[.pointer (some ⟨pk, 0, none⟩), .agg #[.int .i64 (fs j).1, .int .i64 (fs j).2.1, .bool (fs j).2.2], .bool true, .int .i64 md] wr fun e1 w' => e1 = .returned (.bool true) ∧ ∃ N', TurnI w.heap.size w pk (n1 + 1) (m1 + 1) N' (j + 1) true md 4294967290 w') := turn_any (fs j).1 (fs j).2.1 (fs j).2.2 wr HT.out (by have := HN.out; omega) HMd.out
      clear hbw hrg
      go_wp2_with (first | (refine wpList_load_mid rfl 35 (.tmp 63) rfl b (off + j * 3) rfl (fs j).L _ HRg.out Try.underlying35 rfl (by kernel_rfl) ?_) | (go_at_call 7; refine HC.out.mono ?_; rintro e9 w5 ⟨rfl, N5, hT5⟩))
      go_roundw
      case rel => exact ⟨j + 1, N5, by go_num, by omega, hT5⟩
      case measure => simp [intOf]; omega
    · obtain rfl : j = n := by omega
      obtain ⟨s, r, Ts, Tr, vO, vB, vG, O, B, G, e, p, L, ax, bx, hp, ha⟩ := HT.out
      obtain ⟨c0, c1, c2, c3, c4, c5, cf, cl⟩ := hp.facts
      obtain ⟨ao, co, hso⟩ := hp.wo.shape
      rw [hso] at c2
      have HC1 := hide (comesR (k := pk) (O.length : Int) wr O.length ⟨r, Tr, vO, vG, O, G, p, rfl, hp, ha⟩ (by have := HN.out; omega) (by have := ha.lo; have := HN.out; omega))
      clear hp ha hso HT HR hjn hj
      go_wp2_with (first | (go_at_call 8; refine HC1.out.mono ?_; rintro e9 w5 ⟨rfl, m5, hi5, hm5⟩; refine Shut.out ?_))
      unfold Shut
      obtain ⟨r5, Tr5, vO5, vG5, O5, G5, p5, hl5, hp5, ha5⟩ := hi5
      have hO5 : O5 = [] := List.length_eq_zero_iff.1 (by omega)
      subst hO5
      clear c0 c1 c2 c3 c4 c5 cf cl HC1 hm5 hl5
      obtain ⟨c0, c1, c2, c3, c4, c5, cf, cl⟩ := hp5.facts
      obtain ⟨ab, cb, hsb⟩ := hp5.wb.shape
      rw [hsb] at c3
      have HC2 := hide (comesS (k := pk) (B.length : Int) w5 B.length ⟨s, Ts, vB, B, ax, rfl, hp5, ha5⟩ (by have := HN.out; omega) (by have := ha5.lb; have := HN.out; omega))
      clear hp5 ha5 hsb
      go_wp2_with (first | (go_at_call 8; refine HC2.out.mono ?_; rintro e9 w6 ⟨rfl, m6, hi6, hm6⟩; refine Shut.out ?_))
      unfold Shut
      obtain ⟨s6, Ts6, vB6, B6, a6, hl6, hp6, ha6⟩ := hi6
      have hB6 : B6 = [] := List.length_eq_zero_iff.1 (by omega)
      subst hB6
      have hL := last_of hp6 ha6 (by have := HN.out; omega)
      clear c0 c1 c2 c3 c4 c5 cf cl HC2 hm6 hl6 hp6 ha6
      have hlen : Tr5.length = Ts6.length := by have := hL.ks.length_eq; rw [keys_len, keys_len] at this; exact this.symm
      have HL := hide hL
      obtain ⟨nt, hnt⟩ : ∃ nt, nt = Ts6.length := ⟨_, rfl⟩
      obtain ⟨ct, hct⟩ : ∃ ct, ct = s6.ct := ⟨_, rfl⟩
      obtain ⟨cr, hcr⟩ : ∃ cr, cr = s6.cr := ⟨_, rfl⟩
      have HS1 := hide (see_any (n1 + 1) s6 Ts6 w6 hL.facts.1)
      unfold Lk.see at HS1
      rw [← hct, ← hcr] at HS1
      have HE : Hid (∀ W, Lst true w.heap.size w W pk (n1 + 1) (m1 + 1) s6 r5 Ts6 Tr5 vG5 G5 → Calls Try.prog 9 #[.pointer (some ⟨m1 + 1, 0, none⟩)] W fun e1 w' => e1 = .returned (.agg #[.string r5.nm, .bool r5.rc, .int .i64 ct, .int .i64 cr, .int .i64 r5.av, .bool r5.dr, .int .i64 (nt : Int)]) ∧ Below W.heap.size W w') := fun W hW => by
        have := see_any (m1 + 1) r5 Tr5 W hW.facts.2.1
        unfold Lk.see at this
        rw [← hW.ct, ← hW.cr, ← hct, ← hcr, hlen, ← hnt] at this
        exact this
      have HNt := hide hnt
      clear hL hlen hnt hct hcr
      go_wp2_with (first | (go_at_call 9; refine HS1.out.mono ?_; rintro e9 w7 ⟨rfl, hb7⟩; refine Shut.out ?_))
      unfold Shut
      obtain ⟨W7, hW7⟩ : ∃ W7, w7.alloc (.cells #[.string s6.nm, .bool s6.rc, .int .i64 ct, .int .i64 cr, .int .i64 s6.av, .bool s6.dr, .int .i64 (Ts6.length : Int)] 38) = W7 := ⟨_, rfl⟩
      have hx7 : W7.heap[w7.heap.size]? = some (.cells #[.string s6.nm, .bool s6.rc, .int .i64 ct, .int .i64 cr, .int .i64 s6.av, .bool s6.dr, .int .i64 (Ts6.length : Int)] 38 (0, 0)) := hW7 ▸ heap_alloc_last w7 _
      have hbW7 : Below w6.heap.size w6 W7 := hW7 ▸ bel1 hb7 hb7.size _
      have HL7 := hide (HL.out.go hbW7)
      have HW7 := hide hW7
      have HS2 := hide (HE.out W7 HL7.out)
      have HX7 := hide hx7
      clear hW7 hbW7 hb7 HS1 HL HE hx7
      go_wp2_with (first | rw [HW7.out] | (go_at_call 9; refine HS2.out.mono ?_; rintro e9 w8 ⟨rfl, hb8⟩; refine Shut.out ?_))
      unfold Shut
      obtain ⟨W8, hW8⟩ : ∃ W8, w8.alloc (.cells #[.string r5.nm, .bool r5.rc, .int .i64 ct, .int .i64 cr, .int .i64 r5.av, .bool r5.dr, .int .i64 (nt : Int)] 38) = W8 := ⟨_, rfl⟩
      have hbW8 : Below W7.heap.size W7 W8 := hW8 ▸ bel1 hb8 hb8.size _
      have hx8 : W8.heap[w8.heap.size]? = some (.cells #[.string r5.nm, .bool r5.rc, .int .i64 ct, .int .i64 cr, .int .i64 r5.av, .bool r5.dr, .int .i64 (nt : Int)] 38 (0, 0)) := hW8 ▸ heap_alloc_last w8 _
      have hx7 := (hbW8.block _ (Array.getElem?_eq_some_iff.1 HX7.out).1).trans HX7.out
      have x2 := cellOf hx7 2 (.int .i64 ct) rfl
      have x3 := cellOf hx7 3 (.int .i64 cr) rfl
      have y2 := cellOf hx8 2 (.int .i64 ct) rfl
      have y3 := cellOf hx8 3 (.int .i64 cr) rfl
      have xl := (Array.getElem?_eq_some_iff.1 hx7).1
      have yl := (Array.getElem?_eq_some_iff.1 hx8).1
      have HL8 := hide (HL7.out.go hbW8)
      have HW8 := hide hW8
      have HX8 := hide hx8
      have HU1 := hide (unsettled_any (n1 + 1) s6 Ts6 W8 HL8.out.facts.1 HL8.out.sm)
      clear hW8 hbW8 hb8 HS2 HL7 HW7 HX7 hx7 hx8
      go_wp2_with (first | rw [HW8.out] | (go_at_call 10; refine HU1.out.mono ?_; rintro e9 w9 ⟨v9, rfl, hu9⟩; refine Shut.out ?_))
      unfold Shut
      obtain ⟨⟨a9, k9, hv9⟩, hb9⟩ := uns_shape hu9
      rw [← HNt.out] at hv9
      have HU9 := hide hu9
      have HL9 := hide (HL8.out.go hb9)
      have HV9 := hide hv9
      have hl9 := HL9.out.ln
      have hx9 := (hb9.block _ (Array.getElem?_eq_some_iff.1 HX8.out).1).trans HX8.out
      have y6 := cellOf hx9 6 (.int .i64 (nt : Int)) rfl
      have yl9 := (Array.getElem?_eq_some_iff.1 hx9).1
      clear hx9
      have HU2 := hide (unsettled_any (m1 + 1) r5 Tr5 w9 HL9.out.facts.2.1 (by have h9 := HL9.out.sm; have h8 := HL9.out.ks.length_eq; rw [keys_len, keys_len] at h8; omega))
      subst hv9
      clear x2 x3 y2 y3 xl yl HU1 HW8 hu9 hl9
      go_wp2_with fail
      refine HU2.out.mono ?_
      rintro e9 w10 ⟨v10, rfl, hu10⟩
      obtain ⟨⟨a10, k10, hv10⟩, hb10⟩ := uns_shape hu10
      obtain ⟨ts, t1, t2, t3, t4, ht0, ht1, ht2, ht3, ht4⟩ := uns_same HU9.out hu10 HL9.out.ks
      cases ht1
      subst ht2
      have hst := sameTags_yes ts a9 t3 k9 t4 w10 ht3 ht4 (by have h9 := HL9.out.sm; omega)
      rw [ht0] at hst ⊢
      have HT := hide hst
      have HBf : Hid (Below w.heap.size w w10) := HL9.out.facts.2.2.2.2.2.trans (hb10.mono HL9.out.facts.2.2.2.2.2.size)
      clear ht0 ht3 ht4 hb10 hu10 hv10 hb9 HU2 HU9 hst
      go_wp2_with fail
      refine HT.out.mono ?_
      rintro e9 w11 ⟨rfl, hk11⟩
      go_wp2
      go_ret
      exact ⟨by first | rfl | simp, HBf.out.trans (hk11.toBelow HBf.out.size (fun _ _ h => h))⟩
set_option maxRecDepth 100000 in
set_option maxHeartbeats 16000000 in
theorem agree_hi_t (count mode : Int) (a : Option Addr) (n cap : Nat) (fs : Nat → Tn) (w : World) (hR : RT w a n fs) (hn : n ≤ 1048576) (hc : ¬ count < 0) (hc2 : 4294967295 < count) :
    Calls Try.prog 3 #[.int .i64 count, .int .i64 mode, .bool true, .slice a n cap] w fun e1 w' => e1 = .returned (.bool true) ∧ Below w.heap.size w w' := by
  have hlow := md_low mode
  have hmd := md_in mode
  have hcr : 0 ≤ (4294967290 : Int) ∧ (4294967290 : Int) ≤ 4294967295 := by omega
  obtain ⟨md, hm⟩ : ∃ md, md = mdOf mode := ⟨_, rfl⟩
  rw [← hm] at hmd
  have hm2 : Int.tmod (Int.tmod mode 3 + 3) 3 = md := hm.symm
  have HMd := hide hmd
  have HR := hide hR
  have HN := hide hn
  have HCr := hide hcr
  have hni : (n : Int) ≤ 1048576 := by omega
  clear hmd hm hR hn hcr
  go_enter Try.func3, Try.ntmps3
  go_wp2_with (first | (go_at_call 5; refine (awake_any _).mono ?_; rintro e1 w1 ⟨rfl, hb1⟩; refine Shut.out ?_))
  unfold Shut
  obtain ⟨V, hV⟩ : ∃ V, w1.alloc (.cells (cfA ⟨#[108]⟩ false md 0 4294967290 0) 25) = V := ⟨_, rfl⟩
  have h0 : V.heap[w1.heap.size]? = some (.cells (cfA ⟨#[108]⟩ false md 0 4294967290 0) 25 (0, 0)) := hV ▸ heap_alloc_last w1 _
  have hbV : Below w.heap.size w V := hV ▸ bel1 hb1 hb1.size _
  have hw1 := hb1.size
  have HV : Hid (w1.alloc (.cells #[.string ⟨#[108]⟩, .bool false, .int .i64 md, .int .i64 0, .int .i64 4294967290, .int .i64 0] 25) = V) := hV
  obtain ⟨c0, c1, c2, c3, c4, c5, cl, cf⟩ := cf_facts h0
  obtain ⟨V0, hV0⟩ : ∃ V0, V.setCell ⟨w1.heap.size, 3, none⟩ (.int .i64 1) = V0 := ⟨_, rfl⟩
  have h00 : V0.heap[w1.heap.size]? = some (.cells (cfA ⟨#[108]⟩ false md 1 4294967290 0) 25 (0, 0)) := hV0 ▸ cf_rm h0 1
  have hbV0 : Below w.heap.size w V0 := hV0 ▸ bel_setCell hbV hw1 _ _
  have HV0 := hide hV0
  clear hV0 h0 hbV
  obtain ⟨e0, e1, e2, e3, e4, e5, el, ef⟩ := cf_facts h00
  have H0 := hide h00
  have HB0 := hide hbV0
  have HNw := hide (new_yes ⟨#[108]⟩ false md 1 4294967290 0 V0 (by decide) (md_is HMd.out) (by decide) (isIn_c HCr.out) (by decide))
  clear hV hb1 h00 hbV0
  go_wp2_with (first | rw [HV0.out] | rw [HV.out] | (go_at_call 6; refine HNw.out.mono ?_; rintro e9 w2 ⟨n1, rfl, hn1, hL1, hb2⟩; refine Shut.out ?_))
  unfold Shut
  have h1 := (hb2.block _ el).trans H0.out
  have hbw := HB0.out.trans (hb2.mono HB0.out.size)
  have hl1 := Nat.lt_of_lt_of_le el hn1
  clear c0 c1 c2 c3 c4 c5 cl cf e0 e1 e2 e3 e4 e5 el ef H0 HV HV0 HB0 HNw hb2 hn1
  obtain ⟨W1, hW1⟩ : ∃ W1, w2.setCell ⟨w1.heap.size, 1, none⟩ (.bool true) = W1 := ⟨_, rfl⟩
  have kW : Kp (fun q => q = w1.heap.size) w2 W1 := hW1 ▸ kp_self (Kp.refl _ _) _ _
  have h2 : W1.heap[w1.heap.size]? = some (.cells (cfA ⟨#[108]⟩ true md 1 4294967290 0) 25 (0, 0)) := hW1 ▸ cf_rc h1 true
  have hL2 : Lnk W1 (n1 + 1) (newLk ⟨#[108]⟩ false md 1 4294967290 n1) [] := hL1.kp kW (fun q hq e => by unfold inL newLk at hq; dsimp only at hq; omega)
  have hb2 : Below w.heap.size w W1 := bel_kp hbw kW (fun q e => by omega)
  obtain ⟨c0, c1, c2, c3, c4, c5, cl, cf⟩ := cf_facts h1
  obtain ⟨e0, e1, e2, e3, e4, e5, el, ef⟩ := cf_facts h2
  have HW1 := hide hW1
  have HL2 := hide hL2
  have HB2 := hide hb2
  have HNl := hide hl1
  have HNw := hide (new_yes ⟨#[108]⟩ true md 1 4294967290 0 W1 (by decide) (md_is HMd.out) (by decide) (isIn_c HCr.out) (by decide))
  clear hW1 h1 h2 hL2 hb2 hbw kW hL1 hl1
  go_wp2_with (first | rw [HW1.out] | (go_at_call 6; refine HNw.out.mono ?_; rintro e9 w3 ⟨m1, rfl, hm1, hM, hb3⟩; refine Shut.out ?_))
  unfold Shut
  have hP := Pr.made (w := w) HL2.out (fun q hq => by have := HNl.out; unfold inL newLk at hq; dsimp only at hq; omega) HB2.out hm1 hM rfl hb3
  have hS := Pm.start hP
  obtain ⟨W3, hW3⟩ : ∃ W3, w3.alloc (.cells (pmA (n1 + 1) (m1 + 1) 0 nilV nilV nilV) 32) = W3 := ⟨_, rfl⟩
  rw [hW3] at hS
  have HW3 : Hid (w3.alloc (.cells #[.pointer (some ⟨n1 + 1, 0, none⟩), .pointer (some ⟨m1 + 1, 0, none⟩), .slice none 0 0, .slice none 0 0, .int .i64 0, .slice none 0 0] 32) = W3) := hW3
  have HT0 : Hid (TurnI w.heap.size w w3.heap.size (n1 + 1) (m1 + 1) 0 0 true md 4294967290 W3) := ⟨_, _, _, _, _, _, _, _, _, _, _, _, _, _, _, hS, Al.start HCr.out⟩
  clear c0 c1 c2 c3 c4 c5 cl cf e0 e1 e2 e3 e4 e5 el ef HW1 HL2 HB2 HNw hb3 hM hm1 hP hS hW3 HNl hw1
  obtain ⟨pk, hpk⟩ : ∃ pk, pk = w3.heap.size := ⟨_, rfl⟩
  go_wp2_with (rw [HW3.out]; refine Shut.out ?_)
  unfold Shut
  rw [← hpk] at HT0 ⊢
  clear HW3 hpk
  go_wp2_with fail
  go_loopw [14] (fun i wr => ∃ j N : Nat, i = .int .i64 (j : Int) ∧ j ≤ n ∧ Hid (TurnI w.heap.size w pk (n1 + 1) (m1 + 1) N j true md 4294967290 wr)) (fun i _ => n - (intOf i).toNat)
  case atStart => exact ⟨0, 0, rfl, Nat.zero_le _, HT0.out⟩
  case round =>
    clear HT0
    obtain ⟨j, N, rfl, hj, HT⟩ := hrel
    by_cases hjn : j < n
    · have hjb : (j : Int) ≤ 1048576 := by omega
      have hbw : Below w.heap.size w wr := by obtain ⟨s, r, Ts, Tr, vO, vB, vG, O, B, G, e, p, L, a, b, hp, ha⟩ := HT.out; exact hp.bel
      obtain ⟨b, off, rfl, hbl, hrg⟩ := HR.out.at hjn hbw
      have HRg := hide hrg
      have HC : Hid (Calls Try.prog 7 #[.pointer (some ⟨pk, 0, none⟩), .agg #[.int .i64 (fs j).1, .int .i64 (fs j).2.1, .bool (fs j).2.2], .bool true, .int .i64 md] wr fun e1 w' => e1 = .returned (.bool true) ∧ ∃ N', TurnI w.heap.size w pk (n1 + 1) (m1 + 1) N' (j + 1) true md 4294967290 w') := turn_any (fs j).1 (fs j).2.1 (fs j).2.2 wr HT.out (by have := HN.out; omega) HMd.out
      clear hbw hrg
      go_wp2_with (first | (refine wpList_load_mid rfl 35 (.tmp 63) rfl b (off + j * 3) rfl (fs j).L _ HRg.out Try.underlying35 rfl (by kernel_rfl) ?_) | (go_at_call 7; refine HC.out.mono ?_; rintro e9 w5 ⟨rfl, N5, hT5⟩))
      go_roundw
      case rel => exact ⟨j + 1, N5, by go_num, by omega, hT5⟩
      case measure => simp [intOf]; omega
    · obtain rfl : j = n := by omega
      obtain ⟨s, r, Ts, Tr, vO, vB, vG, O, B, G, e, p, L, ax, bx, hp, ha⟩ := HT.out
      obtain ⟨c0, c1, c2, c3, c4, c5, cf, cl⟩ := hp.facts
      obtain ⟨ao, co, hso⟩ := hp.wo.shape
      rw [hso] at c2
      have HC1 := hide (comesR (k := pk) (O.length : Int) wr O.length ⟨r, Tr, vO, vG, O, G, p, rfl, hp, ha⟩ (by have := HN.out; omega) (by have := ha.lo; have := HN.out; omega))
      clear hp ha hso HT HR hjn hj
      go_wp2_with (first | (go_at_call 8; refine HC1.out.mono ?_; rintro e9 w5 ⟨rfl, m5, hi5, hm5⟩; refine Shut.out ?_))
      unfold Shut
      obtain ⟨r5, Tr5, vO5, vG5, O5, G5, p5, hl5, hp5, ha5⟩ := hi5
      have hO5 : O5 = [] := List.length_eq_zero_iff.1 (by omega)
      subst hO5
      clear c0 c1 c2 c3 c4 c5 cf cl HC1 hm5 hl5
      obtain ⟨c0, c1, c2, c3, c4, c5, cf, cl⟩ := hp5.facts
      obtain ⟨ab, cb, hsb⟩ := hp5.wb.shape
      rw [hsb] at c3
      have HC2 := hide (comesS (k := pk) (B.length : Int) w5 B.length ⟨s, Ts, vB, B, ax, rfl, hp5, ha5⟩ (by have := HN.out; omega) (by have := ha5.lb; have := HN.out; omega))
      clear hp5 ha5 hsb
      go_wp2_with (first | (go_at_call 8; refine HC2.out.mono ?_; rintro e9 w6 ⟨rfl, m6, hi6, hm6⟩; refine Shut.out ?_))
      unfold Shut
      obtain ⟨s6, Ts6, vB6, B6, a6, hl6, hp6, ha6⟩ := hi6
      have hB6 : B6 = [] := List.length_eq_zero_iff.1 (by omega)
      subst hB6
      have hL := last_of hp6 ha6 (by have := HN.out; omega)
      clear c0 c1 c2 c3 c4 c5 cf cl HC2 hm6 hl6 hp6 ha6
      have hlen : Tr5.length = Ts6.length := by have := hL.ks.length_eq; rw [keys_len, keys_len] at this; exact this.symm
      have HL := hide hL
      obtain ⟨nt, hnt⟩ : ∃ nt, nt = Ts6.length := ⟨_, rfl⟩
      obtain ⟨ct, hct⟩ : ∃ ct, ct = s6.ct := ⟨_, rfl⟩
      obtain ⟨cr, hcr⟩ : ∃ cr, cr = s6.cr := ⟨_, rfl⟩
      have HS1 := hide (see_any (n1 + 1) s6 Ts6 w6 hL.facts.1)
      unfold Lk.see at HS1
      rw [← hct, ← hcr] at HS1
      have HE : Hid (∀ W, Lst true w.heap.size w W pk (n1 + 1) (m1 + 1) s6 r5 Ts6 Tr5 vG5 G5 → Calls Try.prog 9 #[.pointer (some ⟨m1 + 1, 0, none⟩)] W fun e1 w' => e1 = .returned (.agg #[.string r5.nm, .bool r5.rc, .int .i64 ct, .int .i64 cr, .int .i64 r5.av, .bool r5.dr, .int .i64 (nt : Int)]) ∧ Below W.heap.size W w') := fun W hW => by
        have := see_any (m1 + 1) r5 Tr5 W hW.facts.2.1
        unfold Lk.see at this
        rw [← hW.ct, ← hW.cr, ← hct, ← hcr, hlen, ← hnt] at this
        exact this
      have HNt := hide hnt
      clear hL hlen hnt hct hcr
      go_wp2_with (first | (go_at_call 9; refine HS1.out.mono ?_; rintro e9 w7 ⟨rfl, hb7⟩; refine Shut.out ?_))
      unfold Shut
      obtain ⟨W7, hW7⟩ : ∃ W7, w7.alloc (.cells #[.string s6.nm, .bool s6.rc, .int .i64 ct, .int .i64 cr, .int .i64 s6.av, .bool s6.dr, .int .i64 (Ts6.length : Int)] 38) = W7 := ⟨_, rfl⟩
      have hx7 : W7.heap[w7.heap.size]? = some (.cells #[.string s6.nm, .bool s6.rc, .int .i64 ct, .int .i64 cr, .int .i64 s6.av, .bool s6.dr, .int .i64 (Ts6.length : Int)] 38 (0, 0)) := hW7 ▸ heap_alloc_last w7 _
      have hbW7 : Below w6.heap.size w6 W7 := hW7 ▸ bel1 hb7 hb7.size _
      have HL7 := hide (HL.out.go hbW7)
      have HW7 := hide hW7
      have HS2 := hide (HE.out W7 HL7.out)
      have HX7 := hide hx7
      clear hW7 hbW7 hb7 HS1 HL HE hx7
      go_wp2_with (first | rw [HW7.out] | (go_at_call 9; refine HS2.out.mono ?_; rintro e9 w8 ⟨rfl, hb8⟩; refine Shut.out ?_))
      unfold Shut
      obtain ⟨W8, hW8⟩ : ∃ W8, w8.alloc (.cells #[.string r5.nm, .bool r5.rc, .int .i64 ct, .int .i64 cr, .int .i64 r5.av, .bool r5.dr, .int .i64 (nt : Int)] 38) = W8 := ⟨_, rfl⟩
      have hbW8 : Below W7.heap.size W7 W8 := hW8 ▸ bel1 hb8 hb8.size _
      have hx8 : W8.heap[w8.heap.size]? = some (.cells #[.string r5.nm, .bool r5.rc, .int .i64 ct, .int .i64 cr, .int .i64 r5.av, .bool r5.dr, .int .i64 (nt : Int)] 38 (0, 0)) := hW8 ▸ heap_alloc_last w8 _
      have hx7 := (hbW8.block _ (Array.getElem?_eq_some_iff.1 HX7.out).1).trans HX7.out
      have x2 := cellOf hx7 2 (.int .i64 ct) rfl
      have x3 := cellOf hx7 3 (.int .i64 cr) rfl
      have y2 := cellOf hx8 2 (.int .i64 ct) rfl
      have y3 := cellOf hx8 3 (.int .i64 cr) rfl
      have xl := (Array.getElem?_eq_some_iff.1 hx7).1
      have yl := (Array.getElem?_eq_some_iff.1 hx8).1
      have HL8 := hide (HL7.out.go hbW8)
      have HW8 := hide hW8
      have HX8 := hide hx8
      have HU1 := hide (unsettled_any (n1 + 1) s6 Ts6 W8 HL8.out.facts.1 HL8.out.sm)
      clear hW8 hbW8 hb8 HS2 HL7 HW7 HX7 hx7 hx8
      go_wp2_with (first | rw [HW8.out] | (go_at_call 10; refine HU1.out.mono ?_; rintro e9 w9 ⟨v9, rfl, hu9⟩; refine Shut.out ?_))
      unfold Shut
      obtain ⟨⟨a9, k9, hv9⟩, hb9⟩ := uns_shape hu9
      rw [← HNt.out] at hv9
      have HU9 := hide hu9
      have HL9 := hide (HL8.out.go hb9)
      have HV9 := hide hv9
      have hl9 := HL9.out.ln
      have hx9 := (hb9.block _ (Array.getElem?_eq_some_iff.1 HX8.out).1).trans HX8.out
      have y6 := cellOf hx9 6 (.int .i64 (nt : Int)) rfl
      have yl9 := (Array.getElem?_eq_some_iff.1 hx9).1
      clear hx9
      have HU2 := hide (unsettled_any (m1 + 1) r5 Tr5 w9 HL9.out.facts.2.1 (by have h9 := HL9.out.sm; have h8 := HL9.out.ks.length_eq; rw [keys_len, keys_len] at h8; omega))
      subst hv9
      clear x2 x3 y2 y3 xl yl HU1 HW8 hu9 hl9
      go_wp2_with fail
      refine HU2.out.mono ?_
      rintro e9 w10 ⟨v10, rfl, hu10⟩
      obtain ⟨⟨a10, k10, hv10⟩, hb10⟩ := uns_shape hu10
      obtain ⟨ts, t1, t2, t3, t4, ht0, ht1, ht2, ht3, ht4⟩ := uns_same HU9.out hu10 HL9.out.ks
      cases ht1
      subst ht2
      have hst := sameTags_yes ts a9 t3 k9 t4 w10 ht3 ht4 (by have h9 := HL9.out.sm; omega)
      rw [ht0] at hst ⊢
      have HT := hide hst
      have HBf : Hid (Below w.heap.size w w10) := HL9.out.facts.2.2.2.2.2.trans (hb10.mono HL9.out.facts.2.2.2.2.2.size)
      clear ht0 ht3 ht4 hb10 hu10 hv10 hb9 HU2 HU9 hst
      go_wp2_with fail
      refine HT.out.mono ?_
      rintro e9 w11 ⟨rfl, hk11⟩
      go_wp2
      go_ret
      exact ⟨by first | rfl | simp, HBf.out.trans (hk11.toBelow HBf.out.size (fun _ _ h => h))⟩
set_option maxRecDepth 100000 in
set_option maxHeartbeats 16000000 in
theorem agree_in_t (count mode : Int) (a : Option Addr) (n cap : Nat) (fs : Nat → Tn) (w : World) (hR : RT w a n fs) (hn : n ≤ 1048576) (hc : ¬ count < 0) (hc2 : ¬ 4294967295 < count) :
    Calls Try.prog 3 #[.int .i64 count, .int .i64 mode, .bool true, .slice a n cap] w fun e1 w' => e1 = .returned (.bool true) ∧ Below w.heap.size w w' := by
  have hlow := md_low mode
  have hmd := md_in mode
  have hcr : 0 ≤ (count : Int) ∧ (count : Int) ≤ 4294967295 := by omega
  obtain ⟨md, hm⟩ : ∃ md, md = mdOf mode := ⟨_, rfl⟩
  rw [← hm] at hmd
  have hm2 : Int.tmod (Int.tmod mode 3 + 3) 3 = md := hm.symm
  have HMd := hide hmd
  have HR := hide hR
  have HN := hide hn
  have HCr := hide hcr
  have hni : (n : Int) ≤ 1048576 := by omega
  clear hmd hm hR hn hcr
  go_enter Try.func3, Try.ntmps3
  go_wp2_with (first | (go_at_call 5; refine (awake_any _).mono ?_; rintro e1 w1 ⟨rfl, hb1⟩; refine Shut.out ?_))
  unfold Shut
  obtain ⟨V, hV⟩ : ∃ V, w1.alloc (.cells (cfA ⟨#[108]⟩ false md 0 count 0) 25) = V := ⟨_, rfl⟩
  have h0 : V.heap[w1.heap.size]? = some (.cells (cfA ⟨#[108]⟩ false md 0 count 0) 25 (0, 0)) := hV ▸ heap_alloc_last w1 _
  have hbV : Below w.heap.size w V := hV ▸ bel1 hb1 hb1.size _
  have hw1 := hb1.size
  have HV : Hid (w1.alloc (.cells #[.string ⟨#[108]⟩, .bool false, .int .i64 md, .int .i64 0, .int .i64 count, .int .i64 0] 25) = V) := hV
  obtain ⟨c0, c1, c2, c3, c4, c5, cl, cf⟩ := cf_facts h0
  obtain ⟨V0, hV0⟩ : ∃ V0, V.setCell ⟨w1.heap.size, 3, none⟩ (.int .i64 1) = V0 := ⟨_, rfl⟩
  have h00 : V0.heap[w1.heap.size]? = some (.cells (cfA ⟨#[108]⟩ false md 1 count 0) 25 (0, 0)) := hV0 ▸ cf_rm h0 1
  have hbV0 : Below w.heap.size w V0 := hV0 ▸ bel_setCell hbV hw1 _ _
  have HV0 := hide hV0
  clear hV0 h0 hbV
  obtain ⟨e0, e1, e2, e3, e4, e5, el, ef⟩ := cf_facts h00
  have H0 := hide h00
  have HB0 := hide hbV0
  have HNw := hide (new_yes ⟨#[108]⟩ false md 1 count 0 V0 (by decide) (md_is HMd.out) (by decide) (isIn_c HCr.out) (by decide))
  clear hV hb1 h00 hbV0
  go_wp2_with (first | rw [HV0.out] | rw [HV.out] | (go_at_call 6; refine HNw.out.mono ?_; rintro e9 w2 ⟨n1, rfl, hn1, hL1, hb2⟩; refine Shut.out ?_))
  unfold Shut
  have h1 := (hb2.block _ el).trans H0.out
  have hbw := HB0.out.trans (hb2.mono HB0.out.size)
  have hl1 := Nat.lt_of_lt_of_le el hn1
  clear c0 c1 c2 c3 c4 c5 cl cf e0 e1 e2 e3 e4 e5 el ef H0 HV HV0 HB0 HNw hb2 hn1
  obtain ⟨W1, hW1⟩ : ∃ W1, w2.setCell ⟨w1.heap.size, 1, none⟩ (.bool true) = W1 := ⟨_, rfl⟩
  have kW : Kp (fun q => q = w1.heap.size) w2 W1 := hW1 ▸ kp_self (Kp.refl _ _) _ _
  have h2 : W1.heap[w1.heap.size]? = some (.cells (cfA ⟨#[108]⟩ true md 1 count 0) 25 (0, 0)) := hW1 ▸ cf_rc h1 true
  have hL2 : Lnk W1 (n1 + 1) (newLk ⟨#[108]⟩ false md 1 count n1) [] := hL1.kp kW (fun q hq e => by unfold inL newLk at hq; dsimp only at hq; omega)
  have hb2 : Below w.heap.size w W1 := bel_kp hbw kW (fun q e => by omega)
  obtain ⟨c0, c1, c2, c3, c4, c5, cl, cf⟩ := cf_facts h1
  obtain ⟨e0, e1, e2, e3, e4, e5, el, ef⟩ := cf_facts h2
  have HW1 := hide hW1
  have HL2 := hide hL2
  have HB2 := hide hb2
  have HNl := hide hl1
  have HNw := hide (new_yes ⟨#[108]⟩ true md 1 count 0 W1 (by decide) (md_is HMd.out) (by decide) (isIn_c HCr.out) (by decide))
  clear hW1 h1 h2 hL2 hb2 hbw kW hL1 hl1
  go_wp2_with (first | rw [HW1.out] | (go_at_call 6; refine HNw.out.mono ?_; rintro e9 w3 ⟨m1, rfl, hm1, hM, hb3⟩; refine Shut.out ?_))
  unfold Shut
  have hP := Pr.made (w := w) HL2.out (fun q hq => by have := HNl.out; unfold inL newLk at hq; dsimp only at hq; omega) HB2.out hm1 hM rfl hb3
  have hS := Pm.start hP
  obtain ⟨W3, hW3⟩ : ∃ W3, w3.alloc (.cells (pmA (n1 + 1) (m1 + 1) 0 nilV nilV nilV) 32) = W3 := ⟨_, rfl⟩
  rw [hW3] at hS
  have HW3 : Hid (w3.alloc (.cells #[.pointer (some ⟨n1 + 1, 0, none⟩), .pointer (some ⟨m1 + 1, 0, none⟩), .slice none 0 0, .slice none 0 0, .int .i64 0, .slice none 0 0] 32) = W3) := hW3
  have HT0 : Hid (TurnI w.heap.size w w3.heap.size (n1 + 1) (m1 + 1) 0 0 true md count W3) := ⟨_, _, _, _, _, _, _, _, _, _, _, _, _, _, _, hS, Al.start HCr.out⟩
  clear c0 c1 c2 c3 c4 c5 cl cf e0 e1 e2 e3 e4 e5 el ef HW1 HL2 HB2 HNw hb3 hM hm1 hP hS hW3 HNl hw1
  obtain ⟨pk, hpk⟩ : ∃ pk, pk = w3.heap.size := ⟨_, rfl⟩
  go_wp2_with (rw [HW3.out]; refine Shut.out ?_)
  unfold Shut
  rw [← hpk] at HT0 ⊢
  clear HW3 hpk
  go_wp2_with fail
  go_loopw [14] (fun i wr => ∃ j N : Nat, i = .int .i64 (j : Int) ∧ j ≤ n ∧ Hid (TurnI w.heap.size w pk (n1 + 1) (m1 + 1) N j true md count wr)) (fun i _ => n - (intOf i).toNat)
  case atStart => exact ⟨0, 0, rfl, Nat.zero_le _, HT0.out⟩
  case round =>
    clear HT0
    obtain ⟨j, N, rfl, hj, HT⟩ := hrel
    by_cases hjn : j < n
    · have hjb : (j : Int) ≤ 1048576 := by omega
      have hbw : Below w.heap.size w wr := by obtain ⟨s, r, Ts, Tr, vO, vB, vG, O, B, G, e, p, L, a, b, hp, ha⟩ := HT.out; exact hp.bel
      obtain ⟨b, off, rfl, hbl, hrg⟩ := HR.out.at hjn hbw
      have HRg := hide hrg
      have HC : Hid (Calls Try.prog 7 #[.pointer (some ⟨pk, 0, none⟩), .agg #[.int .i64 (fs j).1, .int .i64 (fs j).2.1, .bool (fs j).2.2], .bool true, .int .i64 md] wr fun e1 w' => e1 = .returned (.bool true) ∧ ∃ N', TurnI w.heap.size w pk (n1 + 1) (m1 + 1) N' (j + 1) true md count w') := turn_any (fs j).1 (fs j).2.1 (fs j).2.2 wr HT.out (by have := HN.out; omega) HMd.out
      clear hbw hrg
      go_wp2_with (first | (refine wpList_load_mid rfl 35 (.tmp 63) rfl b (off + j * 3) rfl (fs j).L _ HRg.out Try.underlying35 rfl (by kernel_rfl) ?_) | (go_at_call 7; refine HC.out.mono ?_; rintro e9 w5 ⟨rfl, N5, hT5⟩))
      go_roundw
      case rel => exact ⟨j + 1, N5, by go_num, by omega, hT5⟩
      case measure => simp [intOf]; omega
    · obtain rfl : j = n := by omega
      obtain ⟨s, r, Ts, Tr, vO, vB, vG, O, B, G, e, p, L, ax, bx, hp, ha⟩ := HT.out
      obtain ⟨c0, c1, c2, c3, c4, c5, cf, cl⟩ := hp.facts
      obtain ⟨ao, co, hso⟩ := hp.wo.shape
      rw [hso] at c2
      have HC1 := hide (comesR (k := pk) (O.length : Int) wr O.length ⟨r, Tr, vO, vG, O, G, p, rfl, hp, ha⟩ (by have := HN.out; omega) (by have := ha.lo; have := HN.out; omega))
      clear hp ha hso HT HR hjn hj
      go_wp2_with (first | (go_at_call 8; refine HC1.out.mono ?_; rintro e9 w5 ⟨rfl, m5, hi5, hm5⟩; refine Shut.out ?_))
      unfold Shut
      obtain ⟨r5, Tr5, vO5, vG5, O5, G5, p5, hl5, hp5, ha5⟩ := hi5
      have hO5 : O5 = [] := List.length_eq_zero_iff.1 (by omega)
      subst hO5
      clear c0 c1 c2 c3 c4 c5 cf cl HC1 hm5 hl5
      obtain ⟨c0, c1, c2, c3, c4, c5, cf, cl⟩ := hp5.facts
      obtain ⟨ab, cb, hsb⟩ := hp5.wb.shape
      rw [hsb] at c3
      have HC2 := hide (comesS (k := pk) (B.length : Int) w5 B.length ⟨s, Ts, vB, B, ax, rfl, hp5, ha5⟩ (by have := HN.out; omega) (by have := ha5.lb; have := HN.out; omega))
      clear hp5 ha5 hsb
      go_wp2_with (first | (go_at_call 8; refine HC2.out.mono ?_; rintro e9 w6 ⟨rfl, m6, hi6, hm6⟩; refine Shut.out ?_))
      unfold Shut
      obtain ⟨s6, Ts6, vB6, B6, a6, hl6, hp6, ha6⟩ := hi6
      have hB6 : B6 = [] := List.length_eq_zero_iff.1 (by omega)
      subst hB6
      have hL := last_of hp6 ha6 (by have := HN.out; omega)
      clear c0 c1 c2 c3 c4 c5 cf cl HC2 hm6 hl6 hp6 ha6
      have hlen : Tr5.length = Ts6.length := by have := hL.ks.length_eq; rw [keys_len, keys_len] at this; exact this.symm
      have HL := hide hL
      obtain ⟨nt, hnt⟩ : ∃ nt, nt = Ts6.length := ⟨_, rfl⟩
      obtain ⟨ct, hct⟩ : ∃ ct, ct = s6.ct := ⟨_, rfl⟩
      obtain ⟨cr, hcr⟩ : ∃ cr, cr = s6.cr := ⟨_, rfl⟩
      have HS1 := hide (see_any (n1 + 1) s6 Ts6 w6 hL.facts.1)
      unfold Lk.see at HS1
      rw [← hct, ← hcr] at HS1
      have HE : Hid (∀ W, Lst true w.heap.size w W pk (n1 + 1) (m1 + 1) s6 r5 Ts6 Tr5 vG5 G5 → Calls Try.prog 9 #[.pointer (some ⟨m1 + 1, 0, none⟩)] W fun e1 w' => e1 = .returned (.agg #[.string r5.nm, .bool r5.rc, .int .i64 ct, .int .i64 cr, .int .i64 r5.av, .bool r5.dr, .int .i64 (nt : Int)]) ∧ Below W.heap.size W w') := fun W hW => by
        have := see_any (m1 + 1) r5 Tr5 W hW.facts.2.1
        unfold Lk.see at this
        rw [← hW.ct, ← hW.cr, ← hct, ← hcr, hlen, ← hnt] at this
        exact this
      have HNt := hide hnt
      clear hL hlen hnt hct hcr
      go_wp2_with (first | (go_at_call 9; refine HS1.out.mono ?_; rintro e9 w7 ⟨rfl, hb7⟩; refine Shut.out ?_))
      unfold Shut
      obtain ⟨W7, hW7⟩ : ∃ W7, w7.alloc (.cells #[.string s6.nm, .bool s6.rc, .int .i64 ct, .int .i64 cr, .int .i64 s6.av, .bool s6.dr, .int .i64 (Ts6.length : Int)] 38) = W7 := ⟨_, rfl⟩
      have hx7 : W7.heap[w7.heap.size]? = some (.cells #[.string s6.nm, .bool s6.rc, .int .i64 ct, .int .i64 cr, .int .i64 s6.av, .bool s6.dr, .int .i64 (Ts6.length : Int)] 38 (0, 0)) := hW7 ▸ heap_alloc_last w7 _
      have hbW7 : Below w6.heap.size w6 W7 := hW7 ▸ bel1 hb7 hb7.size _
      have HL7 := hide (HL.out.go hbW7)
      have HW7 := hide hW7
      have HS2 := hide (HE.out W7 HL7.out)
      have HX7 := hide hx7
      clear hW7 hbW7 hb7 HS1 HL HE hx7
      go_wp2_with (first | rw [HW7.out] | (go_at_call 9; refine HS2.out.mono ?_; rintro e9 w8 ⟨rfl, hb8⟩; refine Shut.out ?_))
      unfold Shut
      obtain ⟨W8, hW8⟩ : ∃ W8, w8.alloc (.cells #[.string r5.nm, .bool r5.rc, .int .i64 ct, .int .i64 cr, .int .i64 r5.av, .bool r5.dr, .int .i64 (nt : Int)] 38) = W8 := ⟨_, rfl⟩
      have hbW8 : Below W7.heap.size W7 W8 := hW8 ▸ bel1 hb8 hb8.size _
      have hx8 : W8.heap[w8.heap.size]? = some (.cells #[.string r5.nm, .bool r5.rc, .int .i64 ct, .int .i64 cr, .int .i64 r5.av, .bool r5.dr, .int .i64 (nt : Int)] 38 (0, 0)) := hW8 ▸ heap_alloc_last w8 _
      have hx7 := (hbW8.block _ (Array.getElem?_eq_some_iff.1 HX7.out).1).trans HX7.out
      have x2 := cellOf hx7 2 (.int .i64 ct) rfl
      have x3 := cellOf hx7 3 (.int .i64 cr) rfl
      have y2 := cellOf hx8 2 (.int .i64 ct) rfl
      have y3 := cellOf hx8 3 (.int .i64 cr) rfl
      have xl := (Array.getElem?_eq_some_iff.1 hx7).1
      have yl := (Array.getElem?_eq_some_iff.1 hx8).1
      have HL8 := hide (HL7.out.go hbW8)
      have HW8 := hide hW8
      have HX8 := hide hx8
      have HU1 := hide (unsettled_any (n1 + 1) s6 Ts6 W8 HL8.out.facts.1 HL8.out.sm)
      clear hW8 hbW8 hb8 HS2 HL7 HW7 HX7 hx7 hx8
      go_wp2_with (first | rw [HW8.out] | (go_at_call 10; refine HU1.out.mono ?_; rintro e9 w9 ⟨v9, rfl, hu9⟩; refine Shut.out ?_))
      unfold Shut
      obtain ⟨⟨a9, k9, hv9⟩, hb9⟩ := uns_shape hu9
      rw [← HNt.out] at hv9
      have HU9 := hide hu9
      have HL9 := hide (HL8.out.go hb9)
      have HV9 := hide hv9
      have hl9 := HL9.out.ln
      have hx9 := (hb9.block _ (Array.getElem?_eq_some_iff.1 HX8.out).1).trans HX8.out
      have y6 := cellOf hx9 6 (.int .i64 (nt : Int)) rfl
      have yl9 := (Array.getElem?_eq_some_iff.1 hx9).1
      clear hx9
      have HU2 := hide (unsettled_any (m1 + 1) r5 Tr5 w9 HL9.out.facts.2.1 (by have h9 := HL9.out.sm; have h8 := HL9.out.ks.length_eq; rw [keys_len, keys_len] at h8; omega))
      subst hv9
      clear x2 x3 y2 y3 xl yl HU1 HW8 hu9 hl9
      go_wp2_with fail
      refine HU2.out.mono ?_
      rintro e9 w10 ⟨v10, rfl, hu10⟩
      obtain ⟨⟨a10, k10, hv10⟩, hb10⟩ := uns_shape hu10
      obtain ⟨ts, t1, t2, t3, t4, ht0, ht1, ht2, ht3, ht4⟩ := uns_same HU9.out hu10 HL9.out.ks
      cases ht1
      subst ht2
      have hst := sameTags_yes ts a9 t3 k9 t4 w10 ht3 ht4 (by have h9 := HL9.out.sm; omega)
      rw [ht0] at hst ⊢
      have HT := hide hst
      have HBf : Hid (Below w.heap.size w w10) := HL9.out.facts.2.2.2.2.2.trans (hb10.mono HL9.out.facts.2.2.2.2.2.size)
      clear ht0 ht3 ht4 hb10 hu10 hv10 hb9 HU2 HU9 hst
      go_wp2_with fail
      refine HT.out.mono ?_
      rintro e9 w11 ⟨rfl, hk11⟩
      go_wp2
      go_ret
      exact ⟨by first | rfl | simp, HBf.out.trans (hk11.toBelow HBf.out.size (fun _ _ h => h))⟩
end Go.Proofs.Ytjipcdknkghoaaa
