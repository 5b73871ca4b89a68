import Derived.Test.YtdcoafpenkofoaaGreatDoorJTvM9
import Derived.Deep.DeepCutAuto
import Derived.Test.YtdcoafpenkofoaaGreatDoorJToM9
import Derived.Test.YtdcoafpenkofoaaGreatDoorJAdcM9

/- Stage 20: JournalTurned: the walk. -/
namespace Go.Proofs.YtdcoafpenkofoaaGreatDoor
open Go.RowKit Go.MuLone
set_option linter.unusedVariables false
set_option linter.unusedSimpArgs false
theorem tr_open : jTk (dx0 16777216) [] 0 0 = (0, dx0 16777216, []) := by first | rfl | decide | kernel_rfl
/-- Open of a new disk of the greatest room -/
theorem open_new (S : Nat → Prop) (w wi : World) (d : Nat) (g : Addr) (hE : Eb w g) (hT : Er w) (h : AW S w wi d (dx0 16777216) []) :
    Calls Tryz.prog 19 #[.pointer (some ⟨d, 0, none⟩)] wi fun e w' => ∃ j a c S', e = .returned (.tuple #[.pointer (some ⟨j, 0, none⟩), .slice a 0 c, .int .i64 0]) ∧ JC S' w w' d j [] := by
  refine (open_good S w wi d (dx0 16777216) [] g hE hT h rfl (by simp) (by simp [dat]) (by simp [dat]) rfl (by show (jTk (dx0 16777216) [] 0 0).1 = 0; rw [tr_open])).mono ?_
  rintro e w' ⟨j, v, Z, rfl, _, hw, _, hz, S', _, hj, _⟩
  have e : jTk (dx0 16777216) [] (dat kG []).1.length (dat kG []).2 = (0, dx0 16777216, []) := tr_open
  rw [e] at hj
  have hz0 : Z = [] := by
    have : batches Z = [] := hz
    unfold batches at this
    simpa using this
  subst hz0
  obtain ⟨a, c, rfl⟩ := hw.shape
  exact ⟨j, a, c, S', rfl, dx0 16777216, [], hj, rfl, rfl, rfl, .inl ⟨rfl, rfl⟩⟩
theorem size_c {S : Nat → Prop} {w wi : World} {d j : Nat} {l : List Nat} (h : JC S w wi d j l) : Calls Tryz.prog 35 #[.pointer (some ⟨j, 0, none⟩)] wi fun e w' => e = .returned (.int .i64 (l.length : Int)) ∧ w' = wi := by
  obtain ⟨x, F, h, _⟩ := h
  exact size_any h
theorem read_c {S : Nat → Prop} {w wi : World} {d j : Nat} {l : List Nat} (h : JC S w wi d j l) : Calls Tryz.prog 36 #[.pointer (some ⟨d, 0, none⟩), .string kG] wi fun e w' => ∃ a c n, e = .returned (.tuple #[.slice a l.length c, .int .i64 n]) ∧ Ob wi.heap.size w' (.slice a l.length c) l ∧ l.length ≤ c ∧ JC S w w' d j l ∧ Kp S wi w' := by
  obtain ⟨x, F, h, h2, h3, h4, h5⟩ := h
  refine (aw_read h.aw kG).mono ?_
  rintro e w' ⟨v, rfl, hv, hA, hk⟩
  have e : (if findE x.down (F.map (·.1)) kG [] = 0 then (dat kG F).1 else []) = l := by
    rw [h5.dat]
    rcases h5 with ⟨rfl, rfl⟩ | rfl
    · simp
    · rw [if_pos]
      unfold findE hasN
      rw [h2]
      simp [kG_nm]
  rw [e] at hv
  obtain ⟨a, c, rfl, hc⟩ := hv.slice
  exact ⟨a, c, _, rfl, hv, hc, ⟨x, F, h.read hA hk, h2, h3, h4, h5⟩, hk⟩
set_option maxHeartbeats 16000000 in
set_option maxRecDepth 100000 in
theorem turned_walk (a : Option Addr) (cap : Nat) (L : List (List (List Nat))) (p y sf : Int) (w : World) (g : Addr) (hE : Eb w g) (hT : Er w) (hR : RdL w a L) (hL : L.length ≤ 5864062014634) (hm : ∀ m ∈ L, m.length ≤ 5864062014634 ∧ ∀ r ∈ m, r.length ≤ 140737488351232)
    (hp : -9223372036854775808 ≤ p ∧ p < 9223372036854775808) (hs : -9223372036854775808 ≤ sf ∧ sf < 9223372036854775808) :
    Calls Tryz.prog 8 #[.slice a L.length cap, .int .i64 p, .int .i64 y, .int .i64 sf] w fun e w' => e = .returned (.bool true) ∧ Below w.heap.size w w' := by
  have HWG := hide (weighAll_any 0 a cap L w hR (by omega) (by omega) (fun m h => ⟨by have := (hm m h).1; omega, fun r hr => by have := (hm m h).2 r hr; omega⟩))
  have HLV := hide (live_yes w g hE hT)
  have HE := hide hE
  have HT := hide hT
  have HR := hide hR
  have HP := hide hp
  have HS := hide hs
  clear hE hT hR hm hp hs
  go_enter Tryz.func8, Tryz.ntmps8
  go_wp2_with fail
  refine HWG.out.mono ?_
  rintro e w' ⟨⟨s, rfl, hs1, hs2⟩, hw'⟩
  obtain rfl := hw'.symm
  by_cases hbig : s ≤ 2147483647
  · have hsum := hs2 hbig
    rw [Nat.zero_add] at hsum
    have hsi : ¬ (s : Int) > 2147483647 := by omega
    have HWA : Hid (wgA L ≤ 2147483647) := by show _ ≤ _; omega
    clear hs1 hs2 hsum HWG
    go_wp2_with fail
    refine HLV.out.mono ?_
    rintro e w1 ⟨rfl, hb1⟩
    have HN := hide (aw_new w w1 hb1 16777216 (by decide) (by decide))
    clear hb1 HLV
    go_wp2_with fail
    refine HN.out.mono ?_
    rintro e w2 ⟨d, S2, rfl, hA2, _, _⟩
    have HO := hide (open_new S2 w w2 d g HE.out HT.out hA2)
    clear hA2 HN
    go_wp2_with fail
    refine HO.out.mono ?_
    rintro e w3 ⟨j, oa, oc, S3, rfl, hJ3⟩
    have HJ3 := hide hJ3
    clear hJ3 HO
    go_wp2_with fail
    go_loopw [15, 16, 17] (fun wv ev iv wr => ∃ k : Nat, k ≤ L.length ∧ iv = .int .i64 (k : Int) ∧ Hid (LI w d j k wv ev wr)) (fun _ _ iv _ => L.length - (intOf iv).toNat)
    case atStart => exact ⟨0, Nat.zero_le _, rfl, S3, [], HJ3.out, by simp, Nat.le_refl _, fun z hz => absurd hz (by simp), .inl ⟨rfl, rfl⟩, (fun g e => by cases e), .inl ⟨rfl, rfl⟩, (fun g e => by cases e)⟩
    case round =>
      obtain ⟨k, hk, rfl, HI⟩ := hrel
      by_cases hkl : k < L.length
      · obtain ⟨S, Z, hX⟩ := HI.out
        have hX : LX S Z w d j k u15 u16 wr := hX
        obtain ⟨va, vc, rfl⟩ := hX.2.2.2.2.1.shape
        obtain ⟨ea, ec, rfl⟩ := hX.2.2.2.2.2.2.1.shape
        have HX := hide hX
        obtain ⟨hJ, hG, hZk, hQ, hWv, hWn, hEv, hEn⟩ := hX
        obtain ⟨b, off, rfl, hbl, hc⟩ := HR.out (by omega)
        obtain ⟨x, cx, hcell, hrb⟩ := hc k hkl
        have hwk : wgN L[k] ≤ wgA L := wgA_mem (List.getElem_mem hkl)
        obtain ⟨K, hK⟩ : ∃ K, L[k] = K := ⟨_, rfl⟩
        rw [hK] at hcell hrb hwk
        have hbk := batN_wg K
        have hlk := (bodN_wg K).2
        have HAD := hide (Add_calm S w wr d j _ HT.out hJ x cx K hrb (by have := HWA.out; omega) (by have := HWA.out; omega))
        have HCE := hide hcell
        have HBL := hide hbl
        have q0 := (hJ.bel.cell (p := ⟨b, off + k, none⟩) hbl).trans hcell
        have hki : (k : Int) < (L.length : Int) := by omega
        have HKB := hide hrb
        have HZL : Hid (Z.length ≤ 2147483647) := by show _ ≤ _; have := wgA_len L; have := HWA.out; omega
        clear hc hK hwk hbk hlk hJ hG hQ hWv hWn hEv hEn hcell hrb hZk
        go_wp2_with fail
        refine HAD.out.mono ?_
        rintro e w4 ⟨n, rfl, S4, hS4, hK4, hor⟩
        have HK4 := hide (And.intro hS4 hK4)
        clear hS4 hK4 HAD q0
        rcases hor with ⟨rfl, hbd, hN, hlen, hJ4⟩ | ⟨hn, hJ4⟩
        · have q4 := (hJ4.bel.cell (p := ⟨b, off + k, none⟩) HBL.out).trans HCE.out
          have HJ4 := hide hJ4
          by_cases h0 : K = []
          · subst h0
            have HSK : Hid (LI w d j (k + 1) (.slice va Z.length vc) (.slice ea (endsN (Z.map (·.1))).length ec) w4) := li_skip HX.out HK4.out (by have := HJ4.out; rwa [show batB ([] : List (List Nat)) = [] from rfl, List.append_nil] at this)
            clear hbd hN hlen hJ4
            dsimp only [List.length_nil] at q4
            go_wp2
            exact ⟨⟨k + 1, by omega, by go_num, HSK.out⟩, by simp [intOf]; omega⟩
          · have HGD := hide (GdB.of HKB.out hbd hN h0)
            have hpos : 0 < (K.length : Int) := by have := List.length_pos_iff.2 h0; omega
            have hW4 : Wy CK w4 w.heap.size (.slice va Z.length vc) Z := HX.out.2.2.2.2.1.kp HK4.out.2 HX.out.2.2.2.2.2.1
            have hwi := with_any w.heap.size va vc Z (K, .slice x K.length cx) x cx rfl w4 hW4 (HX.out.2.2.2.1.below hJ4.bel) (by have := HZL.out; omega)
            dsimp only at hwi
            rw [if_neg h0] at hwi
            have HWI := hide hwi
            clear hbd hN hlen hJ4 h0 hW4 hwi
            go_wp2_with fail
            refine HWI.out.mono ?_
            rintro e w5 ⟨v5, rfl, hw5, hb5⟩
            have HJ5 := hide (HJ4.out.below hb5)
            have HSZ := hide (size_c HJ5.out)
            have HW5 := hide hw5
            have HB5 := hide hb5
            have HEV : Hid (Wy IK (w5.alloc (.cells #[.int .i64 ((logB (Z.map (·.1)) ++ batB K).length : Int)] 3)) w.heap.size (.slice ea (endsN (Z.map (·.1))).length ec) (endsN (Z.map (·.1)))) := by
              have h7 := HX.out.2.2.2.2.2.2.1
              refine ((h7.kp HK4.out.2 HX.out.2.2.2.2.2.2.2).at fun q e => hb5.block q ?_).at fun q e => Below.heap_alloc _ _ _ ?_
              · exact Nat.lt_of_lt_of_le (h7.lt e).2 HK4.out.2.size
              · exact Nat.lt_of_lt_of_le (Nat.lt_of_lt_of_le (h7.lt e).2 HK4.out.2.size) hb5.size
            have HEL : Hid ((endsN (Z.map (·.1))).length ≤ 2147483647) := by show _ ≤ _; rw [endsN_len, List.length_map]; exact HZL.out
            have HZB : Hid (w.heap.size ≤ w5.heap.size) := HJ5.out.bel.size
            obtain ⟨num, hnum⟩ : ∃ num, (logB (Z.map (·.1)) ++ batB K).length = num := ⟨_, rfl⟩
            have HNU := hide hnum
            rw [hnum] at HSZ HEV
            clear hw5 hb5 HWI hnum
            go_wp2_with (first | (go_at_call 35; refine HSZ.out.mono ?_; rintro e w6 ⟨rfl, hw6⟩; obtain rfl := hw6) | (at_builtin; go_loud (refine wpList_append_way ikOk _ rfl (.tmp 86) (.tmp 88) rfl w.heap.size (.slice ea (endsN (Z.map (·.1))).length ec) (endsN (Z.map (·.1))) (num : Int) rfl HEV.out w6.heap.size 1 rfl (heap_new _ _) (by simp; exact Nat.le_trans HZB.out (Nat.le_succ _)) (by show (_ + 1) * 8 ≤ _; have := HEL.out; omega) ?_); intro v7 w7 hw7 hg7 hs7; have HW7 := hide hw7; have HG7 := hide hg7; have HS7 := hide hs7; clear hw7 hg7 hs7))
            refine ⟨⟨k + 1, by omega, by go_num, ?_⟩, by simp [intOf]; omega⟩
            exact li_next HX.out HK4.out HJ4.out HGD.out HKB.out HB5.out HW5.out (by rw [HNU.out]; exact HW7.out) HG7.out HS7.out
        · have q4 := (hJ4.bel.cell (p := ⟨b, off + k, none⟩) HBL.out).trans HCE.out
          have HSK : Hid (LI w d j (k + 1) (.slice va Z.length vc) (.slice ea (endsN (Z.map (·.1))).length ec) w4) := li_skip HX.out HK4.out hJ4
          clear hJ4
          have hn2 : n = 200 ∨ n = 190 := hn.imp (·.1) (·.1)
          clear hn
          rcases hn2 with rfl | rfl
          all_goals
            go_wp2
            exact ⟨⟨k + 1, by omega, by go_num, HSK.out⟩, by simp [intOf]; omega⟩
      · have hkl' : k = L.length := by omega
        subst hkl'
        obtain ⟨S, Z, hX⟩ := HI.out
        have hX : LX S Z w d j L.length u15 u16 wr := hX
        obtain ⟨va, vc, rfl⟩ := hX.2.2.2.2.1.shape
        obtain ⟨ea, ec, rfl⟩ := hX.2.2.2.2.2.2.1.shape
        obtain ⟨hJ, hG, hZk, hQ, hWv, hWn, hEv, hEn⟩ := hX
        have HRD := hide (read_c hJ)
        rw [endsN_len, List.length_map] at hEv hEn ⊢
        have HQ := hide hQ
        have HWV := hide hWv
        have HWN := hide hWn
        have HEV := hide hEv
        have HEN := hide hEn
        have HG := hide hG
        have HJW := hide hJ.bel
        have hlen := hJ.len
        have HZ : Hid ((Z.map (·.1)).length = Z.length) := List.length_map _
        obtain ⟨M, hM⟩ : ∃ M, Z.map (·.1) = M := ⟨_, rfl⟩
        have HMM := hide hM
        rw [hM] at HRD HEV HG HZ hlen
        obtain ⟨lg, hlg⟩ : ∃ lg, logB M = lg := ⟨_, rfl⟩
        have HLG := hide hlg
        rw [hlg] at HRD hlen
        clear hJ hG hQ hWv hWn hEv hEn hM hlg
        go_wp2_with fail
        refine HRD.out.mono ?_
        rintro e w4 ⟨da, dc, en, rfl, hob, hdc, hJ4, hK4⟩
        have HOB := hide hob
        have HDC := hide hdc
        have HK4 := hide hK4
        have HB4 := hide hJ4.bel
        clear hob hdc hJ4 hK4 HRD
        by_cases hl0 : lg.length = 0
        · have hl1 : ((lg.length : Int) == 0) = true := by rw [hl0]; rfl
          go_wp2
          go_ret
          exact ⟨rfl, HB4.out⟩
        · have hl1 : ((lg.length : Int) == 0) = false := beq_eq_false_iff_ne.2 (by omega)
          by_cases hp0 : p < 0
          · go_wp2
            go_ret
            exact ⟨rfl, HB4.out⟩
          · obtain ⟨P, hP⟩ := Int.eq_ofNat_of_zero_le (Int.emod_nonneg p (show (lg.length : Int) ≠ 0 by omega))
            have hPl : P < lg.length := by have := Int.emod_lt_of_pos p (show (0 : Int) < (lg.length : Int) by omega); omega
            obtain ⟨gd, dc', e5, hdc5, _⟩ := HOB.out.some (by omega)
            simp only [Value.slice.injEq, true_and] at e5
            obtain ⟨rfl, rfl⟩ := e5
            obtain ⟨X, hX⟩ := Int.eq_ofNat_of_zero_le (Int.emod_nonneg y (show (256 : Int) ≠ 0 by omega))
            have hX2 : X < 256 := by omega
            obtain ⟨cP, fP, hgB, hcb, hRd⟩ := ob_turned HOB.out hPl
            have HRd := hide (hRd X hX2)
            have fP' := fP P
            have ex := Go.u8_xor_nat (lg.getD P 0) X hcb hX2
            have HC0 := hide cP
            have HGB := hide hgB
            have HPL := hide hPl
            have hPi : (P : Int) < (lg.length : Int) := by omega
            obtain ⟨c0, hc0⟩ : ∃ c0, lg.getD P 0 = c0 := ⟨_, rfl⟩
            rw [hc0] at cP HRd ex
            clear hRd fP hc0 hcb
            go_wp2_with fail
            rw [hP]
            obtain ⟨W5, hW5⟩ : ∃ W5, w4.setCell ⟨gd, P, none⟩ (.int .u8 ((c0 ^^^ X : Nat) : Int)) = W5 := ⟨_, rfl⟩
            have hzw : wr.heap.size ≤ w4.heap.size := HK4.out.size
            have hoth : ∀ q, q < wr.heap.size → W5.heap[q]? = w4.heap[q]? := fun q hq => by rw [← hW5]; exact blk_set_other _ _ _ _ (fun e => by have : q = gd := e; have := HGB.out; omega)
            have HB5 : Hid (Below w.heap.size w W5) := by rw [← hW5]; exact HB4.out.setCell (Nat.le_trans HJW.out.size HGB.out) _
            have HRD5 : Hid (Rd W5 (some ⟨gd, 0, none⟩) lg.length (turn lg P X)) := by rw [← hW5]; exact HRd.out
            have HWV5 : Hid (Wy CK W5 w.heap.size (.slice va Z.length vc) Z) := (HWV.out.kp HK4.out (fun q e h => HWN.out q e (.inl h))).at fun q e => hoth q (HWV.out.lt e).2
            have HEV5 : Hid (Wy IK W5 w.heap.size (.slice ea Z.length ec) (endsN M)) := (HEV.out.kp HK4.out (fun q e h => HEN.out q e (.inl h))).at fun q e => hoth q (HEV.out.lt e).2
            have HPE := hide hP
            rw [hW5]
            clear hoth hW5 HOB HRd fP' ex cP hP HC0 HEV HWV HEN HWN hzw hdc5
            obtain ⟨ea', ec', e6, _, hcs⟩ := HEV5.out.int
            rw [endsN_len, HZ.out] at e6
            simp only [Value.slice.injEq, true_and] at e6
            obtain ⟨rfl, rfl⟩ := e6
            have HCS := hide hcs
            clear hcs
            go_loop [23, 24, 25] (fun bv av iv => ∃ i aa : Nat, i ≤ Z.length ∧ iv = .int .i64 (i : Int) ∧ bv = .int .i64 ((logN (M.take aa) : Nat) : Int) ∧ av = .int .i64 (aa : Int) ∧ Hid (aa ≤ i ∧ (∀ k, k < aa → logN (M.take (k + 1)) ≤ P) ∧ (aa < i → P < logN (M.take (aa + 1))))) (fun _ _ iv => Z.length - (intOf iv).toNat)
            case atStart => exact ⟨0, 0, Nat.zero_le _, rfl, rfl, rfl, Nat.le_refl _, fun k h => by omega, fun h => by omega⟩
            case round =>
              obtain ⟨i, aa, hi, rfl, rfl, rfl, HA⟩ := hrel
              by_cases hil : i < Z.length
              · obtain ⟨b2, off2, rfl, hlt2, hc2⟩ := HCS.out (by rw [endsN_len, HZ.out]; omega)
                have c2 := hc2 i (by rw [endsN_len, HZ.out]; exact hil)
                rw [endsN_get] at c2
                have hii : (i : Int) < (Z.length : Int) := by omega
                by_cases hle : logN (M.take (i + 1)) ≤ P
                · have hli : ((logN (M.take (i + 1)) : Nat) : Int) ≤ (P : Int) := by omega
                  have haa : aa = i := by
                    obtain ⟨h1, h2, h3⟩ := HA.out
                    rcases Nat.lt_or_ge aa i with h | h
                    · have h4 := h3 h
                      have h5 : logN (M.take (aa + 1)) ≤ logN (M.take (i + 1)) := by
                        have := logN_mono (M.take (i + 1)) (aa + 1)
                        rwa [List.take_take, Nat.min_eq_left (by omega)] at this
                      omega
                    · omega
                  subst haa
                  have HL := hide hle
                  clear hc2 hle
                  go_wp2
                  go_round
                  case rel => exact ⟨aa + 1, aa + 1, by omega, by go_num, rfl, by go_num, Nat.le_refl _, fun q hq => by
                    rcases Nat.lt_or_ge q aa with h | h
                    · exact HA.out.2.1 q h
                    · have : q = aa := by omega
                      subst this
                      exact HL.out, fun h => by omega⟩
                  case measure => simp [intOf]; omega
                · have hli : ¬ ((logN (M.take (i + 1)) : Nat) : Int) ≤ (P : Int) := by omega
                  have HL := hide hle
                  clear hc2 hle
                  go_wp2
                  go_round
                  case rel => exact ⟨i + 1, aa, by omega, by go_num, rfl, rfl, by have := HA.out.1; omega, HA.out.2.1, fun h => by
                    rcases Nat.lt_or_ge aa i with h1 | h1
                    · exact HA.out.2.2 h1
                    · have := HA.out.1
                      have : aa = i := by omega
                      subst this
                      have := HL.out
                      omega⟩
                  case measure => simp [intOf]; omega
              · have hi' : i = Z.length := by omega
                subst hi'
                have hwl : IntKind.i64.wrap ((lg.length : Int) + 1) = (lg.length : Int) + 1 := by rw [IntKind.wrap_i64]; omega
                have hl9 : ¬ ((lg.length : Int) + 1) = 0 := by omega
                go_upto_if 137 with fail
                go_cut [26] (fun v wx => (∃ t : Nat, v = .int .i64 (t : Int) ∧ t ≤ lg.length) ∧ wx = W5)
                case first =>
                  by_cases h0 : 0 ≤ sf
                  · go_wp2
                    go_meet
                    obtain ⟨T, hT9⟩ := Int.eq_ofNat_of_zero_le (Int.emod_nonneg sf hl9)
                    have := Int.emod_lt_of_pos sf (show (0 : Int) < (lg.length : Int) + 1 by omega)
                    exact ⟨⟨T, by rw [hT9], by omega⟩, rfl⟩
                  · go_wp2
                    go_meet
                    exact ⟨⟨_, rfl, Nat.le_refl _⟩, rfl⟩
                case rest =>
                  obtain ⟨⟨t, rfl, htl⟩, rfl⟩ := hcut
                  obtain ⟨lt, hlt⟩ : ∃ lt, turn lg P X = lt := ⟨_, rfl⟩
                  have hll : lt.length = lg.length := by rw [← hlt]; exact turn_len _ _ _
                  rw [hlt] at HRD5
                  have hsn := scan_any g (some ⟨gd, 0, none⟩) dc lt (t : Int) wc (HE.out.below HB5.out) (HT.out.below HB5.out) (by rw [hll]; exact HRD5.out) (by rw [hll]; exact HDC.out) (by rw [hll]; omega)
                  rw [hll] at hsn
                  have HSN := hide hsn
                  obtain ⟨a2, k2, e2, hl2, hrd2⟩ := RdQ.rdL HWV5.out (HQ.out.below HB5.out)
                  rw [HMM.out] at hrd2
                  simp only [Value.slice.injEq, true_and] at e2
                  obtain ⟨rfl, rfl⟩ := e2
                  have HR2 := hide hrd2
                  clear hsn hrd2 hwl hl9
                  by_cases hX0 : X = 0
                  · have HSC : Hid (scn lt (t : Int) = (M, lg.length, 0)) := by
                      show _ = _
                      rw [← hlt, hX0, turn_zero, ← HLG.out]
                      exact scn_whole HG.out (by rw [HLG.out]; exact htl)
                    have hy0 : y % 256 = 0 := by omega
                    subst hX0
                    clear hlt hX
                    go_wp2_with fail
                    refine HSN.out.mono ?_
                    rintro e w6 ⟨⟨v, Z', rfl, hwy, htl', hbz⟩, hb6⟩
                    rw [HSC.out] at hbz ⊢
                    dsimp only at hbz ⊢
                    obtain ⟨va', vc', rfl, hzl, hrl, hml⟩ := RdL.told hwy htl'
                    have hz : Z'.length = M.length := by
                      have := congrArg List.length hbz
                      simpa [batches] using this
                    rw [hbz] at hrl hml
                    have hsm := same_any va' va vc' vc M M w6 hrl (HR2.out.below hb6) (by rw [← hz]; exact hzl) hml
                    rw [decide_eq_true (rfl : M = M), HZ.out] at hsm
                    rw [hz, HZ.out]
                    have HSM := hide hsm
                    have HB6 : Hid (Below w.heap.size w w6) := belOn HB5.out HB5.out.size hb6
                    clear hwy htl' hbz hzl hrl hml hz hsm hb6
                    go_wp2_with fail
                    refine HSM.out.mono ?_
                    rintro e w8 ⟨rfl, hb8⟩
                    have HB8 : Hid (Below w.heap.size w w8) := belOn HB6.out HB6.out.size hb8
                    clear hb8
                    go_wp2
                    go_ret
                    exact ⟨rfl, HB8.out⟩
                  · have hfa : aa < M.length ∧ logN (M.take aa) ≤ P ∧ P < logN (M.take (aa + 1)) := by
                      obtain ⟨h1, h2, h3⟩ := HA.out
                      have hz := HZ.out
                      have hll2 : logN M = lg.length := by rw [← HLG.out, logB_len]
                      have hb : logN (M.take aa) ≤ P := by
                        rcases Nat.eq_zero_or_pos aa with h | h
                        · subst h; exact Nat.zero_le _
                        · have := h2 (aa - 1) (by omega)
                          rwa [Nat.sub_add_cancel h] at this
                      have haa : aa < M.length := by
                        rcases Nat.lt_or_ge aa M.length with h | h
                        · exact h
                        · rw [List.take_of_length_le h] at hb
                          have := HPL.out
                          omega
                      exact ⟨haa, hb, h3 (by omega)⟩
                    have HFA := hide hfa
                    have hsc := scn_turn HG.out hfa.1 hfa.2.1 hfa.2.2 hX2 hX0 (t := t) (by rw [HLG.out]; exact htl)
                    rw [HLG.out, hlt] at hsc
                    have HAA : Hid (aa < Z.length) := by show _ < _; have := HZ.out; have := hfa.1; omega
                    have haz : (aa : Int) ≤ (Z.length : Int) := by have := HAA.out; omega
                    have hac : aa ≤ vc := by
                      rcases HWV5.out with ⟨_, h0⟩ | ⟨_, _, _, _, e9, _, h9, _⟩
                      · have := HAA.out; rw [h0] at this; simp at this
                      · simp only [Value.slice.injEq, true_and] at e9
                        have := HAA.out
                        omega
                    have hac2 : (aa : Int) ≤ (vc : Int) := by omega
                    have hy0 : ¬ (X : Int) = 0 := by omega
                    have hy1 : ((X : Int) == 0) = false := beq_eq_false_iff_ne.2 hy0
                    clear hfa hlt
                    by_cases hbt : logN (M.take aa) < t
                    · rw [if_pos hbt] at hsc
                      have HSC := hide hsc
                      have hbi : ((logN (M.take aa) : Nat) : Int) < (t : Int) := by omega
                      clear hsc hbt
                      go_wp2_with fail
                      refine HSN.out.mono ?_
                      rintro e w6 ⟨⟨v, Z', rfl, hwy, htl', hbz⟩, hb6⟩
                      rw [HSC.out] at hbz ⊢
                      dsimp only at hbz ⊢
                      have hz : Z' = [] := by simpa [batches] using hbz
                      subst hz
                      obtain ⟨va', vc', rfl⟩ := hwy.shape
                      have HB6 : Hid (Below w.heap.size w w6) := belOn HB5.out HB5.out.size hb6
                      clear hwy htl' hbz hb6
                      go_wp2
                      go_ret
                      exact ⟨rfl, HB6.out⟩
                    · rw [if_neg hbt] at hsc
                      have HSC := hide hsc
                      have hbi : ¬ ((logN (M.take aa) : Nat) : Int) < (t : Int) := by omega
                      clear hsc hbt
                      go_wp2_with fail
                      refine HSN.out.mono ?_
                      rintro e w6 ⟨⟨v, Z', rfl, hwy, htl', hbz⟩, hb6⟩
                      rw [HSC.out] at hbz ⊢
                      dsimp only at hbz ⊢
                      obtain ⟨va', vc', rfl, hzl, hrl, hml⟩ := RdL.told hwy htl'
                      have hta : (M.take aa).length = aa := by rw [List.length_take]; have := HFA.out.1; omega
                      have hz : Z'.length = aa := by
                        have := congrArg List.length hbz
                        rw [hta] at this
                        simpa [batches] using this
                      rw [hbz] at hrl hml
                      have hsm := same_any va' va vc' vc (M.take aa) (M.take aa) w6 hrl ((HR2.out.takeL aa).below hb6) (by rw [hta, ← hz]; exact hzl) hml
                      rw [decide_eq_true (rfl : M.take aa = M.take aa), hta] at hsm
                      rw [hz]
                      have HSM := hide hsm
                      have HB6 : Hid (Below w.heap.size w w6) := belOn HB5.out HB5.out.size hb6
                      clear hwy htl' hbz hzl hrl hml hz hsm hb6 hta
                      go_wp2_with fail
                      refine HSM.out.mono ?_
                      rintro e w8 ⟨rfl, hb8⟩
                      have HB8 : Hid (Below w.heap.size w w8) := belOn HB6.out HB6.out.size hb8
                      clear hb8
                      go_wp2
                      go_ret
                      exact ⟨rfl, HB8.out⟩
  · have hsi : (s : Int) > 2147483647 := by omega
    clear HWG hs1 hs2
    go_wp2
    go_ret
    exact ⟨rfl, Below.refl _ _⟩
end Go.Proofs.YtdcoafpenkofoaaGreatDoor


/- Stage 20: the journal behind Open of a log with a tail: its size, one batch more, Open anew. -/
namespace Go.Proofs.YtdcoafpenkofoaaGreatDoor
open Go.RowKit
set_option linter.unusedVariables false
set_option linter.unusedSimpArgs false
/-- the tail stands -/
def Fl (l : List Nat) (n : Nat) : Prop := n < l.length ∧ 16777216 < l.length + n
theorem jb_size {S : Nat → Prop} {w wi : World} {d j : Nat} {l : List Nat} {n : Nat} (h : JB S w wi d j l n) (hn : n ≤ l.length) : Calls Tryz.prog 35 #[.pointer (some ⟨j, 0, none⟩)] wi fun e w' => e = .returned (.int .i64 (n : Int)) ∧ w' = wi := by
  unfold JB at h
  by_cases hf : n < l.length ∧ 16777216 < l.length + n
  · rw [if_pos hf] at h; exact size_any h
  · rw [if_neg hf] at h
    have := size_c h
    rwa [show ((l.take n).length : Int) = (n : Int) by rw [List.length_take]; omega] at this
/-- behind Add: refused, or one batch more -/
def JA (S : Nat → Prop) (w wi : World) (d j : Nat) (l : List Nat) (n : Nat) (M : List (List (List Nat))) : Prop := (Fl l n ∧ JT S w wi d j l n) ∨ (¬ Fl l n ∧ JC S w wi d j (logB (M ++ [[[7]]])))
theorem gd7 : GdB [[7]] := by
  refine ⟨by simp, ?_, by decide, ?_⟩
  · intro r hr
    simp only [List.mem_singleton] at hr
    subst hr
    exact ⟨by decide, by decide⟩
  · intro r hr c hc
    simp only [List.mem_singleton] at hr
    subst hr
    simp only [List.mem_singleton] at hc
    omega
theorem jb_add (S : Nat → Prop) (w wi : World) (d j : Nat) (l : List Nat) (n : Nat) (g : Addr) (hE : Eb w g) (hT : Er w) (h : JB S w wi d j l n) (hl : l.length ≤ 16777216) (M : List (List (List Nat))) (q : Nat) (hwl : wl l = (M, n, q)) (hq : n < l.length → q ≠ 0) (hn : n ≤ l.length) (hlg : l.take n = logB M) (h17 : n + 17 ≤ 16777216) (a : Option Addr) (cap : Nat) (hR : ∀ W', Kp S wi W' → RdB W' a [[7]]) :
    Calls Tryz.prog 25 #[.pointer (some ⟨j, 0, none⟩), .slice a 1 cap] wi fun e w' => (∃ y : Int, e = .returned (.int .i64 y) ∧ (Fl l n ∧ y = 190 ∨ ¬ Fl l n ∧ y = 0)) ∧ ∃ S', (∀ q, S' q → S q ∨ wi.heap.size ≤ q) ∧ JA S' w w' d j l n M ∧ Kp (fun k => S k ∨ k = j) wi w' := by
  unfold JB at h
  by_cases hf : n < l.length ∧ 16777216 < l.length + n
  · rw [if_pos hf] at h
    refine (Add_full S w wi d j l n g hE hT h hl M q hwl (hq hf.1) hf.2 a cap [[7]] hR (by decide) (by simp) (by decide)).mono ?_
    rintro e w' ⟨rfl, S', h1, h2, h3⟩
    exact ⟨⟨_, rfl, .inl ⟨hf, rfl⟩⟩, S', h1, .inl ⟨hf, h2⟩, h3⟩
  · rw [if_neg hf, hlg] at h
    have hln : (logB M).length = n := by rw [← hlg, List.length_take]; omega
    have h7 : batN [[7]] = 17 := by decide
    refine (Add_calmK S w wi d j (logB M) hT h a cap [[7]] hR (by decide) (by decide)).mono ?_
    rintro e w' ⟨y, rfl, S', h1, h2, h3⟩
    rcases h3 with ⟨rfl, _, _, _, h3⟩ | ⟨h4 | h4, _⟩
    · refine ⟨⟨_, rfl, .inr ⟨hf, rfl⟩⟩, S', h1, .inr ⟨hf, ?_⟩, h2⟩
      rwa [logB_snoc]
    · exact absurd h4.2 (by decide)
    · rw [hln, h7] at h4
      omega
/-- what Open anew tells -/
theorem ja_open (S : Nat → Prop) (w wi : World) (d j : Nat) (l : List Nat) (n : Nat) (g : Addr) (hE : Eb w g) (hT : Er w) (M : List (List (List Nat))) (hM : ∀ m ∈ M, GdB m) (h : JA S w wi d j l n M) (hl : l.length ≤ 16777216) (q : Nat) (hwl : wl l = (M, n, q)) (hq : q < 2) :
    Calls Tryz.prog 19 #[.pointer (some ⟨d, 0, none⟩)] wi fun e w' => ∃ j v Z, e = .returned (.tuple #[.pointer (some ⟨j, 0, none⟩), v, .int .i64 0]) ∧ Wy AK w' wi.heap.size v Z ∧ ToldL wi.heap.size w' Z ∧ (Fl l n ∧ batches Z = M ∨ ¬ Fl l n ∧ batches Z = M ++ [[[7]]]) ∧ Kp S wi w' := by
  rcases h with ⟨hf, h⟩ | ⟨hf, h⟩
  · refine (open_both S w wi d l l.length g hE hT (JS.aw h) hl (Nat.le_refl _) M n q hwl hq (by have := hf.1; omega) (fun e => by have := hf.1; omega)).mono ?_
    rintro e w' ⟨j', v, Z, h1, h2, h3, h4, h5, S', h6, h7, h8⟩
    exact ⟨j', v, Z, h1, h3, h4, .inl ⟨hf, h5⟩, h8⟩
  · refine (open_anew S w wi d j g hE hT (M ++ [[[7]]]) (by
      intro m hm
      rcases List.mem_append.1 hm with hm | hm
      · exact hM m hm
      · rw [List.mem_singleton.1 hm]; exact gd7) h).mono ?_
    rintro e w' ⟨j', v, Z, h1, h2, h3, h4, h5, h8⟩
    exact ⟨j', v, Z, h1, h3, h4, .inr ⟨hf, h5⟩, h8⟩
theorem jb_below {S : Nat → Prop} {w wi w' : World} {d j : Nat} {l : List Nat} {n : Nat} (h : JB S w wi d j l n) (hb : Below wi.heap.size wi w') : JB S w w' d j l n := by
  unfold JB at h ⊢
  by_cases hf : n < l.length ∧ 16777216 < l.length + n
  · rw [if_pos hf] at h ⊢; exact JS.below h hb
  · rw [if_neg hf] at h ⊢; exact h.below hb
theorem jb_at {S : Nat → Prop} {w wi : World} {d j : Nat} {l : List Nat} {n : Nat} (h : JB S w wi d j l n) : (∀ k, S k ∨ k = j → w.heap.size ≤ k ∧ k < wi.heap.size) ∧ Below w.heap.size w wi := by
  unfold JB at h
  by_cases hf : n < l.length ∧ 16777216 < l.length + n
  · rw [if_pos hf] at h
    have h : JS S w wi d j _ _ _ _ := h
    exact ⟨fun k hk => by
      rcases hk with hk | rfl
      · exact h.aw.at_ k hk
      · exact ⟨h.lo, h.lt⟩, h.aw.bel⟩
  · rw [if_neg hf] at h
    exact ⟨h.at, h.bel⟩
theorem ja_below {S : Nat → Prop} {w wi w' : World} {d j : Nat} {l : List Nat} {n : Nat} {M : List (List (List Nat))} (h : JA S w wi d j l n M) (hb : Below wi.heap.size wi w') : JA S w w' d j l n M := by
  rcases h with ⟨h1, h2⟩ | ⟨h1, h2⟩
  · exact .inl ⟨h1, JS.below h2 hb⟩
  · exact .inr ⟨h1, h2.below hb⟩
theorem ja_bel {S : Nat → Prop} {w wi : World} {d j : Nat} {l : List Nat} {n : Nat} {M : List (List (List Nat))} (h : JA S w wi d j l n M) : Below w.heap.size w wi ∧ ∀ k, S k → w.heap.size ≤ k ∧ k < wi.heap.size := by
  rcases h with ⟨h1, h2⟩ | ⟨h1, h2⟩
  · have h2 : JS S w wi d j _ _ _ _ := h2
    exact ⟨h2.aw.bel, fun k hk => h2.aw.at_ k hk⟩
  · exact ⟨h2.bel, fun k hk => h2.at k (.inl hk)⟩
/-- the batch of one byte, where it lies -/
theorem rdB7 {W : World} {A C : Nat} {t1 t3 : TypeId} {f1 f3 : Nat × Nat} (h1 : W.heap[A]? = some (.cells #[.int .u8 7] t1 f1)) (h3 : W.heap[C]? = some (.cells #[.slice (some ⟨A, 0, none⟩) 1 1] t3 f3)) : RdB W (some ⟨C, 0, none⟩) [[7]] := fun _ =>
  ⟨C, 0, rfl, (Array.getElem?_eq_some_iff.1 h3).1, fun i hi => by
    have hi' : i = 0 := by simp at hi; omega
    subst hi'
    exact ⟨some ⟨A, 0, none⟩, 1, cellOf h3 0 _ rfl, Rb.one (x := 7) h1 (by decide)⟩⟩
/-- the batch of one byte is made -/
theorem alloc7 {w0 W : World} (hW : (w0.alloc (.cells #[.int .u8 7] 5)).alloc (.cells #[.slice (some ⟨w0.heap.size, 0, none⟩) 1 1] 23) = W) :
    Below w0.heap.size w0 W ∧ ∀ (S : Nat → Prop), (∀ k, S k → k < w0.heap.size) → ∀ W', Kp S W W' → RdB W' (some ⟨w0.heap.size + 1, 0, none⟩) [[7]] := by
  have k1 : W.heap[w0.heap.size]? = some (.cells #[.int .u8 7] 5 (0, 0)) := by rw [← hW]; exact heap_past (heap_new _ _) _
  have k2 : W.heap[w0.heap.size + 1]? = some (.cells #[.slice (some ⟨w0.heap.size, 0, none⟩) 1 1] 23 (0, 0)) := by
    rw [← hW]
    have := heap_new (w0.alloc (.cells #[.int .u8 7] 5)) (.cells #[.slice (some ⟨w0.heap.size, 0, none⟩) 1 1] 23)
    simp only [World.size_alloc] at this
    exact this
  refine ⟨by rw [← hW]; exact bel1 (bel1 (Below.refl _ _) (Nat.le_refl _) _) (by simp only [World.size_alloc]; omega) _, fun S hS W' hk => ?_⟩
  exact rdB7 ((hk.block (Array.getElem?_eq_some_iff.1 k1).1 (fun hs => by have := hS _ hs; omega)).trans k1) ((hk.block (Array.getElem?_eq_some_iff.1 k2).1 (fun hs => by have := hS _ hs; omega)).trans k2)
end Go.Proofs.YtdcoafpenkofoaaGreatDoor
