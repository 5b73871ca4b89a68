/- FrameBack: the walk. -/
import Derived.Test.YtboacpneoblklaaFBackL
import Derived.Deep.DeepCutAuto
namespace Go.Proofs.Ytboacpneoblklaa
open Go.RowKit Go.Deep
set_option linter.unusedVariables false
set_option linter.unusedSimpArgs false
theorem Try.infoI : (Try.prog.info? 3).map (fun i => (i.zero, i.size, i.bytes)) = some (some (.int .i64 0), 1, 8) := by kernel_rfl

set_option maxRecDepth 100000 in
set_option maxHeartbeats 16000000 in
theorem back_walk (al : Option Addr) (nl cl : Nat) (fs : Nat → Fr) (ap : Option Addr) (np cp : Nat) (zs : List Int) (aa : Option Addr) (na ca : Nat) (la : List Nat) (ab : Option Addr) (nb cb : Nat) (lb : List Nat) (cut : Int) (w : World)
    (hF : RF w al nl fs) (hP : Ri w ap np zs) (hA : Rd w aa na la) (hB : Rd w ab nb lb) (hna : aa = none → ca = 0) (hnb : ab = none → cb = 0) (wc : (Lit.int .i64 cut).wf = true) (zl : nl ≤ 1048576) (za : na ≤ 1048576) (zb : nb ≤ 1048576) (zp : np ≤ 1048576) :
    Calls Try.prog 6 #[.slice al nl cl, .slice ap np cp, .slice aa na ca, .slice ab nb cb, .int .i64 cut] w fun e w' => e = .returned (.bool true) ∧ Below w.heap.size w w' := by
  obtain ⟨iI, hi, hz0, hz1, hz2⟩ := info_parts Try.infoI
  have HI := hide hi
  have HZ0 := hide hz0
  have HZ1 := hide hz1
  have HZ2 := hide hz2
  clear hi hz0 hz1 hz2
  obtain ⟨iF, hi, hz0, hz1, hz2⟩ := info_parts Try.infoF
  have HIF := hide hi
  have HZF0 := hide hz0
  have HZF1 := hide hz1
  have HZF2 := hide hz2
  clear hi hz0 hz1 hz2
  have HF := hide hF
  have HP := hide hP
  have HA := hide hA
  have HB := hide hB
  have HNA := hide hna
  have HNB := hide hnb
  have WC := hide wc
  have HZL : Hid (nl ≤ 1048576 ∧ na ≤ 1048576 ∧ nb ≤ 1048576 ∧ np ≤ 1048576) := ⟨zl, za, zb, zp⟩
  clear hF hP hA hB hna hnb wc zl za zb zp
  go_enter Try.func6, Try.ntmps6
  go_wp2_with fail
  refine (awake_any w).mono ?_
  rintro e w1 ⟨rfl, hb1⟩
  have HB1 := hide hb1
  have HS1 := hide hb1.size
  have HA1 := hide (HA.out.below hb1)
  have HLA := hide HA.out.2.1
  clear hb1
  obtain ⟨B, hB⟩ : ∃ B, B = w1.heap.size := ⟨_, rfl⟩
  have HBE := hide hB
  clear hB
  go_wp2_with (at_builtin; refine wpList_append_any _ rfl (.const (.slice none 0 0)) (.tmp 41) rfl B (.slice none 0 0) 0 [] rfl (World.ownsRow_nil _ _ _ _) aa na ca la rfl HNA.out HA1.out (by have := HZL.out; omega) (by have := HBE.out; omega) ?_; intro v2 w2 r1 r2; have HR2 := hide r1; have HG2 := hide r2; clear r1 r2)
  have HS2 : Hid (S1 w1 w2 B v2 la (.slice none 0 0) [] (.slice none 0 0) []) := by
    have hz := HG2.out.size
    have hl := HA.out.1
    refine ⟨?_, World.ownsRow_nil _ _ _ _, World.ownsRow_nil _ _ _ _, ?_, by have := HBE.out; omega⟩
    · have := HR2.out
      rw [Nat.zero_add, List.nil_append, ← hl] at this
      exact this
    · rw [HBE.out]
      exact (Below.refl _ _).grown HG2.out (Nat.le_refl _) (fun g hg => by simp [Value.ownBlock] at hg)
  go_loopw [12, 13, 14, 15] (fun va vp vf i wr => ∃ (k : Nat) (AL : List Nat) (ps : List Nat) (gs : List Fr), k ≤ nl ∧ i = .int .i64 k ∧ Hid (S1 w1 wr B va AL vp ps vf gs) ∧ Hid (∀ c ∈ AL, c < 256) ∧ Hid (AL.length ≤ 5100000) ∧ Hid (ps.length = gs.length) ∧ Hid (ps.length ≤ k) ∧ Hid (∀ j (hj : j < ps.length) (hj' : j < gs.length), FOk w gs[j] ∧ fE gs[j] = 0 ∧ Placed AL ps[j] (fL gs[j]))) (fun _ _ _ i _ => nl - (intOf i).toNat)
  case atStart => exact ⟨0, la, [], [], Nat.zero_le _, rfl, HS2, HLA, hide (by have := HA.out.1; have := HZL.out; omega), hide rfl, hide (Nat.le_refl _), hide (fun j hj => by simp at hj)⟩
  case round =>
    obtain ⟨k, AL, ps, gs, hk, rfl, HS, HLT, HLN, HPG, HPK, HPL⟩ := hrel
    by_cases hx : k < nl ∧ AL.length < 4000000
    · as_aux_lemma =>
        obtain ⟨hkl, hlen⟩ := hx
        have hkl' : (k : Int) < (nl : Int) := by omega
        obtain ⟨A, C, rfl, hAC, hAN, hrA⟩ := own_bytes HS.out.1 HLT.out
        obtain ⟨nA, hnA⟩ : ∃ nA, nA = AL.length := ⟨_, rfl⟩
        rw [← hnA] at hrA hAC HS hlen ⊢
        have hlen' : (nA : Int) < 4000000 := by omega
        have HNAE := hide hnA
        have HRA := hide hrA
        have HAN := hide hAN
        have HIN : Hid (k < nl ∧ nA < 4000000 ∧ nA ≤ C ∧ k ≤ nl) := ⟨hkl, hlen, hAC, hk⟩
        clear hrA hAN hnA
        have HWr : Hid (Below w.heap.size w wr) := HB1.out.trans (HS.out.2.2.2.1.mono (by have := HBE.out; have := HS1.out; omega))
        have HWB : Hid (∀ W, Below B w1 W → Below w.heap.size w W) := fun W hW => HB1.out.trans (hW.mono (by have := HBE.out; have := HS1.out; omega))
        obtain ⟨bl, ol, rfl, hbl, hcl⟩ := HF.out.1 (by omega)
        have HBL := hide hbl
        have HCL := hide (hcl k hkl)
        clear hcl hbl hkl hlen hAC hk
        go_upto_if 57 with fail
        clear hkl' hlen'
        go_cut [12] (fun va wx => ∃ M : List Nat, Hid (S1 w1 wx B va (AL ++ M) u13 ps u14 gs) ∧ Hid (∀ c ∈ M, c < 256) ∧ Hid (M.length ≤ 8) ∧ Hid (Below w.heap.size w wx))
        case first =>
          as_aux_lemma =>
            by_cases hkp : k < np
            · have hkp' : (k : Int) < (np : Int) := by omega
              obtain ⟨bp, op, rfl, hbp, hcp⟩ := HP.out (by omega)
              have HCZ0 : Hid (∀ W, Below w.heap.size w W → W.cell? ⟨bp, op + k, none⟩ = some (.int .i64 (zs.getD k 0))) := fun W hW => (hW.cell (p := ⟨bp, op + k, none⟩) hbp).trans (hcp k hkp)
              have hcz := HCZ0.out _ HWr.out
              have HBP := hide hbp
              clear hcp hbp
              generalize zs.getD k 0 = z at *
              have HH := hide (header_any z wr)
              by_cases hg : z = 0 ∨ z = 3
              · have HL8 : Hid (hdL z = hdr z.toNat ∧ hdE z = 0) := by
                  constructor
                  · unfold hdL; rw [if_pos hg]
                  · unfold hdE; rw [if_pos hg]
                obtain ⟨L, hL⟩ : ∃ L, L = hdL z := ⟨_, rfl⟩
                have HLLT : Hid (∀ c ∈ L, c < 256) := by rw [hL]; exact hdL_lt z
                have HLE : Hid (L.length = 8) := by show _ = _; rw [hL, HL8.out.1]; rfl
                rw [← hL, HL8.out.2, HLE.out] at HH
                have HRB : Hid (rdH (AL ++ L) (nA : Int) = (z, (nA : Int) + 8, 0)) := by
                  show _ = _
                  have := hdr_back z.toNat (by omega) AL []
                  rw [List.append_nil, ← HL8.out.1, ← hL, ← HNAE.out, Int.toNat_of_nonneg (by omega)] at this
                  exact this
                have HL := hide hL
                clear hL
                have HG := hide hg
                clear hg
                go_wp2_with fail
                clear hkp hkp'
                refine HH.out.mono ?_
                rintro e w3 ⟨o, rfl, h1, h2, h3⟩
                have HS3 := hide (HS.out.below h3)
                have HRH : Hid (Rd w3 (o.map (fun g => (⟨g, 0, none⟩ : Addr))) 8 L) := by
                  have := rd_ev (w := w3) h1 HLLT.out (fun g hg => (h2 g hg).2)
                  rw [HLE.out] at this
                  exact this
                have HON : Hid (o.map (fun g => (⟨g, 0, none⟩ : Addr)) = none → 8 = 0) := fun h => by
                  have : o = none := by cases o with | none => rfl | some g => simp at h
                  have e := HLE.out
                  rw [h1 this] at e
                  simp at e
                have HB3 := hide h3
                have HW3 : Hid (Below w.heap.size w w3) := HWr.out.trans (h3.mono HWr.out.size)
                have hcz3 := HCZ0.out _ HW3.out
                clear h1 h2 h3 hcz
                generalize (o.map (fun g => (⟨g, 0, none⟩ : Addr))) = A1 at *
                have HLT4 : Hid (∀ c ∈ AL ++ L, c < 256) := fun c hc => by
                  rcases List.mem_append.1 hc with h | h
                  · exact HLT.out c h
                  · exact HLLT.out c h
                have hcases : z = 0 ∨ (¬ z = 0 ∧ z = 3) := by have := HG.out; omega
                rcases hcases with hz | ⟨hz, hz3⟩
                · go_upto_region 17 with (at_builtin; refine wpList_append_any _ rfl (.tmp 84) (.tmp 85) rfl B (.slice A nA C) AL.length AL rfl HS3.out.1 A1 8 8 L rfl HON.out HRH.out (by have := HIN.out; have := HNAE.out; omega) HS3.out.2.2.2.2 ?_; intro v4 w4 r1 r2; have HS4 := hide (S1.all HS3.out (by rw [HLE.out]; exact r1) r2); clear r1 r2)
                  clear hcz3
                  obtain ⟨A4, C4, rfl, hAC4, hAN4, hr4⟩ := own_bytes HS4.out.1 HLT4.out
                  have HW4 : Hid (Below w.heap.size w w4) := HWB.out _ HS4.out.2.2.2.1
                  have HRD := hide (readHeader_any A4 (AL ++ L).length C4 (nA : Int) (AL ++ L) w4 hr4 hAC4 (by have := HIN.out; have := HNAE.out; have := HLE.out; simp; omega) hAN4)
                  have HN4 : Hid ((AL ++ L).length = nA + 8) := by show _ = _; rw [List.length_append, HLE.out, ← HNAE.out]
                  rw [HRB.out, HN4.out] at HRD
                  unfold trip at HRD
                  rw [HN4.out]
                  clear hAC4 hAN4 hr4
                  go_wp2_with fail
                  refine HRD.out.mono ?_
                  rintro e w5 ⟨rfl, hb5⟩
                  have HS5 := hide (HS4.out.below hb5)
                  have HW5 : Hid (Below w.heap.size w w5) := HWB.out _ HS5.out.2.2.2.1
                  have hcz5 := HCZ0.out _ HW5.out
                  have HNN : Hid (((nA + 8 : Nat) : Int) = (nA : Int) + 8) := by show _ = _; omega
                  have hnw : IntKind.i64.wrap ((nA : Int) + 8) = (nA : Int) + 8 := by rw [IntKind.wrap_i64]; have := HIN.out; omega
                  clear hb5
                  go_wp2
                  go_meet
                  rw [HN4.out] at HS5
                  exact ⟨L, HS5, HLLT, hide (by rw [HLE.out]; exact Nat.le_refl _), HW5⟩
                · go_upto_region 17 with (at_builtin; refine wpList_append_any _ rfl (.tmp 84) (.tmp 85) rfl B (.slice A nA C) AL.length AL rfl HS3.out.1 A1 8 8 L rfl HON.out HRH.out (by have := HIN.out; have := HNAE.out; omega) HS3.out.2.2.2.2 ?_; intro v4 w4 r1 r2; have HS4 := hide (S1.all HS3.out (by rw [HLE.out]; exact r1) r2); clear r1 r2)
                  clear hcz3
                  obtain ⟨A4, C4, rfl, hAC4, hAN4, hr4⟩ := own_bytes HS4.out.1 HLT4.out
                  have HW4 : Hid (Below w.heap.size w w4) := HWB.out _ HS4.out.2.2.2.1
                  have HRD := hide (readHeader_any A4 (AL ++ L).length C4 (nA : Int) (AL ++ L) w4 hr4 hAC4 (by have := HIN.out; have := HNAE.out; have := HLE.out; simp; omega) hAN4)
                  have HN4 : Hid ((AL ++ L).length = nA + 8) := by show _ = _; rw [List.length_append, HLE.out, ← HNAE.out]
                  rw [HRB.out, HN4.out] at HRD
                  unfold trip at HRD
                  rw [HN4.out]
                  clear hAC4 hAN4 hr4
                  go_wp2_with fail
                  refine HRD.out.mono ?_
                  rintro e w5 ⟨rfl, hb5⟩
                  have HS5 := hide (HS4.out.below hb5)
                  have HW5 : Hid (Below w.heap.size w w5) := HWB.out _ HS5.out.2.2.2.1
                  have hcz5 := HCZ0.out _ HW5.out
                  have HNN : Hid (((nA + 8 : Nat) : Int) = (nA : Int) + 8) := by show _ = _; omega
                  have hnw : IntKind.i64.wrap ((nA : Int) + 8) = (nA : Int) + 8 := by rw [IntKind.wrap_i64]; have := HIN.out; omega
                  clear hb5
                  go_wp2
                  go_meet
                  rw [HN4.out] at HS5
                  exact ⟨L, HS5, HLLT, hide (by rw [HLE.out]; exact Nat.le_refl _), HW5⟩
              · have HL8 : Hid (hdL z = [] ∧ hdE z = 50) := by
                  constructor
                  · unfold hdL; rw [if_neg hg]
                  · unfold hdE; rw [if_neg hg]
                rw [HL8.out.1, HL8.out.2] at HH
                have hz : ¬ z = 0 := fun h => hg (.inl h)
                have hz3 : ¬ z = 3 := fun h => hg (.inr h)
                have hzb : (z == 0) = false := by simp [hz]
                have hzb3 : (z == 3) = false := by simp [hz3]
                clear hg
                go_wp2_with fail
                clear hkp hkp'
                refine HH.out.mono ?_
                rintro e w3 ⟨o, rfl, h1, h2, h3⟩
                have HS3 := hide (HS.out.below h3)
                have HRH : Hid (Rd w3 (o.map (fun g => (⟨g, 0, none⟩ : Addr))) 0 []) := ⟨rfl, fun c hc => by simp at hc, fun h => by simp at h⟩
                have HW3 : Hid (Below w.heap.size w w3) := HWr.out.trans (h3.mono HWr.out.size)
                have hcz3 := HCZ0.out _ HW3.out
                clear h1 h2 h3 hcz
                generalize (o.map (fun g => (⟨g, 0, none⟩ : Addr))) = A1 at *
                go_upto_region 17 with (at_builtin; refine wpList_append_any _ rfl (.tmp 84) (.tmp 85) rfl B (.slice A nA C) AL.length AL rfl HS3.out.1 A1 0 0 [] rfl (fun _ => rfl) HRH.out (by have := HIN.out; have := HNAE.out; omega) HS3.out.2.2.2.2 ?_; intro v4 w4 r1 r2; have HS4 := hide (S1.all (M := []) HS3.out r1 r2); clear r1 r2)
                clear hcz3
                rw [List.append_nil] at HS4
                obtain ⟨A4, C4, rfl, hAC4, hAN4, hr4⟩ := own_bytes HS4.out.1 HLT.out
                have HW4 : Hid (Below w.heap.size w w4) := HWB.out _ HS4.out.2.2.2.1
                have HRD := hide (readHeader_any A4 AL.length C4 (nA : Int) AL w4 hr4 hAC4 (by have := HIN.out; have := HNAE.out; omega) hAN4)
                obtain ⟨t1, t2, t3, ht⟩ := rdH_trip AL (nA : Int)
                rw [ht, ← HNAE.out] at HRD
                rw [← HNAE.out] at HS4 ⊢
                clear hAC4 hAN4 hr4 ht
                go_wp2_with fail
                refine HRD.out.mono ?_
                rintro e w5 ⟨rfl, hb5⟩
                have HS5 := hide (HS4.out.below hb5)
                have HW5 : Hid (Below w.heap.size w w5) := HWB.out _ HS5.out.2.2.2.1
                clear hb5
                go_wp2
                go_meet
                exact ⟨[], by rw [List.append_nil]; exact HS5, hide (fun c hc => by simp at hc), hide (Nat.zero_le _), HW5⟩
            · have hkp' : ¬ (k : Int) < (np : Int) := by omega
              clear hkp
              go_wp2
              go_meet
              exact ⟨[], by rw [List.append_nil]; exact HS, hide (fun c hc => by simp at hc), hide (Nat.zero_le _), HWr⟩
        case rest =>
          as_aux_lemma =>
            obtain ⟨M, HSM, HMLT, HML, HWx⟩ := hcut
            rename World => wx
            have HLT4 : Hid (∀ c ∈ AL ++ M, c < 256) := fun c hc => by
              rcases List.mem_append.1 hc with h | h
              · exact HLT.out c h
              · exact HMLT.out c h
            have HPL4 : Hid (∀ j (hj : j < ps.length) (hj' : j < gs.length), FOk w gs[j] ∧ fE gs[j] = 0 ∧ Placed (AL ++ M) ps[j] (fL gs[j])) := fun j hj hj' => by
              obtain ⟨p1, p2, p3⟩ := HPL.out j hj hj'
              exact ⟨p1, p2, p3.app M⟩
            have HL4 : Hid ((AL ++ M).length ≤ 4000008) := by
              show _ ≤ _
              have := HIN.out; have := HNAE.out; have := HML.out
              simp; omega
            generalize AL ++ M = AM at *
            obtain ⟨A4, C4, rfl, hAC4, hAN4, hr4⟩ := own_bytes HSM.out.1 HLT4.out
            obtain ⟨n4, hn4⟩ : ∃ n4, n4 = AM.length := ⟨_, rfl⟩
            rw [← hn4] at HSM HL4 ⊢
            have HN4 := hide hn4
            clear hAC4 hAN4 hr4 hn4
            have HFO := hide (HF.out.2 k HIN.out.1)
            generalize hfk : fs k = f at HCL HFO
            obtain ⟨⟨ty, ch⟩, ⟨a, n, c, X⟩, ⟨b, m, d, Y⟩⟩ := f
            have HCF : Hid (∀ W, Below w.heap.size w W → W.cell? ⟨bl, ol + k * 4, none⟩ = some (.int .i64 ty) ∧ W.cell? ⟨bl, ol + k * 4 + 1, none⟩ = some (.int .i64 ch) ∧ W.cell? ⟨bl, ol + k * 4 + 2, none⟩ = some (.slice a n c) ∧ W.cell? ⟨bl, ol + k * 4 + 3, none⟩ = some (.slice b m d)) := fun W hW => ⟨(hW.cell (by exact HBL.out)).trans HCL.out.1, (hW.cell (by exact HBL.out)).trans HCL.out.2.1, (hW.cell (by exact HBL.out)).trans HCL.out.2.2.1, (hW.cell (by exact HBL.out)).trans HCL.out.2.2.2⟩
            have HSE := hide (seal_any ty ch a n c b m d X Y wx (HFO.out.1.below HWx.out) (HFO.out.2.1.below HWx.out) (by have := HFO.out.2.2.1; simp only at this; omega) (by have := HFO.out.2.2.2; simp only at this; omega))
            unfold frV at HSE
            have HFE : Hid (fE ((ty, ch), (a, n, c, X), (b, m, d, Y)) = sealE ty ch n m) := rfl
            have HFL : Hid (fL ((ty, ch), (a, n, c, X), (b, m, d, Y)) = seB ty ch X Y) := rfl
            have HLLT : Hid (∀ c ∈ seB ty ch X Y, c < 256) := seB_lt HFO.out.1.2.1 HFO.out.2.1.2.1
            generalize sealE ty ch n m = E at *
            generalize seB ty ch X Y = L at *
            obtain ⟨N, hN⟩ : ∃ N, N = L.length := ⟨_, rfl⟩
            rw [← hN] at HSE
            have HN := hide hN
            clear hN hfk HCL
            obtain ⟨c0, c1, c2, c3⟩ := HCF.out _ HWx.out
            have hkl' : (k : Int) < (nl : Int) := by have := HIN.out; omega
            go_wp2_with fail
            clear c0 c1 c2 c3
            refine HSE.out.mono ?_
            rintro e wa ⟨o, rfl, h1, h2, h3⟩
            have HSA := hide (HSM.out.below h3)
            have HWA : Hid (Below w.heap.size w wa) := HWB.out _ HSA.out.2.2.2.1
            have HO1 := hide h1
            have HO2 := hide (fun g hg => (h2 g hg).2)
            clear h1 h2 h3
            by_cases hE : E = 0
            · subst hE
              have HNE : Hid (N = 8 + n + m ∧ 8 + n + m ≤ 1048576) := by
                have h1 := fL_length HFO.out HFE.out
                rw [HFL.out] at h1
                simp only at h1
                have h2 := sealE_ok (show sealE ty ch n m = 0 from HFE.out)
                exact ⟨by rw [HN.out]; exact h1, by omega⟩
              obtain ⟨c0, c1, c2, c3⟩ := HCF.out _ HWA.out
              go_upto_region 23 with (at_builtin; refine wpList_append_new _ rfl (.tmp 129) (.tmp 132) 38 rfl B 3 iI (.int .i64 0) 8 Try.underlying38 HI.out HZ0.out HZ1.out HZ2.out rfl _ ps.length _ rfl (HSA.out.2.1.alloc _) ⟨wa.heap.size, 0, none⟩ 1 (.int .i64 (n4 : Int)) rfl (cell_new1 _ _ _) rfl (by have := HPK.out; have := HIN.out; have := HZL.out; unfold maxLen; omega) (by have := HPK.out; have := HIN.out; have := HZL.out; omega) (by have := HSA.out.2.2.2.2; simp; omega) ?_; intro vp' wb r1 r2 r3; have HSB := hide (S1.place HSA.out r1 r2); have HOB := hide (fun g hg => place_bl HSA.out r2 (HO2.out g hg)); clear r1 r2 r3 c0 c1 c2 c3)
              have HWBb : Hid (Below w.heap.size w wb) := HWB.out _ HSB.out.2.2.2.1
              obtain ⟨c0, c1, c2, c3⟩ := HCF.out _ HWBb.out
              have HNW := hide (new4 wb (.int .i64 ty) (.int .i64 ch) (.slice a n c) (.slice b m d))
              have HNO := hide (one4 ty ch a n c b m d)
              go_upto_region 24 with (at_builtin; refine wpList_append_own _ rfl (.tmp 134) (.tmp 139) 27 rfl B 24 iF (.agg #[.int .i64 0, .int .i64 0, .slice none 0 0, .slice none 0 0]) 4 64 Try.underlying27 HIF.out HZF0.out HZF1.out HZF2.out rfl (by omega) u14 gs.length _ rfl (HSB.out.2.2.1.alloc _) ⟨wb.heap.size, 0, none⟩ 1 1 [.int .i64 ty, .int .i64 ch, .slice a n c, .slice b m d] rfl rfl HNW.out HNO.out (by have := HPG.out; have := HPK.out; have := HIN.out; have := HZL.out; unfold maxLen; omega) (by have := HPG.out; have := HPK.out; have := HIN.out; have := HZL.out; omega) (by have := HSB.out.2.2.2.2; simp; omega) ?_; intro vf' wd r1 r2 r3; have HSC := hide (S1.frame (f := ((ty, ch), (a, n, c, X), (b, m, d, Y))) HSB.out r1 r2); have HOC := hide (fun g hg => frame_bl (f := ((ty, ch), (a, n, c, X), (b, m, d, Y))) HSB.out r2 (HOB.out g hg)); clear r1 r2 r3 c0 c1 c2 c3)
              have HRL : Hid (Rd wd (o.map (fun g => (⟨g, 0, none⟩ : Addr))) N L) := by
                have := rd_ev (w := wd) HO1.out HLLT.out (fun g hg => HOC.out g hg)
                rw [← HN.out] at this
                exact this
              have HON : Hid (o.map (fun g => (⟨g, 0, none⟩ : Addr)) = none → N = 0) := fun h => by
                have h0 : o = none := by cases o with | none => rfl | some g => simp at h
                rw [HN.out, HO1.out h0]
                rfl
              generalize (o.map (fun g => (⟨g, 0, none⟩ : Addr))) = A1 at *
              go_upto_region 25 with (at_builtin; refine wpList_append_any _ rfl (.tmp 141) (.tmp 142) rfl B (.slice A4 n4 C4) AM.length AM rfl HSC.out.1 A1 N N L rfl HON.out HRL.out (by have := HL4.out; have := HN4.out; have := HNE.out; omega) HSC.out.2.2.2.2 ?_; intro v9 w9 r1 r2; have HSD := hide (S1.all HSC.out (by rw [← HN.out]; exact r1) r2); clear r1 r2)
              have HWD : Hid (Below w.heap.size w w9) := HWB.out _ HSD.out.2.2.2.1
              obtain ⟨c0, c1, c2, c3⟩ := HCF.out _ HWD.out
              have hNE : (N : Int) = 8 + (n : Int) + (m : Int) := by have := HNE.out; omega
              have hw1 : IntKind.i64.wrap (8 + (n : Int)) = 8 + (n : Int) := by rw [IntKind.wrap_i64]; have := HNE.out; omega
              have hw2 : IntKind.i64.wrap (8 + (n : Int) + (m : Int)) = 8 + (n : Int) + (m : Int) := by rw [IntKind.wrap_i64]; have := HNE.out; omega
              go_quiet (fail)
              go_wp2
              go_roundw
              case rel =>
                refine ⟨k + 1, AM ++ L, ps ++ [n4], gs ++ [((ty, ch), (a, n, c, X), (b, m, d, Y))], HIN.out.1, by rw [wrap_succ (by have := HIN.out; have := HZL.out; omega)], hide (HSD.out.below (below_drewN (Below.refl _ _) _)), hide (fun c hc => ?_), hide ?_, hide ?_, hide ?_, hide ?_⟩
                · rcases List.mem_append.1 hc with h | h
                  · exact HLT4.out c h
                  · exact HLLT.out c h
                · have := HL4.out; have := HN4.out; have := HNE.out; have := HN.out
                  rw [List.length_append]; omega
                · simp [HPG.out]
                · have := HPK.out; simp; omega
                · rw [HN4.out]
                  exact placed_snoc HPG.out HPL4.out HFO.out HFE.out HFL.out
              case measure =>
                rw [wrap_succ (by have := HIN.out; have := HZL.out; omega)]
                have := HIN.out
                simp [intOf]
                omega
            · go_wp2
              go_roundw
              case rel =>
                exact ⟨k + 1, AM, ps, gs, HIN.out.1, by rw [wrap_succ (by have := HIN.out; have := HZL.out; omega)], HSA, HLT4, hide (by have := HL4.out; have := HN4.out; omega), HPG, hide (by have := HPK.out; omega), HPL4⟩
              case measure =>
                rw [wrap_succ (by have := HIN.out; have := HZL.out; omega)]
                have := HIN.out
                simp [intOf]
                omega
    · as_aux_lemma =>
        obtain ⟨A, C, rfl, hAC, hAN, hrA⟩ := own_bytes HS.out.1 HLT.out
        obtain ⟨nA, hnA⟩ : ∃ nA, nA = AL.length := ⟨_, rfl⟩
        rw [← hnA] at hrA hAC HS hx ⊢
        have HNAE := hide hnA
        have HWB : Hid (∀ W, Below B w1 W → Below w.heap.size w W) := fun W hW => HB1.out.trans (hW.mono (by have := HBE.out; have := HS1.out; omega))
        have HBr := hide (HB.out.below (HWB.out _ HS.out.2.2.2.1))
        have HKN : Hid (k ≤ nl) := hk
        have hcase : ¬ (k : Int) < (nl : Int) ∨ ((k : Int) < (nl : Int) ∧ ¬ (nA : Int) < 4000000) := by omega
        clear hrA hAN hnA hAC hx hk
        go_upto_region 8 with fail
        go_cut [51] (fun v wx => v = .bool false ∧ wx = wr)
        case first =>
          rcases hcase with hk1 | ⟨hk1, hk2⟩
          all_goals go_wp2
          all_goals go_meet
          all_goals exact ⟨rfl, rfl⟩
        case rest =>
          obtain ⟨rfl, rfl⟩ := hcut
          clear hcase
          go_upto_region 28 with fail
          have HBl : Hid (nA ≤ 5100000) := by rw [HNAE.out]; exact HLN.out
          go_upto_region 29 with (at_builtin; refine wpList_append_any _ rfl (.tmp 163) (.tmp 164) rfl B (.slice A nA C) AL.length AL rfl HS.out.1 ab nb cb lb rfl HNB.out HBr.out (by have := HLN.out; have := HZL.out; omega) HS.out.2.2.2.2 ?_; intro v2' W3 r1 r2; have HS3 := hide (S1.all (M := lb) HS.out (by rw [HB.out.1]; exact r1) r2); clear r1 r2)
          have HLT3 : Hid (∀ c ∈ AL ++ lb, c < 256) := fun c hc => by
            rcases List.mem_append.1 hc with h | h
            · exact HLT.out c h
            · exact HB.out.2.1 c h
          obtain ⟨A2, C2, rfl, hAC2, hAN2, hr2⟩ := own_bytes HS3.out.1 HLT3.out
          have HR2 := hide hr2
          have HAC2 := hide hAC2
          have HPL3 : Hid (∀ j (hj : j < ps.length) (hj' : j < gs.length), FOk w gs[j] ∧ fE gs[j] = 0 ∧ Placed (AL ++ lb) ps[j] (fL gs[j]) ∧ ps[j] + (fL gs[j]).length ≤ nA) := fun j hj hj' => by
            obtain ⟨p1, p2, p3⟩ := HPL.out j hj hj'
            exact ⟨p1, p2, p3.app lb, by rw [HNAE.out]; exact p3.1⟩
          have HL3 : Hid ((AL ++ lb).length ≤ 6200000) := by
            show _ ≤ _
            have := HLN.out; have := HZL.out; have := HB.out.1
            simp; omega
          generalize AL ++ lb = AM at *
          obtain ⟨n2, hn2⟩ : ∃ n2, n2 = AM.length := ⟨_, rfl⟩
          rw [← hn2] at HS3 HR2 HAC2 HL3 ⊢
          have HN2 := hide hn2
          have HW3 : Hid (Below w.heap.size w W3) := HWB.out _ HS3.out.2.2.2.1
          obtain ⟨vpa, vpc, rfl, hpc⟩ := own_slice HS3.out.2.1
          obtain ⟨vfa, vfc, rfl, hfc⟩ := own_slice HS3.out.2.2.1
          obtain ⟨q, hq⟩ : ∃ q, q = ps.length := ⟨_, rfl⟩
          have hq2 : q = gs.length := by rw [hq]; exact HPG.out
          rw [← hq, ← hq2]
          rw [← hq, ← hq2] at HS3
          have HQ := hide hq
          have HQ2 := hide hq2
          have HQN : Hid (q ≤ 1048576) := by show _ ≤ _; have := HPK.out; have := HKN.out; have := HZL.out; omega
          clear hr2 hAC2 hAN2 hn2 hq hq2 hpc hfc
          go_wp2
          go_loopw [26] (fun i wr => ∃ j : Nat, j ≤ q ∧ i = .int .i64 j ∧ Hid (Below W3.heap.size W3 wr)) (fun i _ => q - (intOf i).toNat)
          case atStart => exact ⟨0, Nat.zero_le _, rfl, hide (Below.refl _ _)⟩
          case round =>
            obtain ⟨j, hj, rfl, HBR⟩ := hrel
            have HJ := hide hj
            clear hj
            by_cases hjq : j < q
            · as_aux_lemma =>
                have hjq' : (j : Int) < (q : Int) := by omega
                have hjp : j < ps.length := by rw [← HQ.out]; exact hjq
                have hjg : j < gs.length := by rw [← HQ2.out]; exact hjq
                obtain ⟨hok, hfe, hpl, hend⟩ := HPL3.out j hjp hjg
                have hr1 := HS3.out.2.1
                have hr3 := HS3.out.2.2.1
                rw [← HQ.out] at hr1
                rw [← HQ2.out] at hr3
                obtain ⟨gp, cpp, ep, hgp1, hgp2, _⟩ := own4_shape hr1 (by omega)
                obtain ⟨gf, cpf, ef, hgf1, hgf2, _⟩ := own4_shape hr3 (by omega)
                simp only [Value.slice.injEq, true_and] at ep ef
                obtain ⟨rfl, rfl⟩ := ep
                obtain ⟨rfl, rfl⟩ := ef
                have HCP : Hid (∀ W, Below W3.heap.size W3 W → W.cell? ⟨gp, j, none⟩ = some (.int .i64 ((ps[j] : Nat) : Int)) ∧ W.cell? ⟨gf, j * 4, none⟩ = some (.int .i64 gs[j].1.1) ∧ W.cell? ⟨gf, j * 4 + 1, none⟩ = some (.int .i64 gs[j].1.2) ∧ W.cell? ⟨gf, j * 4 + 2, none⟩ = some (.slice gs[j].2.1.1 gs[j].2.1.2.1 gs[j].2.1.2.2.1) ∧ W.cell? ⟨gf, j * 4 + 3, none⟩ = some (.slice gs[j].2.2.1 gs[j].2.2.2.1 gs[j].2.2.2.2.1)) := fun W hW => by
                  have f0 := flat_at gs j hjg 0 (by omega)
                  have f1 := flat_at gs j hjg 1 (by omega)
                  have f2 := flat_at gs j hjg 2 (by omega)
                  have f3 := flat_at gs j hjg 3 (by omega)
                  refine ⟨(hW.cell (by exact hgp2)).trans ?_, (hW.cell (by exact hgf2)).trans ?_, (hW.cell (by exact hgf2)).trans ?_, (hW.cell (by exact hgf2)).trans ?_, (hW.cell (by exact hgf2)).trans ?_⟩
                  · rw [own4_at hr1 (by omega), List.getElem?_map, List.getElem?_eq_getElem hjp]; rfl
                  · rw [own4_at hr3 (by omega)]; exact f0
                  · rw [own4_at hr3 (by omega)]; exact f1
                  · rw [own4_at hr3 (by omega)]; exact f2
                  · rw [own4_at hr3 (by omega)]; exact f3
                clear hr1 hr3 hgp1 hgp2 hgf1 hgf2
                generalize ps[j] = p at *
                generalize gs[j] = f at *
                obtain ⟨⟨ty, ch⟩, ⟨a, n, c, X⟩, ⟨b, m, d, Y⟩⟩ := f
                obtain ⟨e0, eK, eC, eX, eY, eN⟩ := op_placed hok hfe hpl
                have HCUT := hide (fun s hs => op_cut (s := s) hok hfe hpl hs)
                have hfl := fL_length hok hfe
                simp only at eK eC eX eY eN hfl
                rw [hfl] at hend
                have hse : sealE ty ch n m = 0 := hfe
                have HFL : Hid (fL ((ty, ch), (a, n, c, X), (b, m, d, Y)) = seB ty ch X Y) := rfl
                have HOK : Hid (FOk w ((ty, ch), (a, n, c, X), (b, m, d, Y))) := hok
                have HPLD := hide hpl
                obtain ⟨T, hT⟩ : ∃ T : Nat, T = p + (8 + n + m) := ⟨_, rfl⟩
                obtain ⟨S, hS⟩ : ∃ S : Nat, S = 8 + n + m := ⟨_, rfl⟩
                rw [show (p : Int) + ((8 + n + m : Nat) : Int) = (T : Int) by omega] at eN
                have HTS : Hid (T = p + (8 + n + m) ∧ S = 8 + n + m ∧ T ≤ nA ∧ T ≤ 6200000 ∧ 8 + n + m ≤ 1048576 ∧ T ≤ n2) := by
                  have h1 := HBl.out
                  have h2 := sealE_ok hse
                  have h3 := hpl.1
                  have h4 := HN2.out
                  rw [hfl] at h3
                  exact ⟨hT, hS, by omega, by omega, by omega, by omega⟩
                have HO1 := hide (open_any A2 n2 C2 (p : Int) 1048576 AM wr (HR2.out.below HBR.out) HAC2.out (by have := HL3.out; omega))
                rw [e0, eK, eC, eX, eY, eN] at HO1
                unfold frO frV at HO1
                have hXn : X.length = n := HOK.out.1.1
                have hYm : Y.length = m := HOK.out.2.1.1
                rw [hXn, hYm] at HO1
                obtain ⟨k0, k1, k2, k3, k4⟩ := HCP.out _ HBR.out
                have HSEZ : Hid (sealE ty ch n m = 0) := hse
                clear e0 eK eC eX eY eN hok hfe hpl hend hfl hse hXn hYm hjp hjg hT hS
                go_wp2_with fail
                clear k0 k1 k2 k3 k4
                refine HO1.out.mono ?_
                rintro e w4 ⟨o1, o2, rfl, h1, h2, h3, h4, h5, h6⟩
                have HRX : Hid (Rd w4 (o1.map (fun g => (⟨g, 0, none⟩ : Addr))) n X) := by
                  have := rd_ev (w := w4) h1 HOK.out.1.2.1 (fun g hg => (h3 g hg).2)
                  rw [show X.length = n from HOK.out.1.1] at this
                  exact this
                have HRY : Hid (Rd w4 (o2.map (fun g => (⟨g, 0, none⟩ : Addr))) m Y) := by
                  have := rd_ev (w := w4) h2 HOK.out.2.1.2.1 (fun g hg => (h4 g hg).2)
                  rw [show Y.length = m from HOK.out.2.1.1] at this
                  exact this
                have HB4 : Hid (Below W3.heap.size W3 w4) := HBR.out.trans (h6.mono HBR.out.size)
                clear h1 h2 h3 h4 h5 h6 HO1
                generalize (o1.map (fun g => (⟨g, 0, none⟩ : Addr))) = A5 at *
                generalize (o2.map (fun g => (⟨g, 0, none⟩ : Addr))) = A6 at *
                go_upto_region 34 with fail
                obtain ⟨F, hF⟩ : ∃ F, F = w4.heap.size := ⟨_, rfl⟩
                obtain ⟨W5, hW5⟩ : ∃ W5, W5 = w4.alloc (.cells #[.int .i64 ty, .int .i64 ch, .slice A5 n n, .slice A6 m m] 24) := ⟨_, rfl⟩
                have HB45 : Hid (Below w4.heap.size w4 W5) := by rw [hW5]; exact below_box w4 _
                have HF5 : Hid (FB4 W5 F (.int .i64 ty) (.int .i64 ch) (.slice A5 n n) (.slice A6 m m)) := by rw [hW5, hF]; exact FB4.new _ _ _ _ _
                have HFW : Hid (F < W5.heap.size) := by show _ < _; rw [hW5, hF]; simp
                rw [← hW5, ← hF]
                have HB5 : Hid (Below W3.heap.size W3 W5) := HB4.out.trans (HB45.out.mono HB4.out.size)
                have HRX5 : Hid (Rd W5 A5 n X) := HRX.out.below HB45.out
                have HRY5 : Hid (Rd W5 A6 m Y) := HRY.out.below HB45.out
                have HRA5 : Hid (Rd W5 a n X) := HOK.out.1.below (HW3.out.trans (HB5.out.mono HW3.out.size))
                have HRB5 : Hid (Rd W5 b m Y) := HOK.out.2.1.below (HW3.out.trans (HB5.out.mono HW3.out.size))
                clear hW5 hF HRX HRY HB4 HB45
                obtain ⟨k0, k1, k2, k3, k4⟩ := HCP.out _ HB5.out
                obtain ⟨f0, f1, f2, f3⟩ := HF5.out.cells
                have hTn : ¬ (nA : Int) < (T : Int) := by have := HTS.out; omega
                have hw1 : IntKind.i64.wrap ((p : Int) + 8) = (p : Int) + 8 := by rw [IntKind.wrap_i64]; have := HTS.out; omega
                have hw2 : IntKind.i64.wrap ((p : Int) + 8 + (n : Int)) = (p : Int) + 8 + (n : Int) := by rw [IntKind.wrap_i64]; have := HTS.out; omega
                have hw3 : IntKind.i64.wrap ((p : Int) + 8 + (n : Int) + (m : Int)) = (T : Int) := by rw [IntKind.wrap_i64]; have := HTS.out; omega
                go_quiet (fail)
                go_upto_region 36 with fail
                clear k0 k1 k2 k3 k4 f0 f1 f2 f3 hTn hw1 hw2 hw3
                as_aux_lemma =>
                  obtain ⟨W6, hW6⟩ : ∃ W6, W6 = W5.drewN nq := ⟨_, rfl⟩
                  have HB56 : Hid (Below W5.heap.size W5 W6) := by rw [hW6]; exact below_drewN (Below.refl _ _) _
                  rw [← hW6]
                  clear hW6
                  have HB6 : Hid (Below W3.heap.size W3 W6) := HB5.out.trans (HB56.out.mono HB5.out.size)
                  have HF6 : Hid (FB4 W6 F (.int .i64 ty) (.int .i64 ch) (.slice A5 n n) (.slice A6 m m)) := (HB56.out.block F HFW.out).trans HF5.out
                  have HRX6 : Hid (Rd W6 A5 n X) := HRX5.out.below HB56.out
                  have HRY6 : Hid (Rd W6 A6 m Y) := HRY5.out.below HB56.out
                  have HRA6 : Hid (Rd W6 a n X) := HRA5.out.below HB56.out
                  have HRB6 : Hid (Rd W6 b m Y) := HRB5.out.below HB56.out
                  have HFW6 : Hid (F < W6.heap.size) := Nat.lt_of_lt_of_le HFW.out HB56.out.size
                  obtain ⟨k0, k1, k2, k3, k4⟩ := HCP.out _ HB6.out
                  obtain ⟨f0, f1, f2, f3⟩ := HF6.out.cells
                  have hv0 : ∀ q, (convert 22 9 (.slice A5 n n)).run Try.prog (W6.drewN q) = .ok (.string (mkS X)) (W6.drewN q) := fun q => conv_any (HRX6.out.below (below_drewN (Below.refl _ _) q)) n
                  have hv1 : ∀ q, (convert 22 9 (.slice A6 m m)).run Try.prog (W6.drewN q) = .ok (.string (mkS Y)) (W6.drewN q) := fun q => conv_any (HRY6.out.below (below_drewN (Below.refl _ _) q)) m
                  have hv2 : ∀ q, (convert 22 9 (.slice a n c)).run Try.prog (W6.drewN q) = .ok (.string (mkS X)) (W6.drewN q) := fun q => conv_any (HRA6.out.below (below_drewN (Below.refl _ _) q)) c
                  have hv3 : ∀ q, (convert 22 9 (.slice b m d)).run Try.prog (W6.drewN q) = .ok (.string (mkS Y)) (W6.drewN q) := fun q => conv_any (HRB6.out.below (below_drewN (Below.refl _ _) q)) d
                  go_quiet (fail)
                  go_upto_region 37 with fail
                  clear k0 k1 k2 k3 k4 f0 f1 f2 f3 hv0 hv1 hv2 hv3
                  as_aux_lemma =>
                    obtain ⟨W7, hW7⟩ : ∃ W7, W7 = W6.drewN nq := ⟨_, rfl⟩
                    have HB67 : Hid (Below W6.heap.size W6 W7) := by rw [hW7]; exact below_drewN (Below.refl _ _) _
                    rw [← hW7]
                    clear hW7
                    have HB7 : Hid (Below W3.heap.size W3 W7) := HB6.out.trans (HB67.out.mono HB6.out.size)
                    have HF7 : Hid (FB4 W7 F (.int .i64 ty) (.int .i64 ch) (.slice A5 n n) (.slice A6 m m)) := (HB67.out.block F HFW6.out).trans HF6.out
                    have HSE := hide (seal_any ty ch A5 n n A6 m m X Y W7 (HRX6.out.below HB67.out) (HRY6.out.below HB67.out) (by have := HTS.out; omega) (by have := HTS.out; omega))
                    have hse : sealE ty ch n m = 0 := HSEZ.out
                    rw [hse] at HSE
                    unfold frV at HSE
                    obtain ⟨L, hL⟩ : ∃ L, L = seB ty ch X Y := ⟨_, rfl⟩
                    have hLS : L.length = S := by
                      have h1 := fL_length HOK.out HSEZ.out
                      rw [HFL.out, ← hL] at h1
                      have := HTS.out
                      simp only at h1
                      omega
                    rw [← hL, hLS] at HSE
                    have HLLT : Hid (∀ c ∈ L, c < 256) := by rw [hL]; exact seB_lt HOK.out.1.2.1 HOK.out.2.1.2.1
                    have HLS := hide hLS
                    have HPL7 : Hid (Placed AM p L) := by rw [hL]; exact HPLD.out
                    clear hse hL hLS
                    obtain ⟨f0, f1, f2, f3⟩ := HF7.out.cells
                    go_wp2_with fail
                    clear f0 f1 f2 f3
                    refine HSE.out.mono ?_
                    rintro e w8 ⟨o3, rfl, h1, h2, h3⟩
                    have HRL : Hid (Rd w8 (o3.map (fun g => (⟨g, 0, none⟩ : Addr))) S L) := by
                      have := rd_ev (w := w8) h1 HLLT.out (fun g hg => (h2 g hg).2)
                      rw [HLS.out] at this
                      exact this
                    have HB8 : Hid (Below W3.heap.size W3 w8) := HB7.out.trans (h3.mono HB7.out.size)
                    clear h1 h2 h3 HSE
                    generalize (o3.map (fun g => (⟨g, 0, none⟩ : Addr))) = A7 at *
                    go_upto_region 38 with fail
                    obtain ⟨b2, off2, hA2, hb2, _⟩ := (HR2.out.below HB8.out).2.2 (by have := HTS.out; omega)
                    subst hA2
                    obtain ⟨ad', had, hsl⟩ := cut2 (⟨b2, off2, none⟩ : Addr) n2 C2 p T (p : Int) (T : Int) rfl rfl (by have := HTS.out; omega) (by have := HTS.out; have := HAC2.out; omega)
                    have hTp : T - p = S := by have := HTS.out; omega
                    rw [hTp] at hsl
                    have HRS : Hid (Rd w8 (some ad') S L) := by
                      have hr := HR2.out.below HB8.out
                      have h := Rd.subr hr (i := p) (m := S) (by have := HTS.out; omega) (some ad') (fun b off e hm => by
                        simp only [Option.some.injEq, Addr.mk.injEq, and_true] at e
                        obtain ⟨rfl, rfl⟩ := e
                        rw [had (by have := HTS.out; have := HAC2.out; omega), add_none])
                      have e2 := HPL7.out.2
                      rw [HLS.out] at e2
                      rw [e2] at h
                      exact h
                    have hv0 : ∀ q, (convert 22 9 (.slice A7 S S)).run Try.prog (w8.drewN q) = .ok (.string (mkS L)) (w8.drewN q) := fun q => conv_any (HRL.out.below (below_drewN (Below.refl _ _) q)) S
                    have hv1 : ∀ q, (convert 22 9 (.slice (some ad') S (C2 - p))).run Try.prog (w8.drewN q) = .ok (.string (mkS L)) (w8.drewN q) := fun q => conv_any (HRS.out.below (below_drewN (Below.refl _ _) q)) (C2 - p)
                    have HSL := hide hsl
                    obtain ⟨k0, k1, k2, k3, k4⟩ := HCP.out _ HB8.out
                    clear hTp had hb2
                    go_quiet (fail)
                    go_upto_region 40 with fail
                    clear k0 k1 k2 k3 k4 hv0 hv1
                    as_aux_lemma =>
                      obtain ⟨W9, hW9⟩ : ∃ W9, W9 = w8.drewN nq := ⟨_, rfl⟩
                      have HB9 : Hid (Below W3.heap.size W3 W9) := by rw [hW9]; exact below_drewN HB8.out _
                      rw [← hW9]
                      clear hW9
                      obtain ⟨k0, k1, k2, k3, k4⟩ := HCP.out _ HB9.out
                      go_upto_if 284 with fail
                      go_cut [34] (fun v wx => ∃ s : Nat, Hid (s < S) ∧ v = .int .i64 ((p + s : Nat) : Int) ∧ Hid (Below W3.heap.size W3 wx))
                      case first =>
                        as_aux_lemma =>
                          by_cases hc : 0 < cut
                          · have hd : IntKind.i64.wrap ((T : Int) - (p : Int)) = (S : Int) := by rw [IntKind.wrap_i64]; have := HTS.out; omega
                            have hS0 : ¬ (S : Int) = 0 := by have := HTS.out; omega
                            go_wp2
                            go_quiet (fail)
                            go_wp2
                            go_meet
                            have hm0 : 0 ≤ cut % (S : Int) := Int.emod_nonneg _ hS0
                            have hm1 : cut % (S : Int) < (S : Int) := Int.emod_lt_of_pos _ (by omega)
                            refine ⟨(cut % (S : Int)).toNat, hide (by omega), ?_, hide (below_drewN HB9.out _)⟩
                            have := HTS.out
                            generalize cut % (S : Int) = r at *
                            congr 1
                            unfold wrap64
                            omega
                          · go_wp2
                            go_meet
                            exact ⟨0, hide (by have := HTS.out; omega), rfl, HB9⟩
                      case rest =>
                        as_aux_lemma =>
                          obtain ⟨s, HSS, rfl, HBX⟩ := hcut
                          rename World => wx
                          clear k0 k1 k2 k3 k4
                          obtain ⟨t, ht⟩ : ∃ t : Nat, t = p + s := ⟨_, rfl⟩
                          rw [← ht]
                          have htn : t ≤ C2 := by have := HTS.out; have := HSS.out; have := HAC2.out; omega
                          have hct := cut0 (⟨b2, off2, none⟩ : Addr) n2 C2 t (t : Int) rfl htn
                          have HOE : Hid (opE (AM.take t) (p : Int) 1048576 = 10) := by show _ = _; rw [ht]; exact HCUT.out s (by have := HTS.out; have := HSS.out; show s < 8 + n + m; omega)
                          have HO2 : Hid (∀ W, Below W3.heap.size W3 W → Calls Try.prog 14 #[.slice (some ⟨b2, off2, none⟩) t C2, .int .i64 (p : Int), .int .i64 1048576] W fun e w' => ∃ (K Ch N : Int) (o1 o2 : Option Addr) (l1 l2 : Nat), e = .returned (.tuple #[.agg #[.int .i64 K, .int .i64 Ch, .slice o1 l1 l1, .slice o2 l2 l2], .int .i64 N, .int .i64 10]) ∧ Hid (Below W.heap.size W w')) := fun W hW => by
                            have hr := HR2.out.below hW
                            have h := Rd.subr hr (i := 0) (m := t) (by have := HTS.out; have := HSS.out; omega) (some ⟨b2, off2, none⟩) (fun b off e hm => by
                              simp only [Option.some.injEq, Addr.mk.injEq, and_true] at e
                              obtain ⟨rfl, rfl⟩ := e
                              rfl)
                            rw [List.drop_zero] at h
                            refine (open_any (some ⟨b2, off2, none⟩) t C2 (p : Int) 1048576 (AM.take t) W h htn (by have := HTS.out; have := HSS.out; omega)).mono ?_
                            rintro e w' ⟨o1, o2, rfl, _, _, _, _, _, hb⟩
                            rw [HOE.out]
                            exact ⟨_, _, _, _, _, _, _, rfl, hide hb⟩
                          have HCX : Hid (∀ W, Below W3.heap.size W3 W → W.cell? ⟨gp, j, none⟩ = some (.int .i64 (p : Int))) := fun W hW => (HCP.out W hW).1
                          have HZX := hide HBX.out.size
                          have HBD : Hid (Below W3.heap.size W3 wx.drew) := HBX.out.drew
                          have HBDA : Hid (∀ o, Below W3.heap.size W3 (wx.drew.alloc o)) := fun o => HBD.out.alloc HZX.out o
                          have HHT := hide ht
                          clear ht htn
                          go_upto_region 43 with fail
                          go_cut [37] (fun v wy => v = .int .i64 10 ∧ Hid (Below W3.heap.size W3 wy))
                          case first =>
                            as_aux_lemma =>
                              go_region_held3 (fun W => W.cell? ⟨gp, j, none⟩ = some (.int .i64 (p : Int))) (first | exact HCX.out _ HB10.out | exact HCX.out _ HB10.out.drew | exact HCX.out _ (HB10.out.alloc HZ10.out _) | exact HCX.out _ (HB10.out.drew.alloc HZ10.out _) | exact HCX.out _ HBX.out | exact HCX.out _ HBD.out | exact HCX.out _ (HBDA.out _) | exact HCX.out _ (HBX.out.alloc HZX.out _) | exact HCX.out _ (below_setAt (below_setAt (below_setAt (below_setAt HB10.out HZX.out 0 _) HZX.out 1 _) HZX.out 2 _) HZX.out 3 _)) ((first
                                | (go_at_call 14; refine Calls.mono (HO2.out _ (by first | exact HBD.out | exact HBDA.out _ | exact HBX.out | exact HBX.out.alloc HZX.out _)) ?_; rintro e10 w10 ⟨K0, C0, N0, o10, o11, l10, l11, rfl, HN10⟩; have HB10 : Hid (Below W3.heap.size W3 w10) := Below.trans (by first | exact HBD.out | exact HBDA.out _ | exact HBX.out | exact HBX.out.alloc HZX.out _) (HN10.out.mono (by have := HZX.out; simp; omega)); have HZ10 : Hid (W3.heap.size ≤ w10.heap.size) := HB10.out.size; (try have HFY : Hid (FZ w10 _) := FZ.below (FZ.new _) HN10.out (by simp)); (try have HFY : Hid (FZ w10 _) := FZ.below (FZ.newd _) HN10.out (by simp)); (try obtain ⟨q0, q1, q2, q3, r0, r1, r2, r3⟩ := HFY.out.facts))))
                              all_goals (try go_wp2_with fail)
                              all_goals go_meet
                              · exact ⟨rfl, hide (HB10.out.alloc HZ10.out _)⟩
                              · exact ⟨rfl, hide (below_setAt (below_setAt (below_setAt (below_setAt HB10.out HZX.out 0 _) HZX.out 1 _) HZX.out 2 _) HZX.out 3 _)⟩
                          case rest =>
                            as_aux_lemma =>
                              obtain ⟨rfl, HBY⟩ := hcut
                              rename World => wy
                              have hjs := wrap_succ (k := j) (by have := HQN.out; omega)
                              go_wp2
                              go_roundw
                              case rel => exact ⟨j + 1, hjq, by first | rfl | rw [hjs], HBY⟩
                              case measure =>
                                try rw [hjs]
                                simp [intOf]
                                omega
            · have hjq' : ¬ (j : Int) < (q : Int) := by omega
              go_wp2
              go_ret
              exact ⟨rfl, HW3.out.trans (HBR.out.mono HW3.out.size)⟩
end Go.Proofs.Ytboacpneoblklaa
