import Derived.Test.YtdcoafpenkofoaaGreatDoorJSlM9

/- Stage 20: JournalStroke: the walk. -/
namespace Go.Proofs.YtdcoafpenkofoaaGreatDoor
open Go.RowKit Go.MuLone
set_option linter.unusedVariables false
set_option linter.unusedSimpArgs false
set_option maxHeartbeats 16000000 in
set_option maxRecDepth 100000 in
theorem stroke_walk (room : Int) (a : Option Addr) (n cap : Nat) (fs : Nat → Sq) (w : World) (g : Addr) (hE : Eb w g) (hT : Er w) (hR : RS w a n fs) (hn : n ≤ 140737488355328) (hf : ∀ j, j < n → Sfit (fs j)) (hr : -9223372036854775808 ≤ room ∧ room < 9223372036854775808) :
    Calls Tryz.prog 6 #[.int .i64 room, .slice a n cap] w fun e w' => e = .returned (.bool true) ∧ Below w.heap.size w w' := by
  have HBY := hide (beyond_any a n cap fs w hn hR hf)
  have HLV := hide (live_yes w g hE hT)
  have HE := hide hE
  have HT := hide hT
  have HR := hide hR
  have HF := hide hf
  clear hE hT hR hf
  go_enter Tryz.func6, Tryz.ntmps6
  go_wp2_with fail
  refine HBY.out.mono ?_
  rintro e w' ⟨⟨bb, rfl, hbb⟩, hw'⟩
  obtain rfl := hw'.symm
  have HBB := hide hbb
  clear hbb HBY
  cases bb
  · have HWG := hide (HBB.out rfl)
    clear HBB
    go_wp2_with fail
    refine HLV.out.mono ?_
    rintro e w1 ⟨rfl, hb1⟩
    have HB1 := hide hb1
    clear hb1 HLV
    by_cases hroom : 0 ≤ room ∧ room ≤ 16777216
    · have HN := hide (aw_new w w1 HB1.out room hroom.1 hroom.2)
      clear hroom hr
      go_wp2_with fail
      refine HN.out.mono ?_
      rintro e w2 ⟨d, S2, rfl, hA2, hs2, hb2⟩
      have HA2 := hide hA2
      clear hA2 hs2 hb2 HN
      obtain ⟨W3, hW3⟩ : ∃ W3, w2.alloc (.cells #[.slice none 0 0, .slice none 0 0, .bool false, .int .i64 0] 57) = W3 := ⟨_, rfl⟩
      have hb3 : Below w2.heap.size w2 W3 := by rw [← hW3]; exact bel1 (Below.refl _ _) (Nat.le_refl _) _
      have hB3 : BB W3 w2.heap.size (.slice none 0 0) (.slice none 0 0) false 0 := by show _ = _; rw [← hW3]; exact heap_new _ _
      obtain ⟨b, hb⟩ : ∃ b, w2.heap.size = b := ⟨_, rfl⟩
      have hDn : Dn ([] : List Fi) [] [] false := ⟨fun f hf => absurd hf (by simp), fun m hm => absurd hm (by simp), [[7]], 0, gd7, by decide, rfl, Nat.le_refl _, Nat.le_refl _, fun h => absurd h (by decide)⟩
      have hUB : UB S2 w W3 d b false false false [] [] (.slice none 0 0) (.slice none 0 0) 0 :=
        ⟨⟨_, _, HA2.out.below hb3, rfl, fun h => absurd h (by decide), hDn⟩, by rw [← hb]; exact hB3, by rw [← hb]; exact HA2.out.bel.size, fun hs => by have := (HA2.out.at_ b hs).2; omega, Lr.nil _ _ _, fun e => absurd e (by decide)⟩
      have HUP := hide (up_any9 S2 w W3 d b g HE.out HT.out _ _ _ _ _ _ _ _ hUB)
      have HW3 := hide hW3
      have HBB := hide hb
      clear hW3 hb3 hB3 hb hDn hUB HA2
      go_wp2_with fail
      rw [HW3.out, HBB.out]
      refine HUP.out.mono ?_
      rintro e w4 ⟨j, M, tl, nv, tv, li, S4, rfl, _, _, hUJ, _⟩
      have HUJ : Hid (∃ S M tl nv tv li, UJ S w w4 d b j tl M nv tv li) := ⟨S4, M, tl, nv, tv, li, hUJ⟩
      clear hUJ HUP
      go_wp2_with fail
      go_loopw [9, 10] (fun jv iv wr => ∃ k jj : Nat, k ≤ n ∧ iv = .int .i64 (k : Int) ∧ jv = .pointer (some ⟨jj, 0, none⟩) ∧ Hid (∃ S M tl nv tv li, UJ S w wr d b jj tl M nv tv li)) (fun _ iv _ => n - (intOf iv).toNat)
      case atStart => exact ⟨0, j, Nat.zero_le _, rfl, rfl, HUJ.out⟩
      case round =>
        rename_i jv iv wr
        obtain ⟨k, jj, hk, rfl, rfl, HI⟩ := hrel
        by_cases hkn : k < n
        · obtain ⟨S, M, tl, nv, tv, li, hU⟩ := HI.out
          obtain ⟨b1, off, rfl, hbl, c0, c1, c2, c3, c4⟩ := HR.out.cells hU.bel hkn
          have hrr := (HR.out k hkn).2
          have hzz := HF.out k hkn
          have hwg := HWG.out k hkn
          obtain ⟨o, ho⟩ : ∃ o, fs k = o := ⟨_, rfl⟩
          rw [ho] at c0 c1 c2 c3 c4 hrr hzz hwg
          obtain ⟨ok, oa, ob, la, L, lc, ma, M', mc⟩ := o
          dsimp only at c0 c1 c2 c3 c4 hrr hwg
          have HRR := hide hrr
          have HZZ := hide hzz
          have HWK := hide hwg
          have HU := hide hU
          have hki : (k : Int) < (n : Int) := by omega
          clear ho hrr hzz hwg hU HI
          by_cases h1 : ok = 1
          · subst h1
            go_wp2_with fail
            obtain ⟨W1, hW1⟩ : ∃ W1, wr.alloc (.cells #[.int .i64 1, .int .i64 oa, .int .i64 ob, .slice la L.length lc, .slice ma M'.length mc] 52) = W1 := ⟨_, rfl⟩
            have hb1 : Below wr.heap.size wr W1 := by rw [← hW1]; exact bel1 (Below.refl _ _) (Nat.le_refl _) _
            have hO : W1.heap[wr.heap.size]? = some (.cells #[.int .i64 1, .int .i64 oa, .int .i64 ob, .slice la L.length lc, .slice ma M'.length mc] 52 (0, 0)) := by rw [← hW1]; exact heap_new _ _
            have HU1 := hide (HU.out.below hb1)
            have HOB := hide hO
            have HW1 := hide hW1
            have HLT1 : Hid (wr.heap.size < W1.heap.size) := (Array.getElem?_eq_some_iff.1 hO).1
            have HAD := hide (Add_step S w W1 d jj M tl g HE.out HT.out HU1.out.jl la lc L HRR.out.1 (by have := bodN_wg L; have := HWK.out; omega) (by have := batN_wg L; have := HWK.out; omega))
            clear hb1 hO hW1
            rw [HW1.out]
            refine HAD.out.mono ?_
            rintro e w2 ⟨m, rfl, S', hS', hj', hK', hcase⟩
            have HK2 : Hid ((∀ q, S' q → S q ∨ W1.heap.size ≤ q) ∧ ¬ S' jj ∧ Kp (fun k => S k ∨ k = jj) W1 w2) := ⟨hS', hj', hK'⟩
            obtain ⟨hbb2, hnb2, hlr2⟩ := HU1.out.step hS' hK'
            have hbw2 : Below w.heap.size w w2 := HU1.out.bel.trans (hK'.toBelow HU1.out.bel.size (fun q hq hs => by have := (HU1.out.jl.at q hs).1; omega))
            have hO2 : w2.heap[wr.heap.size]? = some (.cells #[.int .i64 1, .int .i64 oa, .int .i64 ob, .slice la L.length lc, .slice ma M'.length mc] 52 (0, 0)) := (hK'.block HLT1.out (fun hs => by have := (HU.out.jl.at _ hs).2; omega)).trans HOB.out
            have o3 : w2.cell? ⟨wr.heap.size, 3, none⟩ = some (.slice la L.length lc) := cellOf hO2 3 _ rfl
            have o4 : w2.cell? ⟨wr.heap.size, 4, none⟩ = some (.slice ma M'.length mc) := cellOf hO2 4 _ rfl
            obtain ⟨na, nc, e1, _, _⟩ := hlr2.row hbw2
            subst e1
            have HWI : Hid (∀ V, Below w2.heap.size w2 V → Calls Tryz.prog 26 #[.slice na M.length nc, .slice la L.length lc] V fun e w' => ∃ va vn vc Z, e = .returned (.slice va vn vc) ∧ (Wy CK w' w2.heap.size (.slice va vn vc) Z ∧ RdQ w Z ∧ Z.map (·.1) = wth M L) ∧ Below w2.heap.size w2 w') := fun V hV => (with_lr hlr2 hbw2 HU1.out.jl.len la lc L HRR.out.1 V hV).mono (fun e w' ⟨va, vn, vc, Z, h1, h2, h3, h4, h5⟩ => ⟨va, vn, vc, Z, h1, ⟨h2.mono hV.size, h3, h4⟩, belOn hV hV.size h5⟩)
            obtain ⟨n0, _, _, _, _⟩ := hbb2.cells
            have HCS := hide hcase
            clear hcase hS' hj' hK' hbb2 hnb2 hlr2 hbw2 hO2 o4
            rcases HCS.out with ⟨rfl, tl', hJ⟩ | ⟨hm, tl', hJ⟩ | ⟨rfl, hJ, hN⟩
            · have HJ := hide hJ
              clear hJ HCS
              have HBL : Hid (b < w2.heap.size ∧ wr.heap.size < w2.heap.size ∧ w2.cell? ⟨b, 0, none⟩ = some (.slice na M.length nc) ∧ w2.cell? ⟨wr.heap.size, 3, none⟩ = some (.slice la L.length lc)) := ⟨block_lt_of_cell n0, block_lt_of_cell o3, n0, o3⟩
              go_wp2_with fail
              go_region_held (fun V => V.cell? ⟨b, 0, none⟩ = some (.slice na M.length nc) ∧ V.cell? ⟨wr.heap.size, 3, none⟩ = some (.slice la L.length lc)) (first | go_keep | exact HCK.out) ((go_at_call 26; refine Calls.mono (HWI.out _ (by first | exact Below.refl _ _ | exact (Below.refl _ _).drew | exact (Below.refl _ _).drew.drew)) ?_; rintro e2 w3 ⟨va, vn, vc, Z, rfl, hx3, hb3⟩; have HX3 := hide hx3; have HB3 := hide hb3; have HCK : Hid (w3.cell? ⟨b, 0, none⟩ = some (.slice na M.length nc) ∧ w3.cell? ⟨wr.heap.size, 3, none⟩ = some (.slice la L.length lc)) := ⟨(HB3.out.cell (p := ⟨b, 0, none⟩) HBL.out.1).trans HBL.out.2.2.1, (HB3.out.cell (p := ⟨wr.heap.size, 3, none⟩) HBL.out.2.1).trans HBL.out.2.2.2⟩; clear hx3 hb3))

              have HBB3 := hide ((HU1.out.step HK2.out.1 HK2.out.2.2).1.below HB3.out)
              have HDN := hide (done_ok (HBB3.out) va vn vc)
              clear HBB3
              go_wp2_with fail
              refine HDN.out.mono ?_
              rintro e w4 ⟨rfl, hw4⟩
              have HUA : Hid (∃ S M tl nv tv li, UJ S w w4 d b jj tl M nv tv li) := ⟨_, _, _, _, _, _, hw4 ▸ HU1.out.ok HK2.out.1 HK2.out.2.2 HJ.out HB3.out HX3.out.1 HX3.out.2.1 HX3.out.2.2⟩
              clear hw4 HDN
              obtain ⟨SA, MA, tlA, nvA, tvA, liA, huA⟩ := HUA.out
              have HUP := hide huA.up
              clear huA
              go_wp2_with fail
              refine HUP.out.mono ?_
              rintro e wz ⟨rfl, huz⟩
              have HUZ := hide huz
              clear huz HUP
              go_wp2
              exact ⟨⟨k + 1, jj, by omega, by go_num, rfl, HUZ.out⟩, by simp [intOf]; omega⟩
            · have HJ := hide hJ
              clear hJ HCS
              have HBL : Hid (b < w2.heap.size ∧ wr.heap.size < w2.heap.size ∧ w2.cell? ⟨b, 0, none⟩ = some (.slice na M.length nc) ∧ w2.cell? ⟨wr.heap.size, 3, none⟩ = some (.slice la L.length lc)) := ⟨block_lt_of_cell n0, block_lt_of_cell o3, n0, o3⟩
              go_wp2_with fail
              go_region_held (fun V => V.cell? ⟨b, 0, none⟩ = some (.slice na M.length nc) ∧ V.cell? ⟨wr.heap.size, 3, none⟩ = some (.slice la L.length lc)) (first | go_keep | exact HCK.out) ((go_at_call 26; refine Calls.mono (HWI.out _ (by first | exact Below.refl _ _ | exact (Below.refl _ _).drew | exact (Below.refl _ _).drew.drew)) ?_; rintro e2 w3 ⟨va, vn, vc, Z, rfl, hx3, hb3⟩; have HX3 := hide hx3; have HB3 := hide hb3; have HCK : Hid (w3.cell? ⟨b, 0, none⟩ = some (.slice na M.length nc) ∧ w3.cell? ⟨wr.heap.size, 3, none⟩ = some (.slice la L.length lc)) := ⟨(HB3.out.cell (p := ⟨b, 0, none⟩) HBL.out.1).trans HBL.out.2.2.1, (HB3.out.cell (p := ⟨wr.heap.size, 3, none⟩) HBL.out.2.1).trans HBL.out.2.2.2⟩; clear hx3 hb3))

              have HDN := hide (done_else m hm (wi := w3) (b := b) (.slice va vn vc))
              clear hm
              go_wp2_with fail
              refine HDN.out.mono ?_
              rintro e w4 ⟨rfl, hw4⟩
              have HUA : Hid (∃ S M tl nv tv li, UJ S w w4 d b jj tl M nv tv li) := ⟨_, _, _, _, _, _, hw4 ▸ HU1.out.refused HK2.out.1 HK2.out.2.2 HJ.out HB3.out⟩
              clear hw4 HDN
              obtain ⟨SA, MA, tlA, nvA, tvA, liA, huA⟩ := HUA.out
              have HUP := hide huA.up
              clear huA
              go_wp2_with fail
              refine HUP.out.mono ?_
              rintro e wz ⟨rfl, huz⟩
              have HUZ := hide huz
              clear huz HUP
              go_wp2
              exact ⟨⟨k + 1, jj, by omega, by go_num, rfl, HUZ.out⟩, by simp [intOf]; omega⟩
            · have HJ := hide (And.intro hJ hN)
              clear hJ hN HCS
              have HBL : Hid (b < w2.heap.size ∧ wr.heap.size < w2.heap.size ∧ w2.cell? ⟨b, 0, none⟩ = some (.slice na M.length nc) ∧ w2.cell? ⟨wr.heap.size, 3, none⟩ = some (.slice la L.length lc)) := ⟨block_lt_of_cell n0, block_lt_of_cell o3, n0, o3⟩
              go_wp2_with fail
              go_region_held (fun V => V.cell? ⟨b, 0, none⟩ = some (.slice na M.length nc) ∧ V.cell? ⟨wr.heap.size, 3, none⟩ = some (.slice la L.length lc)) (first | go_keep | exact HCK.out) ((go_at_call 26; refine Calls.mono (HWI.out _ (by first | exact Below.refl _ _ | exact (Below.refl _ _).drew | exact (Below.refl _ _).drew.drew)) ?_; rintro e2 w3 ⟨va, vn, vc, Z, rfl, hx3, hb3⟩; have HX3 := hide hx3; have HB3 := hide hb3; have HCK : Hid (w3.cell? ⟨b, 0, none⟩ = some (.slice na M.length nc) ∧ w3.cell? ⟨wr.heap.size, 3, none⟩ = some (.slice la L.length lc)) := ⟨(HB3.out.cell (p := ⟨b, 0, none⟩) HBL.out.1).trans HBL.out.2.2.1, (HB3.out.cell (p := ⟨wr.heap.size, 3, none⟩) HBL.out.2.1).trans HBL.out.2.2.2⟩; clear hx3 hb3))

              have HBB3 := hide ((HU1.out.step HK2.out.1 HK2.out.2.2).1.below HB3.out)
              have HDN := hide (done_three (HBB3.out) va vn vc)
              clear HBB3
              go_wp2_with fail
              refine HDN.out.mono ?_
              rintro e w4 ⟨rfl, hw4⟩
              have HUD : Hid (∃ S, UD S w w4 d b jj) := ⟨_, hw4 ▸ HU1.out.fell HK2.out.1 HK2.out.2.2 HK2.out.2.1 HJ.out.1 HJ.out.2 HB3.out HX3.out.1 HX3.out.2.1 HX3.out.2.2⟩
              clear hw4 HDN
              obtain ⟨SB, huB⟩ := HUD.out
              have HUP := hide huB.up
              clear huB
              go_wp2_with fail
              refine HUP.out.mono ?_
              rintro e wy ⟨rfl, SC, huC⟩
              have HUC := hide huC
              clear huC HUP HUD
              obtain ⟨Wy1, hWy⟩ : ∃ W, (wy.alloc (.cells #[.int .u8 1] 5)).alloc (.cells #[.slice (some ⟨wy.heap.size, 0, none⟩) 1 1] 23) = W := ⟨_, rfl⟩
              have hby : Below wy.heap.size wy Wy1 := by rw [← hWy]; exact bel1 (bel1 (Below.refl _ _) (Nat.le_refl _) _) (by simp only [World.size_alloc]; omega) _
              have HAD2 := hide ((HUC.out.below hby).add (some ⟨wy.heap.size + 1, 0, none⟩) 1 1)
              have HWY := hide hWy
              clear hby hWy
              go_wp2_with fail
              rw [HWY.out]
              refine HAD2.out.mono ?_
              rintro e wx ⟨rfl, SD, huD⟩
              have HSH := hide (Shorten_nil huD.jn none 0 0)
              have HUD2 := hide huD
              clear huD HAD2
              go_wp2_with fail
              refine HSH.out.mono ?_
              rintro e wx2 ⟨rfl, hbx⟩
              have HTK := hide ((HUD2.out.below hbx).taken g HE.out HT.out)
              clear hbx HSH HUD2 HUC HWY
              go_wp2_with fail
              refine HTK.out.mono ?_
              rintro e wx3 ⟨jn, rfl, huj, hjn⟩
              have HUJ3 := hide huj
              have HJN := hide hjn
              clear huj hjn HTK
              obtain ⟨Wz1, hWz⟩ : ∃ W, (wx3.alloc (.cells #[.int .u8 1] 5)).alloc (.cells #[.slice (some ⟨wx3.heap.size, 0, none⟩) 1 1] 23) = W := ⟨_, rfl⟩
              have hbz : Below wx3.heap.size wx3 Wz1 := by rw [← hWz]; exact bel1 (bel1 (Below.refl _ _) (Nat.le_refl _) _) (by simp only [World.size_alloc]; omega) _
              have HAN := hide (Add_nil (HJN.out.below hbz) (some ⟨wx3.heap.size + 1, 0, none⟩) 1 1)
              have HBZ := hide hbz
              have HWZ := hide hWz
              clear hbz hWz
              go_wp2_with fail
              rw [HWZ.out]
              refine HAN.out.mono ?_
              rintro e wx4 ⟨rfl, hb4⟩
              have HUZ : Hid (∃ S M tl nv tv li, UJ S w wx4 d b jn tl M nv tv li) := by
                obtain ⟨S9, M9, tl9, nv9, tv9, li9, h9⟩ := HUJ3.out
                exact ⟨S9, M9, tl9, nv9, tv9, li9, h9.below (belOn HBZ.out HBZ.out.size hb4)⟩
              clear hb4 HAN
              go_wp2
              exact ⟨⟨k + 1, jn, by omega, by go_num, rfl, HUZ.out⟩, by simp [intOf]; omega⟩
          by_cases h2 : ok = 2
          · subst h2
            go_wp2_with fail
            obtain ⟨W1, hW1⟩ : ∃ W1, wr.alloc (.cells #[.int .i64 2, .int .i64 oa, .int .i64 ob, .slice la L.length lc, .slice ma M'.length mc] 52) = W1 := ⟨_, rfl⟩
            have hb1 : Below wr.heap.size wr W1 := by rw [← hW1]; exact bel1 (Below.refl _ _) (Nat.le_refl _) _
            have hO : W1.heap[wr.heap.size]? = some (.cells #[.int .i64 2, .int .i64 oa, .int .i64 ob, .slice la L.length lc, .slice ma M'.length mc] 52 (0, 0)) := by rw [← hW1]; exact heap_new _ _
            have HU1 := hide (HU.out.below hb1)
            have HOB := hide hO
            have HW1 := hide hW1
            have HLT1 : Hid (wr.heap.size < W1.heap.size) := (Array.getElem?_eq_some_iff.1 hO).1
            have HAD := hide (Shorten_step S w W1 d jj M tl HT.out HU1.out.jl ma mc M' HRR.out.2 (by have := wgA_len M'; have := HWK.out; omega) (fun q hq => by have := wgA_mem hq; have := (bodN_wg q).2; have := HWK.out; omega) (by have := logN_wg M'; have := HWK.out; omega))
            clear hb1 hO hW1
            rw [HW1.out]
            refine HAD.out.mono ?_
            rintro e w2 ⟨m, rfl, S', hS', hj', hK', hcase⟩
            have HK2 : Hid ((∀ q, S' q → S q ∨ W1.heap.size ≤ q) ∧ ¬ S' jj ∧ Kp (fun k => S k ∨ k = jj) W1 w2) := ⟨hS', hj', hK'⟩
            obtain ⟨hbb2, hnb2, hlr2⟩ := HU1.out.step hS' hK'
            have hbw2 : Below w.heap.size w w2 := HU1.out.bel.trans (hK'.toBelow HU1.out.bel.size (fun q hq hs => by have := (HU1.out.jl.at q hs).1; omega))
            have hO2 : w2.heap[wr.heap.size]? = some (.cells #[.int .i64 2, .int .i64 oa, .int .i64 ob, .slice la L.length lc, .slice ma M'.length mc] 52 (0, 0)) := (hK'.block HLT1.out (fun hs => by have := (HU.out.jl.at _ hs).2; omega)).trans HOB.out
            have o3 : w2.cell? ⟨wr.heap.size, 3, none⟩ = some (.slice la L.length lc) := cellOf hO2 3 _ rfl
            have o4 : w2.cell? ⟨wr.heap.size, 4, none⟩ = some (.slice ma M'.length mc) := cellOf hO2 4 _ rfl
            have HWI := hide (without_lr hbw2 ma mc HRR.out.2 (by have := wgA_len M'; have := HWK.out; omega))
            have HCS := hide hcase
            clear hcase hS' hj' hK' hbb2 hnb2 hlr2 hbw2 hO2 o3
            rcases HCS.out with ⟨rfl, tl', hJ⟩ | ⟨hm, tl', hJ⟩ | ⟨rfl, hJ, hN⟩
            · have HJ := hide hJ
              clear hJ HCS
              go_wp2_with fail
              refine HWI.out.mono ?_
              rintro e2 w3 ⟨va, vn, vc, Z, rfl, hw3, hq3, hz3, hb3⟩
              have HX3 := hide (And.intro hw3 (And.intro hq3 hz3))
              have HB3 := hide hb3
              clear hw3 hq3 hz3 hb3

              have HBB3 := hide ((HU1.out.step HK2.out.1 HK2.out.2.2).1.below HB3.out)
              have HDN := hide (done_ok (HBB3.out) va vn vc)
              clear HBB3
              go_wp2_with fail
              refine HDN.out.mono ?_
              rintro e w4 ⟨rfl, hw4⟩
              have HUA : Hid (∃ S M tl nv tv li, UJ S w w4 d b jj tl M nv tv li) := ⟨_, _, _, _, _, _, hw4 ▸ HU1.out.ok HK2.out.1 HK2.out.2.2 HJ.out HB3.out HX3.out.1 HX3.out.2.1 HX3.out.2.2⟩
              clear hw4 HDN
              obtain ⟨SA, MA, tlA, nvA, tvA, liA, huA⟩ := HUA.out
              have HUP := hide huA.up
              clear huA
              go_wp2_with fail
              refine HUP.out.mono ?_
              rintro e wz ⟨rfl, huz⟩
              have HUZ := hide huz
              clear huz HUP
              go_wp2
              exact ⟨⟨k + 1, jj, by omega, by go_num, rfl, HUZ.out⟩, by simp [intOf]; omega⟩
            · have HJ := hide hJ
              clear hJ HCS
              go_wp2_with fail
              refine HWI.out.mono ?_
              rintro e2 w3 ⟨va, vn, vc, Z, rfl, hw3, hq3, hz3, hb3⟩
              have HX3 := hide (And.intro hw3 (And.intro hq3 hz3))
              have HB3 := hide hb3
              clear hw3 hq3 hz3 hb3

              have HDN := hide (done_else m hm (wi := w3) (b := b) (.slice va vn vc))
              clear hm
              go_wp2_with fail
              refine HDN.out.mono ?_
              rintro e w4 ⟨rfl, hw4⟩
              have HUA : Hid (∃ S M tl nv tv li, UJ S w w4 d b jj tl M nv tv li) := ⟨_, _, _, _, _, _, hw4 ▸ HU1.out.refused HK2.out.1 HK2.out.2.2 HJ.out HB3.out⟩
              clear hw4 HDN
              obtain ⟨SA, MA, tlA, nvA, tvA, liA, huA⟩ := HUA.out
              have HUP := hide huA.up
              clear huA
              go_wp2_with fail
              refine HUP.out.mono ?_
              rintro e wz ⟨rfl, huz⟩
              have HUZ := hide huz
              clear huz HUP
              go_wp2
              exact ⟨⟨k + 1, jj, by omega, by go_num, rfl, HUZ.out⟩, by simp [intOf]; omega⟩
            · have HJ := hide (And.intro hJ hN)
              clear hJ hN HCS
              go_wp2_with fail
              refine HWI.out.mono ?_
              rintro e2 w3 ⟨va, vn, vc, Z, rfl, hw3, hq3, hz3, hb3⟩
              have HX3 := hide (And.intro hw3 (And.intro hq3 hz3))
              have HB3 := hide hb3
              clear hw3 hq3 hz3 hb3

              have HBB3 := hide ((HU1.out.step HK2.out.1 HK2.out.2.2).1.below HB3.out)
              have HDN := hide (done_three (HBB3.out) va vn vc)
              clear HBB3
              go_wp2_with fail
              refine HDN.out.mono ?_
              rintro e w4 ⟨rfl, hw4⟩
              have HUD : Hid (∃ S, UD S w w4 d b jj) := ⟨_, hw4 ▸ HU1.out.fell HK2.out.1 HK2.out.2.2 HK2.out.2.1 HJ.out.1 HJ.out.2 HB3.out HX3.out.1 HX3.out.2.1 HX3.out.2.2⟩
              clear hw4 HDN
              obtain ⟨SB, huB⟩ := HUD.out
              have HUP := hide huB.up
              clear huB
              go_wp2_with fail
              refine HUP.out.mono ?_
              rintro e wy ⟨rfl, SC, huC⟩
              have HUC := hide huC
              clear huC HUP HUD
              obtain ⟨Wy1, hWy⟩ : ∃ W, (wy.alloc (.cells #[.int .u8 1] 5)).alloc (.cells #[.slice (some ⟨wy.heap.size, 0, none⟩) 1 1] 23) = W := ⟨_, rfl⟩
              have hby : Below wy.heap.size wy Wy1 := by rw [← hWy]; exact bel1 (bel1 (Below.refl _ _) (Nat.le_refl _) _) (by simp only [World.size_alloc]; omega) _
              have HAD2 := hide ((HUC.out.below hby).add (some ⟨wy.heap.size + 1, 0, none⟩) 1 1)
              have HWY := hide hWy
              clear hby hWy
              go_wp2_with fail
              rw [HWY.out]
              refine HAD2.out.mono ?_
              rintro e wx ⟨rfl, SD, huD⟩
              have HSH := hide (Shorten_nil huD.jn none 0 0)
              have HUD2 := hide huD
              clear huD HAD2
              go_wp2_with fail
              refine HSH.out.mono ?_
              rintro e wx2 ⟨rfl, hbx⟩
              have HTK := hide ((HUD2.out.below hbx).taken g HE.out HT.out)
              clear hbx HSH HUD2 HUC HWY
              go_wp2_with fail
              refine HTK.out.mono ?_
              rintro e wx3 ⟨jn, rfl, huj, hjn⟩
              have HUJ3 := hide huj
              have HJN := hide hjn
              clear huj hjn HTK
              obtain ⟨Wz1, hWz⟩ : ∃ W, (wx3.alloc (.cells #[.int .u8 1] 5)).alloc (.cells #[.slice (some ⟨wx3.heap.size, 0, none⟩) 1 1] 23) = W := ⟨_, rfl⟩
              have hbz : Below wx3.heap.size wx3 Wz1 := by rw [← hWz]; exact bel1 (bel1 (Below.refl _ _) (Nat.le_refl _) _) (by simp only [World.size_alloc]; omega) _
              have HAN := hide (Add_nil (HJN.out.below hbz) (some ⟨wx3.heap.size + 1, 0, none⟩) 1 1)
              have HBZ := hide hbz
              have HWZ := hide hWz
              clear hbz hWz
              go_wp2_with fail
              rw [HWZ.out]
              refine HAN.out.mono ?_
              rintro e wx4 ⟨rfl, hb4⟩
              have HUZ : Hid (∃ S M tl nv tv li, UJ S w wx4 d b jn tl M nv tv li) := by
                obtain ⟨S9, M9, tl9, nv9, tv9, li9, h9⟩ := HUJ3.out
                exact ⟨S9, M9, tl9, nv9, tv9, li9, h9.below (belOn HBZ.out HBZ.out.size hb4)⟩
              clear hb4 HAN
              go_wp2
              exact ⟨⟨k + 1, jn, by omega, by go_num, rfl, HUZ.out⟩, by simp [intOf]; omega⟩
          by_cases h5 : ok = 5
          · subst h5
            go_wp2_with fail
            obtain ⟨W1, hW1⟩ : ∃ W1, wr.alloc (.cells #[.int .i64 5, .int .i64 oa, .int .i64 ob, .slice la L.length lc, .slice ma M'.length mc] 52) = W1 := ⟨_, rfl⟩
            have hb1 : Below wr.heap.size wr W1 := by rw [← hW1]; exact bel1 (Below.refl _ _) (Nat.le_refl _) _
            have hO : W1.heap[wr.heap.size]? = some (.cells #[.int .i64 5, .int .i64 oa, .int .i64 ob, .slice la L.length lc, .slice ma M'.length mc] 52 (0, 0)) := by rw [← hW1]; exact heap_new _ _
            have HU1 := hide (HU.out.below hb1)
            have HOB := hide hO
            have HW1 := hide hW1
            have HLT1 : Hid (wr.heap.size < W1.heap.size) := (Array.getElem?_eq_some_iff.1 hO).1
            have HAR := hide (HU1.out.arm oa ob HZZ.out.2.1.2 HZZ.out.2.2.1)
            clear hb1 hO hW1
            rw [HW1.out]
            refine HAR.out.mono ?_
            rintro e w4 ⟨rfl, S4, tl4, hu4⟩
            have HUA : Hid (∃ S M tl nv tv li, UJ S w w4 d b jj tl M nv tv li) := ⟨_, _, _, _, _, _, hu4⟩
            clear hu4 HAR
            obtain ⟨SA, MA, tlA, nvA, tvA, liA, huA⟩ := HUA.out
            have HUP := hide huA.up
            clear huA
            go_wp2_with fail
            refine HUP.out.mono ?_
            rintro e wz ⟨rfl, huz⟩
            have HUZ := hide huz
            clear huz HUP
            go_wp2
            exact ⟨⟨k + 1, jj, by omega, by go_num, rfl, HUZ.out⟩, by simp [intOf]; omega⟩
          by_cases h6 : ok = 6
          · subst h6
            go_wp2_with fail
            obtain ⟨W1, hW1⟩ : ∃ W1, wr.alloc (.cells #[.int .i64 6, .int .i64 oa, .int .i64 ob, .slice la L.length lc, .slice ma M'.length mc] 52) = W1 := ⟨_, rfl⟩
            have hb1 : Below wr.heap.size wr W1 := by rw [← hW1]; exact bel1 (Below.refl _ _) (Nat.le_refl _) _
            have hO : W1.heap[wr.heap.size]? = some (.cells #[.int .i64 6, .int .i64 oa, .int .i64 ob, .slice la L.length lc, .slice ma M'.length mc] 52 (0, 0)) := by rw [← hW1]; exact heap_new _ _
            have HU1 := hide (HU.out.below hb1)
            have HOB := hide hO
            have HW1 := hide hW1
            have HLT1 : Hid (wr.heap.size < W1.heap.size) := (Array.getElem?_eq_some_iff.1 hO).1
            have HAR := hide (HU1.out.fails oa HZZ.out.2.1)
            clear hb1 hO hW1
            rw [HW1.out]
            refine HAR.out.mono ?_
            rintro e w4 ⟨rfl, hu4⟩
            have HUD : Hid (∃ S, UC S w w4 d b jj) := hu4
            clear hu4 HAR
            obtain ⟨SB, huB⟩ := HUD.out
            have HUP := hide huB.up
            clear huB
            go_wp2_with fail
            refine HUP.out.mono ?_
            rintro e wy ⟨rfl, SC, huC⟩
            have HUC := hide huC
            clear huC HUP HUD
            obtain ⟨Wy1, hWy⟩ : ∃ W, (wy.alloc (.cells #[.int .u8 1] 5)).alloc (.cells #[.slice (some ⟨wy.heap.size, 0, none⟩) 1 1] 23) = W := ⟨_, rfl⟩
            have hby : Below wy.heap.size wy Wy1 := by rw [← hWy]; exact bel1 (bel1 (Below.refl _ _) (Nat.le_refl _) _) (by simp only [World.size_alloc]; omega) _
            have HAD2 := hide ((HUC.out.below hby).add (some ⟨wy.heap.size + 1, 0, none⟩) 1 1)
            have HWY := hide hWy
            clear hby hWy
            go_wp2_with fail
            rw [HWY.out]
            refine HAD2.out.mono ?_
            rintro e wx ⟨rfl, SD, huD⟩
            have HSH := hide (Shorten_nil huD.jn none 0 0)
            have HUD2 := hide huD
            clear huD HAD2
            go_wp2_with fail
            refine HSH.out.mono ?_
            rintro e wx2 ⟨rfl, hbx⟩
            have HTK := hide ((HUD2.out.below hbx).taken g HE.out HT.out)
            clear hbx HSH HUD2 HUC HWY
            go_wp2_with fail
            refine HTK.out.mono ?_
            rintro e wx3 ⟨jn, rfl, huj, hjn⟩
            have HUJ3 := hide huj
            have HJN := hide hjn
            clear huj hjn HTK
            obtain ⟨Wz1, hWz⟩ : ∃ W, (wx3.alloc (.cells #[.int .u8 1] 5)).alloc (.cells #[.slice (some ⟨wx3.heap.size, 0, none⟩) 1 1] 23) = W := ⟨_, rfl⟩
            have hbz : Below wx3.heap.size wx3 Wz1 := by rw [← hWz]; exact bel1 (bel1 (Below.refl _ _) (Nat.le_refl _) _) (by simp only [World.size_alloc]; omega) _
            have HAN := hide (Add_nil (HJN.out.below hbz) (some ⟨wx3.heap.size + 1, 0, none⟩) 1 1)
            have HBZ := hide hbz
            have HWZ := hide hWz
            clear hbz hWz
            go_wp2_with fail
            rw [HWZ.out]
            refine HAN.out.mono ?_
            rintro e wx4 ⟨rfl, hb4⟩
            have HUZ : Hid (∃ S M tl nv tv li, UJ S w wx4 d b jn tl M nv tv li) := by
              obtain ⟨S9, M9, tl9, nv9, tv9, li9, h9⟩ := HUJ3.out
              exact ⟨S9, M9, tl9, nv9, tv9, li9, h9.below (belOn HBZ.out HBZ.out.size hb4)⟩
            clear hb4 HAN
            go_wp2
            exact ⟨⟨k + 1, jn, by omega, by go_num, rfl, HUZ.out⟩, by simp [intOf]; omega⟩
          by_cases h4 : ok = 4
          · subst h4
            go_wp2_with fail
            obtain ⟨W1, hW1⟩ : ∃ W1, wr.alloc (.cells #[.int .i64 4, .int .i64 oa, .int .i64 ob, .slice la L.length lc, .slice ma M'.length mc] 52) = W1 := ⟨_, rfl⟩
            have hb1 : Below wr.heap.size wr W1 := by rw [← hW1]; exact bel1 (Below.refl _ _) (Nat.le_refl _) _
            have hO : W1.heap[wr.heap.size]? = some (.cells #[.int .i64 4, .int .i64 oa, .int .i64 ob, .slice la L.length lc, .slice ma M'.length mc] 52 (0, 0)) := by rw [← hW1]; exact heap_new _ _
            have HU1 := hide (HU.out.below hb1)
            have HOB := hide hO
            have HW1 := hide hW1
            have HLT1 : Hid (wr.heap.size < W1.heap.size) := (Array.getElem?_eq_some_iff.1 hO).1
            have HAR := hide (HU1.out.again g HE.out HT.out)
            clear hb1 hO hW1
            rw [HW1.out]
            refine HAR.out.mono ?_
            rintro e w4 ⟨jn, rfl, hu4⟩
            have HUA : Hid (∃ S M tl nv tv li, UJ S w w4 d b jn tl M nv tv li) := hu4
            clear hu4 HAR
            obtain ⟨SA, MA, tlA, nvA, tvA, liA, huA⟩ := HUA.out
            have HUP := hide huA.up
            clear huA
            go_wp2_with fail
            refine HUP.out.mono ?_
            rintro e wz ⟨rfl, huz⟩
            have HUZ := hide huz
            clear huz HUP
            go_wp2
            exact ⟨⟨k + 1, jn, by omega, by go_num, rfl, HUZ.out⟩, by simp [intOf]; omega⟩
          obtain ⟨W1, hW1⟩ : ∃ W1, wr.alloc (.cells #[.int .i64 ok, .int .i64 oa, .int .i64 ob, .slice la L.length lc, .slice ma M'.length mc] 52) = W1 := ⟨_, rfl⟩
          have hb1 : Below wr.heap.size wr W1 := by rw [← hW1]; exact bel1 (Below.refl _ _) (Nat.le_refl _) _
          have HU1 := hide (HU.out.below hb1)
          have HUP := hide HU1.out.up
          have e1 : (ok == 1) = false := beq_eq_false_iff_ne.2 h1
          have e2 : (ok == 2) = false := beq_eq_false_iff_ne.2 h2
          have e5 : (ok == 5) = false := beq_eq_false_iff_ne.2 h5
          have e6 : (ok == 6) = false := beq_eq_false_iff_ne.2 h6
          have e4 : (ok == 4) = false := beq_eq_false_iff_ne.2 h4
          have HW1 := hide hW1
          clear h1 h2 h5 h6 h4 hb1 hW1
          go_wp2_with fail
          rw [HW1.out]
          refine HUP.out.mono ?_
          rintro e wz ⟨rfl, huz⟩
          have HUZ := hide huz
          clear huz HUP
          go_wp2
          exact ⟨⟨k + 1, jj, by omega, by go_num, rfl, HUZ.out⟩, by simp [intOf]; omega⟩
        · have hkn' : k = n := by omega
          obtain ⟨S, M, tl, nv, tv, li, hU⟩ := HI.out
          have HFA := hide (hU.falls g HE.out HT.out)
          have hki : ¬ (k : Int) < (n : Int) := by omega
          clear hU HI
          go_wp2_with fail
          refine HFA.out.mono ?_
          rintro e wz ⟨rfl, hup⟩
          have HUP := hide hup
          clear hup HFA
          go_wp2_with fail
          refine HUP.out.mono ?_
          rintro e wy ⟨jn, rfl, hbw⟩
          have HBW := hide hbw
          clear hbw HUP
          go_wp2
          go_ret
          exact ⟨rfl, HBW.out⟩
    · have HN := hide (new_no w1 room (by omega))
      clear hroom hr
      go_wp2_with fail
      refine HN.out.mono ?_
      rintro e w2 ⟨rfl, hb2⟩
      have HB2 : Hid (Below w.heap.size w w2) := belOn HB1.out HB1.out.size hb2
      clear hb2 HN
      go_wp2
      go_ret
      exact ⟨rfl, HB2.out⟩
  · clear HBB HLV
    go_wp2
    go_ret
    exact ⟨rfl, Below.refl _ _⟩
end Go.Proofs.YtdcoafpenkofoaaGreatDoor
