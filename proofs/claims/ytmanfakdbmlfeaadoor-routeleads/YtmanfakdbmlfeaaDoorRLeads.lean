
/- RouteLeads: the walk. -/
import Derived.Test.YtmanfakdbmlfeaaDoorRLdM
import Derived.Test.YtmanfakdbmlfeaaDoorRDrop
import Derived.Test.YtmanfakdbmlfeaaDoorRBindN
import Derived.Test.YtmanfakdbmlfeaaDoorRAwk
namespace Go.Proofs.YtmanfakdbmlfeaaDoor
open Go.RowKit Go.Maps
set_option linter.unusedVariables false
set_option linter.unusedSimpArgs false
def cntQ (L : List Bd) (d : ByteArray) : Nat := (L.filter fun b => decide (b.2 = d)).length
theorem cnt_split : ∀ (L : List Bd) (d : ByteArray), (L.filter fun b => !decide (b.2 = d)).length + cntQ L d = L.length
  | [], d => rfl
  | b :: L, d => by
    have := cnt_split L d
    unfold cntQ at *
    by_cases h : b.2 = d <;> simp [h] at * <;> omega
theorem bind_zero {L : List Bd} {b : Bd} (h : bindE L b = 0) : bindL L b = b :: L ∧ patB (pcs b.1) = true ∧ L.length ≠ 256 ∧ bindE (b :: L) b = 181 ∧ bindL (b :: L) b = b :: L := by
  have e : bindE (b :: L) b = 181 := by
    unfold bindE at h ⊢
    cases h1 : patB (pcs b.1) <;> cases h2 : nam b.2 <;> simp [h1, h2] at h ⊢
    simp [hasB]
  refine ⟨by unfold bindL; rw [if_pos h], ?_, ?_, e, by unfold bindL; rw [e]; rfl⟩
  · unfold bindE at h
    cases h1 : patB (pcs b.1) <;> simp [h1] at h ⊢
  · intro hl
    unfold bindE at h
    cases h1 : patB (pcs b.1) <;> cases h2 : nam b.2 <;> cases h3 : hasB L b <;> simp [h1, h2, h3, hl] at h
theorem bind_not {L : List Bd} {b : Bd} (h : bindE L b ≠ 0) : bindL L b = L := by unfold bindL; rw [if_neg h]
theorem fitB_no' {a t : ByteArray} (ht : topB (pcs t) = false) : fitB a t = false := by unfold fitB; rw [ht]; simp
/-- the router so far -/
structure Lds (w : World) (r m : Nat) (L : List Bd) : Prop where
  rt : RtM w r m L
  len : L.length ≤ 256
  good : ∀ b, b ∈ L → goodB b
set_option maxRecDepth 100000 in
set_option maxHeartbeats 8000000 in
theorem leads_walk (B : List Bd) (a : Option Addr) (c : Nat) (t d : ByteArray) (w : World) (hB : B.length ≤ 4611686018427387904) (ht : t.size ≤ 281474976710656)
    (hx : ∀ (i : Nat) (x : Bd), B[i]? = some x → x.1.size ≤ 281474976710656 ∧ x.2.size ≤ 281474976710656 ∧ ∃ g o, a = some ⟨g, o, none⟩ ∧ B.length ≤ c ∧ ∀ W', Below w.heap.size w W' → W'.cell? ⟨g, o + i * 2, none⟩ = some (.string x.1) ∧ W'.cell? ⟨g, o + i * 2 + 1, none⟩ = some (.string x.2)) :
    Calls Tryd.prog 7 #[.slice a B.length c, .string t, .string d] w fun e w' => e = .returned (.bool true) ∧ Below w.heap.size w w' := by
  have HX := hide hx
  clear hx
  go_enter Tryd.func7, Tryd.ntmps7
  go_wp2_with fail
  refine (awake_any w).mono ?_
  rintro e w0 ⟨rfl, hb0⟩
  go_wp2_with fail
  refine (new_any w0).mono ?_
  rintro e w1 ⟨r, m, rfl, hR, hr, hm, hb1⟩
  have HB1 : Hid (Below w.heap.size w w1) := belOn hb0 hb0.size hb1
  have hrm : w.heap.size ≤ r ∧ w.heap.size ≤ m := ⟨Nat.le_trans hb0.size hr, Nat.le_trans hb0.size hm⟩
  have HL1 : Hid (Lds w1 r m []) := ⟨hR, by simp, fun b hb => by simp at hb⟩
  clear hb0 hb1 hR hr hm
  go_wp2
  go_loopw [9, 10, 11, 12, 13] (fun vn vh vi _ _ wr => ∃ (k : Nat) (L : List Bd), k ≤ B.length ∧ vi = .int .i64 k ∧ vn = .int .i64 (L.length : Int) ∧ vh = .int .i64 (cntQ L d : Int) ∧ Hid (Lds wr r m L) ∧ Below w.heap.size w wr) (fun _ _ vi _ _ _ => B.length - (intOf vi).toNat)
  case atStart => exact ⟨0, [], Nat.zero_le _, rfl, rfl, rfl, HL1.out, HB1.out⟩
  case round =>
    obtain ⟨k, L, hk, rfl, rfl, rfl, HL, hb⟩ := hrel
    have HB := hide hb
    clear hb
    by_cases hkn : k < B.length
    · obtain ⟨⟨p, q⟩, hx⟩ : ∃ x, B[k]? = some x := ⟨_, List.getElem?_eq_getElem hkn⟩
      obtain ⟨z1, z2, g, o, rfl, hc, hcell⟩ := HX.out k (p, q) hx
      dsimp only at z1 z2 hcell
      have HC := hide hcell
      obtain ⟨c1, c2⟩ := hcell wr HB.out
      have hkz : (k : Int) < (B.length : Int) := by omega
      have hll := HL.out.len
      have HB2 := hide (bind_any wr r m L p q HL.out.rt z1 z2 hll)
      clear hx hcell
      unfold bdV at HB2
      go_wp2_with fail
      refine HB2.out.mono ?_
      rintro e w2 ⟨rfl, hR2, hk2⟩
      have HBe : Hid (Below w.heap.size w w2) := belOn' HB.out hk2 hrm.2 (Nat.le_refl _)
      obtain ⟨c3, c4⟩ := HC.out w2 HBe.out
      by_cases hE : bindE L (p, q) = 0
      · obtain ⟨e1, e2, e3, e4, e5⟩ := bind_zero hE
        rw [e1] at hR2
        have hl3 : (((p, q) :: L : List Bd)).length ≤ 256 := by rw [List.length_cons]; omega
        have HB3 := hide (bind_any w2 r m ((p, q) :: L) p q hR2 z1 z2 hl3)
        have HGD : Hid (∀ b, b ∈ ((p, q) :: L : List Bd) → goodB b) := fun b hb => by
          rcases List.mem_cons.1 hb with rfl | hb
          · exact ⟨e2, z1, z2⟩
          · exact HL.out.good b hb
        rw [e4, e5] at HB3
        rw [hE]
        unfold bdV at HB3
        clear e1 e2 e3 e4 e5 hE hR2 hk2 HB2
        go_wp2_with fail
        refine HB3.out.mono ?_
        rintro e w3 ⟨rfl, hR3, hk3⟩
        have HBf : Hid (Below w.heap.size w w3) := belOn' HBe.out hk3 hrm.2 (Nat.le_refl _)
        have HLn : Hid (Lds w3 r m ((p, q) :: L)) := ⟨hR3, hl3, HGD.out⟩
        obtain ⟨c5, c6⟩ := HC.out w3 HBf.out
        have hlw : IntKind.i64.wrap ((L.length : Int) + 1) = (L.length : Int) + 1 := by rw [IntKind.wrap_i64]; omega
        have hcq := cnt_split L d
        have hcw : IntKind.i64.wrap ((cntQ L d : Int) + 1) = (cntQ L d : Int) + 1 := by rw [IntKind.wrap_i64]; omega
        clear hR3 hk3 HB3 c1 c2 c3 c4 hcq
        by_cases hq : q = d
        · have e6 : (q.toList == d.toList) = true := by rw [str_eq]; simpa using hq
          have HCQ : Hid (cntQ ((p, q) :: L) d = cntQ L d + 1) := by show _ = _; unfold cntQ; simp [hq]
          clear hq
          go_wp2
          go_roundw
          case rel => exact ⟨k + 1, (p, q) :: L, by omega, by simp, by simp, by rw [HCQ.out]; simp, HLn.out, HBf.out⟩
          case measure => first | omega | (simp [intOf]; omega)
        · have e6 : (q.toList == d.toList) = false := by rw [str_eq]; simpa using hq
          have HCQ : Hid (cntQ ((p, q) :: L) d = cntQ L d) := by show _ = _; unfold cntQ; simp [hq]
          clear hq
          go_wp2
          go_roundw
          case rel => exact ⟨k + 1, (p, q) :: L, by omega, by simp, by simp, by rw [HCQ.out], HLn.out, HBf.out⟩
          case measure => first | omega | (simp [intOf]; omega)
      · have e1 := bind_not hE
        rw [e1] at hR2
        have HB3 := hide (bind_any w2 r m L p q hR2 z1 z2 hll)
        rw [e1] at HB3
        have hE' : (bindE L (p, q) == 0) = false := by simpa using hE
        unfold bdV at HB3
        generalize bindE L (p, q) = ev at HB3 hE hE' ⊢
        clear e1 hR2 hk2 HB2
        go_wp2_with fail
        refine HB3.out.mono ?_
        rintro e w3 ⟨rfl, hR3, hk3⟩
        have HBf : Hid (Below w.heap.size w w3) := belOn' HBe.out hk3 hrm.2 (Nat.le_refl _)
        have HLn : Hid (Lds w3 r m L) := ⟨hR3, hll, HL.out.good⟩
        clear hR3 hk3 HB3 c1 c2 c3 c4
        go_wp2
        go_roundw
        case rel => exact ⟨k + 1, L, by omega, by simp, rfl, rfl, HLn.out, HBf.out⟩
        case measure => first | omega | (simp [intOf]; omega)
    · have e : k = B.length := by omega
      subst e
      have hll := HL.out.len
      go_wp2_with fail
      refine (Bindings_any wr r m L HL.out.rt (by omega)).mono ?_
      rintro e w2 ⟨v2, W2, rfl, hy2, hp2, hs2, hb2⟩
      obtain ⟨a2, c2, rfl⟩ := hy2.shape
      rw [hp2.length_eq]
      have hR2 := HL.out.rt.keep hb2
      have HB2 : Hid (Below w.heap.size w w2) := belOn HB.out HB.out.size hb2
      clear hy2 hs2 hb2 hp2
      have HDR := hide (drop_any w2 r m L d hR2 hll)
      clear hR2
      have hcs := cnt_split L d
      obtain ⟨L', hL'⟩ : ∃ L', L' = L.filter fun b => !decide (b.2 = d) := ⟨_, rfl⟩
      rw [← hL'] at HDR hcs
      have HGL : Hid (∀ b, b ∈ L' → goodB b ∧ b.2 ≠ d) := fun b hb => by
        rw [hL', List.mem_filter] at hb
        exact ⟨HL.out.good b hb.1, by simpa using hb.2⟩
      have hgn : (L.length : Int) - (L'.length : Int) = (cntQ L d : Int) := by omega
      rw [hgn] at HDR
      clear hL'
      go_wp2_with fail
      refine HDR.out.mono ?_
      rintro e w3 ⟨rfl, hR3, hk3⟩
      have HB3 : Hid (Below w.heap.size w w3) := belOn' HB2.out hk3 hrm.2 (Nat.le_refl _)
      clear hk3 HDR
      go_wp2_with fail
      refine (Bindings_any w3 r m L' hR3 (by omega)).mono ?_
      rintro e w4 ⟨v4, W4, rfl, hy4, hp4, hs4, hb4⟩
      obtain ⟨a4, c4, rfl⟩ := hy4.shape
      have hR4 := hR3.keep hb4
      have hnd4 := hR4.2.2.1
      have hw4 : w.heap.size ≤ w3.heap.size := HB3.out.size
      have HB4 : Hid (Below w.heap.size w w4) := belOn HB3.out HB3.out.size hb4
      have HY4 := hide hy4
      have HS4 := hide hs4
      have HP4 := hide hp4
      have HR4 := hide hR4
      have HND := hide hnd4
      have hl4 : W4.length = L'.length := hp4.length_eq
      have hlw : IntKind.i64.wrap ((L.length : Int) - (cntQ L d : Int)) = (L'.length : Int) := by rw [IntKind.wrap_i64]; omega
      rw [hl4]
      have HL4 := hide hl4
      clear hl4
      clear hy4 hs4 hp4 hb4 hR3 hR4 hnd4
      have hh : patB (pcs bHash) = true := by decide +kernel
      cases hT : topB (pcs t)
      · have HMN := hide (match_no w4 r t ht hT)
        have HFT : Hid (∀ W', Calls Tryd.prog 9 #[.string bHash, .string t] W' fun e w' => e = .returned (.tuple #[.bool false, .int .i64 82]) ∧ Below W'.heap.size W' w') := fun W' => by
          have := Fits_any bHash t (by decide) ht W'
          rw [fitB_no' hT, show fitE bHash t = 82 by unfold fitE; rw [hh, hT]; rfl] at this
          exact this
        clear hT hh
        go_wp2_with fail
        refine HMN.out.mono ?_
        rintro e w5 ⟨rfl, hb5⟩
        have HB5 : Hid (Below w.heap.size w w5) := belOn HB4.out HB4.out.size hb5
        clear hb5
        go_wp2_with fail
        refine (HFT.out _).mono ?_
        rintro e w6 ⟨rfl, hb6⟩
        have HB6 : Hid (Below w.heap.size w w6) := belOn HB5.out HB5.out.size hb6
        clear hb6
        go_wp2
        go_ret
        exact ⟨rfl, HB6.out⟩
      · have HMY := hide (match_yes w4 r m L' t HR4.out (fun b hb => (HGL.out b hb).1) (by omega) ht hT)
        have HFT : Hid (∀ W', Calls Tryd.prog 9 #[.string bHash, .string t] W' fun e w' => e = .returned (.tuple #[.bool (fitB bHash t), .int .i64 0]) ∧ Below W'.heap.size W' w') := fun W' => by
          have := Fits_any bHash t (by decide) ht W'
          rw [show fitE bHash t = 0 by unfold fitE; rw [hh, hT]; rfl] at this
          exact this
        have HT := hide hT
        clear hT hh
        go_wp2_with fail
        refine HMY.out.mono ?_
        rintro e w5 ⟨v5, Q5, rfl, hy5, hq5, hb5⟩
        have HB5 : Hid (Below w.heap.size w w5) := belOn HB4.out HB4.out.size hb5
        obtain ⟨a5, c5, rfl⟩ := hy5.shape
        have HY5 := hide hy5
        have HK5 := hide hb5
        have HLD := hide (ldb_of (d := d) HP4.out HS4.out HND.out (fun b hb => (HGL.out b hb).1) (fun b hb => (HGL.out b hb).2) HT.out hq5)
        have hl5 : (cmpct (srt Q5)).length ≤ 4096 := by
          have h1 := cmpct_le (srt Q5)
          rw [srt_len, hq5.length_eq] at h1
          have h2 := qof_len t L'
          omega
        clear hy5 hb5 hq5
        go_wp2_with fail
        refine (HFT.out _).mono ?_
        rintro e w6 ⟨rfl, hb6⟩
        have HB6 : Hid (Below w.heap.size w w6) := belOn HB5.out HB5.out.size hb6
        have HK6 : Hid (Below w4.heap.size w4 w6) := belOn HK5.out HK5.out.size hb6
        have HY4' : Hid (Wy BK w6 w.heap.size (.slice a4 W4.length c4) W4) := (HY4.out.base hw4).at fun k hk => HK6.out.block k (HY4.out.lt hk).2
        have HY5' : Hid (Wy SK w6 w.heap.size (.slice a5 (cmpct (srt Q5)).length c5) (cmpct (srt Q5))) := (HY5.out.base HB4.out.size).at fun k hk => hb6.block k (HY5.out.lt hk).2
        have HLE := hide (led_any W4 (cmpct (srt Q5)) t d w.heap.size _ _ w6 HY5'.out HY4'.out HLD.out ht (by have := HL4.out; omega) hl5)
        rw [HL4.out] at HLE
        clear hb6
        generalize (cmpct (srt Q5)).length = n5 at HLE ⊢
        go_wp2_with fail
        refine HLE.out.mono ?_
        rintro e w7 ⟨rfl, hb7⟩
        have HB7 : Hid (Below w.heap.size w w7) := belOn HB6.out HB6.out.size hb7
        clear hb7
        go_wp2
        go_ret
        exact ⟨rfl, HB7.out⟩
end Go.Proofs.YtmanfakdbmlfeaaDoor
