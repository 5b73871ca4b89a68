import Derived.Test.YtdcoafpenkofoaaGreatDoorJOptM9
import Derived.Test.YtdcoafpenkofoaaGreatDoorJSfM9
import Derived.Test.YtdcoafpenkofoaaGreatDoorJWthM9
import Derived.Test.YtdcoafpenkofoaaGreatDoorJTvM9

/- Stage 20: Open of a disk that is down, of a torn log. -/
namespace Go.Proofs.YtdcoafpenkofoaaGreatDoor
open Go.RowKit Go.Maps Go.MuLone
set_option linter.unusedVariables false
set_option linter.unusedSimpArgs false
theorem open_nil (w : World) : Calls Tryz.prog 19 #[.pointer none] w fun e w' => e = .returned (.tuple #[.pointer none, .slice none 0 0, .int .i64 1]) ∧ w' = w := by
  go_enter Tryz.func19, Tryz.ntmps19
  go_wp2
  refine bodyPost_ret (results_tmp3 rfl _ _ _) rfl ?_
  exact ⟨rfl, rfl⟩
theorem open_down (S : Nat → Prop) (w wi : World) (d : Nat) (x : Dx) (F : List Fi) (h : AW S w wi d x F) (hd : x.down = true) :
    Calls Tryz.prog 19 #[.pointer (some ⟨d, 0, none⟩)] wi fun e w' => e = .returned (.tuple #[.pointer none, .slice none 0 0, .int .i64 3]) ∧ Nx S w wi d x F w' := by
  have HU := hide (aw_up h)
  have hdt : (!x.down) = false := by rw [hd]; rfl
  rw [hdt] at HU
  clear h hd hdt
  go_enter Tryz.func19, Tryz.ntmps19
  go_wp2_with fail
  refine HU.out.mono ?_
  rintro e w1 ⟨rfl, hN⟩
  have HN := hide hN
  clear hN
  go_wp2
  refine bodyPost_ret (results_tmp3 rfl _ _ _) rfl ?_
  exact ⟨rfl, HN.out⟩
set_option maxHeartbeats 4000000 in
theorem open_torn (S : Nat → Prop) (w wi : World) (d : Nat) (x : Dx) (F : List Fi) (g : Addr) (hE : Eb w g) (hT : Er w) (h : AW S w wi d x F) (hd : x.down = false) (hn : F.length ≤ 2000000000000) (hl : (dat kG F).1.length ≤ 70368744177664) (hz : (dat kG F).2 ≤ (dat kG F).1.length) (hw : ((wl (dat kG F).1).2.1 : Int) < ((dat kG F).2 : Int) ∧ 2 ≤ (wl (dat kG F).1).2.2) :
    Calls Tryz.prog 19 #[.pointer (some ⟨d, 0, none⟩)] wi fun e w' => e = .returned (.tuple #[.pointer none, .slice none 0 0, .int .i64 201]) ∧ Nx S w wi d x F w' := by
  obtain ⟨l, hlq⟩ : ∃ l, (dat kG F).1 = l := ⟨_, rfl⟩
  obtain ⟨z, hzq⟩ : ∃ z, (dat kG F).2 = z := ⟨_, rfl⟩
  rw [hlq] at hl hz hw
  rw [hzq] at hz hw
  have HLF := hide (fun S1 wi' (h : AW S1 w wi' d x F) => logFile_any S1 w wi' d x F h hn)
  have HU := hide (aw_up h)
  have HE := hide hE
  have HT := hide hT
  have HLQ := hide hlq
  have HZQ := hide hzq
  have hdt : (!x.down) = true := by rw [hd]; rfl
  rw [hdt] at HU
  have hsc : scn l (z : Int) = ([], (wl l).2.1, 201) := by
    unfold scn
    rw [if_neg (by omega), if_pos hw]
  have HSC := hide hsc
  have HHL := hide hl
  clear h hd hn hl hz hw hE hT hlq hzq hdt hsc
  go_enter Tryz.func19, Tryz.ntmps19
  go_wp2_with fail
  refine HU.out.mono ?_
  rintro e w1 ⟨rfl, S1, hS1, hA1, hK1⟩
  have hlf := HLF.out S1 w1 hA1
  rw [HLQ.out, HZQ.out] at hlf
  have HL2 := hide hlf
  have HK1 := hide (And.intro hS1 (And.intro hA1 hK1))
  clear hS1 hA1 hK1 hlf
  go_wp2_with fail
  refine HL2.out.mono ?_
  rintro e w2 ⟨nm, v, rfl, hob, hA2, hK2⟩
  obtain ⟨a, c, rfl, hcc⟩ := hob.slice
  have HK2 := hide hK2
  obtain ⟨W3, hW3⟩ : ∃ W3, w2.alloc (.cells #[.string nm, .slice a l.length c, .int .i64 (z : Int)] 73) = W3 := ⟨_, rfl⟩
  have hb3 : Below w2.heap.size w2 W3 := by rw [← hW3]; exact bel1 (Below.refl _ _) (Nat.le_refl _) _
  have hA3 := hA2.below hb3
  have hrd : Rd W3 a l.length l := by
    obtain ⟨a', c', e, hr⟩ := (hob.below hb3).rb
    simp only [Value.slice.injEq] at e
    obtain ⟨rfl, _, rfl⟩ := e
    exact hr.2.2
  have HSN := hide (scan_any g a c l (z : Int) W3 (HE.out.below hA3.bel) (HT.out.below hA3.bel) hrd hcc HHL.out)
  have HB3 := hide hb3
  have HA3 := hide hA3
  have HW3 := hide hW3
  clear hob hA2 hK2 hW3 hb3 hA3 hrd
  go_wp2_with fail
  rw [HW3.out]
  refine HSN.out.mono ?_
  rintro e w4 ⟨⟨v, Z, rfl, hwy, htl, hbz⟩, hb4⟩
  rw [HSC.out]
  dsimp only
  have HN : Hid (Nx S w wi d x F w4) := ⟨S1, HK1.out.1, HA3.out.below hb4, HK1.out.2.2.transN (HK2.out.below (belOn HB3.out HB3.out.size hb4)) (fun k hk => HK1.out.1 k hk)⟩
  clear hwy htl hbz hb4
  go_wp2
  refine bodyPost_ret (results_tmp3 rfl _ _ _) rfl ?_
  exact ⟨rfl, HN.out⟩
end Go.Proofs.YtdcoafpenkofoaaGreatDoor


/- Stage 20: Open, takeUp failing. -/
namespace Go.Proofs.YtdcoafpenkofoaaGreatDoor
open Go.RowKit Go.Maps Go.MuLone
set_option linter.unusedVariables false
set_option linter.unusedSimpArgs false
set_option maxHeartbeats 4000000 in
theorem open_fell0 (S : Nat → Prop) (w wi : World) (d : Nat) (x : Dx) (F : List Fi) (g : Addr) (hE : Eb w g) (hT : Er w) (h : AW S w wi d x F) (hd : x.down = false) (hn : F.length ≤ 2000000000000) (hl : (dat kG F).1.length ≤ 70368744177664) (hz : (dat kG F).2 ≤ (dat kG F).1.length) (hw : (wl (dat kG F).1).2.2 = 0) (ht : (jTk x F (dat kG F).1.length (dat kG F).2).1 ≠ 0) :
    Calls Tryz.prog 19 #[.pointer (some ⟨d, 0, none⟩)] wi fun e w' => e = .returned (.tuple #[.pointer none, .slice none 0 0, .int .i64 (jTk x F (dat kG F).1.length (dat kG F).2).1]) ∧ Nx S w wi d (jTk x F (dat kG F).1.length (dat kG F).2).2.1 (jTk x F (dat kG F).1.length (dat kG F).2).2.2 w' := by
  obtain ⟨l, hlq⟩ : ∃ l, (dat kG F).1 = l := ⟨_, rfl⟩
  obtain ⟨z, hzq⟩ : ∃ z, (dat kG F).2 = z := ⟨_, rfl⟩
  have hwe := ((wl_end l.length l (Nat.le_refl _)).2.1 (by rw [← hlq]; exact hw))
  rw [hlq] at hl hz hw ht ⊢
  rw [hzq] at hz ht ⊢
  have HLF := hide (fun S1 wi' (h : AW S1 w wi' d x F) => logFile_any S1 w wi' d x F h hn)
  have HU := hide (aw_up h)
  have HTT := hide ht
  have HWW := hide hw
  have HE := hide hE
  have HT := hide hT
  have HLQ := hide hlq
  have HZQ := hide hzq
  have hdt : (!x.down) = true := by rw [hd]; rfl
  rw [hdt] at HU
  have hsc : scn l (z : Int) = ((wl l).1, l.length, 0) := by
    unfold scn
    rw [if_neg (by omega), if_neg (by rw [hw]; omega), hwe]
  have HSC := hide hsc
  have HHL := hide hl
  have HHZ := hide hz
  clear h hd hn hl hz hw ht hE hT hlq hzq hwe hdt hsc
  go_enter Tryz.func19, Tryz.ntmps19
  go_wp2_with fail
  refine HU.out.mono ?_
  rintro e w1 ⟨rfl, S1, hS1, hA1, hK1⟩
  have hlf := HLF.out S1 w1 hA1
  rw [HLQ.out, HZQ.out] at hlf
  have HL2 := hide hlf
  have HK1 := hide (And.intro hS1 (And.intro hA1 hK1))
  clear hS1 hA1 hK1 hlf
  go_wp2_with fail
  refine HL2.out.mono ?_
  rintro e w2 ⟨nm, v, rfl, hob, hA2, hK2⟩
  obtain ⟨a, c, rfl, hcc⟩ := hob.slice
  have HOB := hide hob
  have HA2 := hide hA2
  have HK2 := hide hK2
  obtain ⟨W3, hW3⟩ : ∃ W3, w2.alloc (.cells #[.string nm, .slice a l.length c, .int .i64 (z : Int)] 73) = W3 := ⟨_, rfl⟩
  have hb3 : Below w2.heap.size w2 W3 := by rw [← hW3]; exact bel1 (Below.refl _ _) (Nat.le_refl _) _
  have hB3 : W3.heap[w2.heap.size]? = some (.cells #[.string nm, .slice a l.length c, .int .i64 (z : Int)] 73 (0, 0)) := by rw [← hW3]; exact heap_new _ _
  have hlt3 : w2.heap.size < W3.heap.size := (Array.getElem?_eq_some_iff.1 hB3).1
  have hA3 := hA2.below hb3
  have hrd : Rd W3 a l.length l := by
    obtain ⟨a', c', e, hr⟩ := (hob.below hb3).rb
    simp only [Value.slice.injEq] at e
    obtain ⟨rfl, _, rfl⟩ := e
    exact hr.2.2
  have HSN := hide (scan_any g a c l (z : Int) W3 (HE.out.below hA3.bel) (HT.out.below hA3.bel) hrd hcc HHL.out)
  have HB3 := hide hb3
  have HBb := hide hB3
  have HL3 := hide hlt3
  have HA3 := hide hA3
  have HW3 := hide hW3
  clear hob hA2 hK2 hW3 hb3 hB3 hlt3 hA3 hrd
  go_wp2_with fail
  rw [HW3.out]
  refine HSN.out.mono ?_
  rintro e w4 ⟨⟨v, Z, rfl, hwy, htl, hbz⟩, hb4⟩
  have hc4 := (hb4.block _ HL3.out).trans HBb.out
  have t0 := cellOf hc4 0 (.string nm) rfl
  have t1 := cellOf hc4 1 (.slice a l.length c) rfl
  have t2 := cellOf hc4 2 (.int .i64 (z : Int)) rfl
  have hL4 : w2.heap.size < w4.heap.size := (Array.getElem?_eq_some_iff.1 hc4).1
  rw [HSC.out] at hbz ⊢
  dsimp only at hbz ⊢
  have HY := hide (And.intro hwy (And.intro htl hbz))
  have HB4 := hide hb4
  clear hwy htl hbz hb4
  go_wp2_with fail
  obtain ⟨W5, hW5⟩ : ∃ W5, w4.alloc (.cells #[.pointer (some ⟨d, 0, none⟩), .int .i64 (l.length : Int), .bool false] 114) = W5 := ⟨_, rfl⟩
  have hb5 : Below w4.heap.size w4 W5 := by rw [← hW5]; exact bel1 (Below.refl _ _) (Nat.le_refl _) _
  have hB5 : W5.heap[w4.heap.size]? = some (.cells (jrA d (l.length : Int) false) 114 (0, 0)) := by rw [← hW5]; exact heap_new _ _
  have hA4 := HA3.out.below HB4.out
  have hJ5 : JS S1 w W5 d w4.heap.size x F (l.length : Int) false := ⟨hA4.below hb5, fun hs => by have := (hA4.at_ _ hs).2; omega, hA4.bel.size, hB5⟩
  have HTK := hide (takeUp_no S1 w W5 d w4.heap.size x F (l.length : Int) hJ5 nm a l.length c z)
  have HB5 := hide hb5
  have HW5 := hide hW5
  have hlt5 : w4.heap.size < W5.heap.size := (Array.getElem?_eq_some_iff.1 hB5).1
  have HL5 := hide hlt5
  have HA0 : Hid (amV 0 = .nilIface) := rfl
  clear hW5 hb5 hB5 hA4 hJ5 hlt5
  rw [HW5.out]
  refine HTK.out.mono ?_
  rintro e w6 ⟨rfl, S6, hS6, hJ6, hK6⟩
  have hk35 : Below w2.heap.size w2 W5 := belOn (belOn HB3.out HB3.out.size HB4.out) (Nat.le_trans HB3.out.size HB4.out.size) HB5.out
  have HKA : Hid (Kp S wi w6) := (HK1.out.2.2.transN (((HK2.out.below hk35).trans hK6)) (fun k hk => HK1.out.1 k hk))
  have HSA : Hid (∀ q, S6 q → S q ∨ wi.heap.size ≤ q) := fun q hq => by
    rcases hS6 q hq with h | h
    · exact HK1.out.1 q h
    · have := HK1.out.2.2.size
      have := HK2.out.size
      have := hk35.size
      exact .inr (by omega)
  have HA6 := hide hJ6.aw
  have HTW : Hid (Er w6) := HT.out.below hJ6.aw.bel
  clear hS6 hJ6 hK6 hk35
  obtain ⟨R, hR⟩ : ∃ R, jTk x F l.length z = R := ⟨_, rfl⟩
  rw [hR] at HTT HA6 ⊢
  have HA : Hid (amV R.1 = .iface 82 (.int .i64 R.1)) := if_neg HTT.out
  have HER := hide (errnoOf_any R.1 w6 HTW.out)
  rw [HA.out] at HER ⊢
  have HRR := hide hR
  clear hR
  go_wp2_with fail
  refine HER.out.mono ?_
  rintro e w7 ⟨rfl, hb7⟩
  have HN : Hid (Nx S w wi d R.2.1 R.2.2 w7) := ⟨S6, HSA.out, HA6.out.below hb7, HKA.out.below hb7⟩
  clear hb7
  go_wp2
  refine bodyPost_ret (results_tmp3 rfl _ _ _) rfl ?_
  rw [HRR.out]
  exact ⟨rfl, HN.out⟩
set_option maxHeartbeats 4000000 in
theorem open_fell1 (S : Nat → Prop) (w wi : World) (d : Nat) (x : Dx) (F : List Fi) (g : Addr) (hE : Eb w g) (hT : Er w) (h : AW S w wi d x F) (hd : x.down = false) (hn : F.length ≤ 2000000000000) (hl : (dat kG F).1.length ≤ 70368744177664) (hz : (dat kG F).2 ≤ (dat kG F).1.length) (hw : ¬ (((wl (dat kG F).1).2.1 : Int) < ((dat kG F).2 : Int) ∧ 2 ≤ (wl (dat kG F).1).2.2)) (hm : (wl (dat kG F).1).2.1 < (dat kG F).1.length)
    (h1 : (jCl (jCl x F).2.1 (jCl x F).2.2).2.2.length + 1 ≤ maxLen) (h2 : (jWr (jCl (jCl x F).2.1 (jCl x F).2.2).2.1 (jCl (jCl x F).2.1 (jCl x F).2.2).2.2 kN ((dat kG F).1.take (wl (dat kG F).1).2.1)).2.2.length + 1 ≤ maxLen) (ht : (jTu x F ((dat kG F).1.take (wl (dat kG F).1).2.1) (dat kG F).1.length (dat kG F).2).1 ≠ 0) :
    Calls Tryz.prog 19 #[.pointer (some ⟨d, 0, none⟩)] wi fun e w' => e = .returned (.tuple #[.pointer none, .slice none 0 0, .int .i64 (jTu x F ((dat kG F).1.take (wl (dat kG F).1).2.1) (dat kG F).1.length (dat kG F).2).1]) ∧ Nx S w wi d (jTu x F ((dat kG F).1.take (wl (dat kG F).1).2.1) (dat kG F).1.length (dat kG F).2).2.1 (jTu x F ((dat kG F).1.take (wl (dat kG F).1).2.1) (dat kG F).1.length (dat kG F).2).2.2 w' := by
  obtain ⟨l, hlq⟩ : ∃ l, (dat kG F).1 = l := ⟨_, rfl⟩
  obtain ⟨z, hzq⟩ : ∃ z, (dat kG F).2 = z := ⟨_, rfl⟩
  rw [hlq] at hl hz hw hm h2 ht ⊢
  rw [hzq] at hz hw ht ⊢
  have HLF := hide (fun S1 wi' (h : AW S1 w wi' d x F) => logFile_any S1 w wi' d x F h hn)
  have HU := hide (aw_up h)
  have HE := hide hE
  have HT := hide hT
  have HLQ := hide hlq
  have HZQ := hide hzq
  have hdt : (!x.down) = true := by rw [hd]; rfl
  rw [hdt] at HU
  obtain ⟨m, hmq⟩ : ∃ m, (wl l).2.1 = m := ⟨_, rfl⟩
  have hsc : scn l (z : Int) = ((wl l).1, m, 0) := by
    unfold scn
    rw [if_neg (by omega), if_neg hw, hmq]
  rw [hmq] at hm h2 ht ⊢
  have HTT := hide ht
  have HM := hide hm
  have H1 := hide h1
  have H2 := hide h2
  have HSC := hide hsc
  have HHL := hide hl
  have HHZ := hide hz
  clear h hd hn hl hz hw ht hE hT hlq hzq hdt hsc hm h1 h2 hmq
  go_enter Tryz.func19, Tryz.ntmps19
  go_wp2_with fail
  refine HU.out.mono ?_
  rintro e w1 ⟨rfl, S1, hS1, hA1, hK1⟩
  have hlf := HLF.out S1 w1 hA1
  rw [HLQ.out, HZQ.out] at hlf
  have HL2 := hide hlf
  have HK1 := hide (And.intro hS1 (And.intro hA1 hK1))
  have HA1 := hide hA1
  clear hS1 hA1 hK1 hlf
  go_wp2_with fail
  refine HL2.out.mono ?_
  rintro e w2 ⟨nm, v, rfl, hob, hA2, hK2⟩
  obtain ⟨a, c, rfl, hcc⟩ := hob.slice
  have HAN : Hid (a = none → c = 0) := by
    obtain ⟨a', c', e, h, _⟩ := hob.rb
    simp only [Value.slice.injEq] at e
    obtain ⟨rfl, _, rfl⟩ := e
    exact h
  have HOBL : Hid (∀ b, (Value.slice a l.length c).ownBlock = some b → w1.heap.size ≤ b) := fun b hb => (hob.lt b hb).1
  have HOB := hide hob
  have HA2 := hide hA2
  have HK2 := hide hK2
  obtain ⟨W3, hW3⟩ : ∃ W3, w2.alloc (.cells #[.string nm, .slice a l.length c, .int .i64 (z : Int)] 73) = W3 := ⟨_, rfl⟩
  have hb3 : Below w2.heap.size w2 W3 := by rw [← hW3]; exact bel1 (Below.refl _ _) (Nat.le_refl _) _
  have hB3 : W3.heap[w2.heap.size]? = some (.cells #[.string nm, .slice a l.length c, .int .i64 (z : Int)] 73 (0, 0)) := by rw [← hW3]; exact heap_new _ _
  have hlt3 : w2.heap.size < W3.heap.size := (Array.getElem?_eq_some_iff.1 hB3).1
  have hA3 := hA2.below hb3
  have hrd : Rd W3 a l.length l := by
    obtain ⟨a', c', e, hr⟩ := (hob.below hb3).rb
    simp only [Value.slice.injEq] at e
    obtain ⟨rfl, _, rfl⟩ := e
    exact hr.2.2
  have HRD3 := hide hrd
  have HSN := hide (scan_any g a c l (z : Int) W3 (HE.out.below hA3.bel) (HT.out.below hA3.bel) hrd hcc HHL.out)
  have HB3 := hide hb3
  have HBb := hide hB3
  have HL3 := hide hlt3
  have HA3 := hide hA3
  have HW3 := hide hW3
  clear hob hA2 hK2 hW3 hb3 hB3 hlt3 hA3 hrd
  go_wp2_with fail
  rw [HW3.out]
  refine HSN.out.mono ?_
  rintro e w4 ⟨⟨v, Z, rfl, hwy, htl, hbz⟩, hb4⟩
  have hc4 := (hb4.block _ HL3.out).trans HBb.out
  have t0 := cellOf hc4 0 (.string nm) rfl
  have t1 := cellOf hc4 1 (.slice a l.length c) rfl
  have t2 := cellOf hc4 2 (.int .i64 (z : Int)) rfl
  have hL4 : w2.heap.size < w4.heap.size := (Array.getElem?_eq_some_iff.1 hc4).1
  rw [HSC.out] at hbz ⊢
  dsimp only at hbz ⊢
  have HY := hide (And.intro hwy (And.intro htl hbz))
  have HB4 := hide hb4
  have HRD := hide (HRD3.out.below hb4)
  have hmI : (m : Int) < (l.length : Int) := by have := HM.out; omega
  clear hwy htl hbz hb4
  go_wp2_with fail
  obtain ⟨W5, hW5⟩ : ∃ W5, w4.alloc (.cells #[.pointer (some ⟨d, 0, none⟩), .int .i64 (m : Int), .bool true] 114) = W5 := ⟨_, rfl⟩
  have hb5 : Below w4.heap.size w4 W5 := by rw [← hW5]; exact bel1 (Below.refl _ _) (Nat.le_refl _) _
  have hB5 : W5.heap[w4.heap.size]? = some (.cells (jrA d (m : Int) true) 114 (0, 0)) := by rw [← hW5]; exact heap_new _ _
  have hA4 := HA3.out.below HB4.out
  have hJ5 : JS S1 w W5 d w4.heap.size x F (m : Int) true := ⟨hA4.below hb5, fun hs => by have := (hA4.at_ _ hs).2; omega, hA4.bel.size, hB5⟩
  have hrd5 : ∀ W', Kp S1 W5 W' → Rd W' a l.length l := fun W' hk => by
    have h5 := HRD.out.below hb5
    refine ⟨h5.1, h5.2.1, fun h0 => ?_⟩
    obtain ⟨b, off, e, hlt, hcc⟩ := h5.2.2 h0
    refine ⟨b, off, e, Nat.lt_of_lt_of_le hlt hk.size, fun j hj => (hk.cell hlt (fun hs => ?_)).trans (hcc j hj)⟩
    have h1 := (HA1.out.at_ b hs).2
    have h2 := HOBL.out b (by rw [e]; rfl)
    omega
  have HTK := hide (takeUp_tail S1 w W5 d w4.heap.size x F m hJ5 nm a l.length c z l hrd5 hcc (by have := HHL.out; omega) (Nat.le_of_lt HM.out) HAN.out H1.out H2.out)
  have HB5 := hide hb5
  have HW5 := hide hW5
  have hlt5 : w4.heap.size < W5.heap.size := (Array.getElem?_eq_some_iff.1 hB5).1
  have HL5 := hide hlt5
  have HA0 : Hid (amV 0 = .nilIface) := rfl
  clear hW5 hb5 hB5 hA4 hJ5 hlt5 hrd5
  rw [HW5.out]
  refine HTK.out.mono ?_
  rintro e w6 ⟨rfl, S6, hS6, hJ6, hK6⟩
  have hk35 : Below w2.heap.size w2 W5 := belOn (belOn HB3.out HB3.out.size HB4.out) (Nat.le_trans HB3.out.size HB4.out.size) HB5.out
  have HKA : Hid (Kp S wi w6) := (((HK1.out.2.2.mono (fun k h => .inl h)).transN (((HK2.out.below hk35).mono (fun k h => .inl h)).trans hK6) (fun k hk => hk.elim (fun h => (HK1.out.1 k h).imp (fun h => .inl h) id) (fun h => .inr (by have := HK1.out.2.2.size; have := HK2.out.size; have := HB3.out.size; have := HB4.out.size; omega)))).noNew (S := S) (j := w4.heap.size) (by have := HK1.out.2.2.size; have := HK2.out.size; have := HB3.out.size; have := HB4.out.size; omega))
  have HSA : Hid (∀ q, S6 q → S q ∨ wi.heap.size ≤ q) := fun q hq => by
    rcases hS6 q hq with h | h
    · exact HK1.out.1 q h
    · have := HK1.out.2.2.size
      have := HK2.out.size
      have := hk35.size
      exact .inr (by omega)
  have HA6 := hide hJ6.aw
  have HTW : Hid (Er w6) := HT.out.below hJ6.aw.bel
  clear hS6 hJ6 hK6 hk35
  obtain ⟨R, hR⟩ : ∃ R, jTu x F (l.take m) l.length z = R := ⟨_, rfl⟩
  rw [hR] at HTT HA6 ⊢
  have HA : Hid (amV R.1 = .iface 82 (.int .i64 R.1)) := if_neg HTT.out
  have HER := hide (errnoOf_any R.1 w6 HTW.out)
  rw [HA.out] at HER ⊢
  have HRR := hide hR
  clear hR
  go_wp2_with fail
  refine HER.out.mono ?_
  rintro e w7 ⟨rfl, hb7⟩
  have HN : Hid (Nx S w wi d R.2.1 R.2.2 w7) := ⟨S6, HSA.out, HA6.out.below hb7, HKA.out.below hb7⟩
  clear hb7
  go_wp2
  refine bodyPost_ret (results_tmp3 rfl _ _ _) rfl ?_
  rw [HRR.out]
  exact ⟨rfl, HN.out⟩
end Go.Proofs.YtdcoafpenkofoaaGreatDoor


/- Stage 20: Open, whatever the power does: what it tells, what it leaves; the disk's own calls. -/
namespace Go.Proofs.YtdcoafpenkofoaaGreatDoor
open Go.RowKit Go.Maps Go.MuLone
set_option linter.unusedVariables false
set_option linter.unusedSimpArgs false
/-- a disk whose log may be told as Now, or as Then -/
def AD (S : Nat → Prop) (w wi : World) (d : Nat) (dn : Bool) (lf : Bool) (Now Then : List (List (List Nat))) (Two : Bool) : Prop := ∃ x F, AW S w wi d x F ∧ x.down = dn ∧ (lf = true → x.left = -1) ∧ Dn F Now Then Two
theorem AD.below {S : Nat → Prop} {w wi w' : World} {d : Nat} {dn lf : Bool} {Now Then : List (List (List Nat))} {Two : Bool} (h : AD S w wi d dn lf Now Then Two) (hb : Below wi.heap.size wi w') : AD S w w' d dn lf Now Then Two := by
  obtain ⟨x, F, h1, h2⟩ := h
  exact ⟨x, F, h1.below hb, h2⟩
theorem AD.bel {S : Nat → Prop} {w wi : World} {d : Nat} {dn lf : Bool} {Now Then : List (List (List Nat))} {Two : Bool} (h : AD S w wi d dn lf Now Then Two) : Below w.heap.size w wi ∧ ∀ k, S k → w.heap.size ≤ k ∧ k < wi.heap.size := by
  obtain ⟨x, F, h1, h2⟩ := h
  exact ⟨h1.bel, h1.at_⟩
theorem JD.ad {S : Nat → Prop} {w wi : World} {d : Nat} {Now Then : List (List (List Nat))} {Two : Bool} (h : JD S w wi d Now Then Two) : AD S w wi d true false Now Then Two := by
  obtain ⟨x, F, h1, h2, h3⟩ := h
  exact ⟨x, F, h1, h2, fun h => absurd h (by decide), h3⟩
theorem JL.ad {S : Nat → Prop} {w wi : World} {d j : Nat} {M : List (List (List Nat))} {tl : Bool} (h : JL S w wi d j M tl) (Then : List (List (List Nat))) (Two : Bool) : AD S w wi d false false M Then Two := by
  obtain ⟨x, F, l, h1, h2, h3, h4, h5, h6⟩ := h
  exact ⟨x, F, h1.aw, h2, fun h => absurd h (by decide), h3.nmz, h6, by rw [h4]; exact h5.dn _ _⟩
/-- the disk behind a call -/
def Nd (S : Nat → Prop) (w wi : World) (d : Nat) (dn lf : Bool) (Now Then : List (List (List Nat))) (Two : Bool) (w' : World) : Prop := ∃ S', (∀ k, S' k → S k ∨ wi.heap.size ≤ k) ∧ AD S' w w' d dn lf Now Then Two ∧ Kp S wi w'
section
variable {S : Nat → Prop} {w wi : World} {d : Nat} {dn lf : Bool} {Now Then : List (List (List Nat))} {Two : Bool}
theorem ad_start (h : AD S w wi d dn lf Now Then Two) : Calls Tryz.prog 63 #[.pointer (some ⟨d, 0, none⟩)] wi fun e w' => e = .returned (.tuple #[]) ∧ Nd S w wi d false lf Now Then Two w' := by
  obtain ⟨x, F, h1, h2, h3, h4⟩ := h
  refine (aw_start h1).mono ?_
  rintro e w' ⟨rfl, S', g1, g2, g3⟩
  exact ⟨rfl, S', g1, ⟨_, _, g2, rfl, h3, h4⟩, g3⟩
theorem ad_up (h : AD S w wi d dn lf Now Then Two) : Calls Tryz.prog 32 #[.pointer (some ⟨d, 0, none⟩)] wi fun e w' => e = .returned (.bool (!dn)) ∧ Nd S w wi d dn lf Now Then Two w' := by
  obtain ⟨x, F, h1, h2, h3, h4⟩ := h
  have := aw_up h1
  rw [h2] at this
  refine this.mono ?_
  rintro e w' ⟨rfl, S', g1, g2, g3⟩
  exact ⟨rfl, S', g1, ⟨_, _, g2, h2, h3, h4⟩, g3⟩
theorem ad_calm (h : AD S w wi d false lf Now Then Two) : Calls Tryz.prog 30 #[.pointer (some ⟨d, 0, none⟩), .int .i64 (-1), .int .i64 0] wi fun e w' => e = .returned (.tuple #[]) ∧ Nd S w wi d false true Now Then Two w' := by
  obtain ⟨x, F, h1, h2, h3, h4⟩ := h
  refine (aw_arm h1 (-1) 0 (by decide) (by decide)).mono ?_
  rintro e w' ⟨rfl, S', g1, g2, g3⟩
  refine ⟨rfl, S', g1, ⟨_, _, g2, ?_, fun _ => ?_, h4⟩, g3⟩
  · unfold dArm; rw [h2]; rfl
  · unfold dArm; rw [h2]; rfl
theorem ad_crash (h : AD S w wi d dn lf Now Then Two) (k : Int) (hk : -9223372036854775808 ≤ k ∧ k < 9223372036854775808) : Calls Tryz.prog 31 #[.pointer (some ⟨d, 0, none⟩), .int .i64 k] wi fun e w' => e = .returned (.tuple #[]) ∧ Nd S w wi d true false Now Then Two w' := by
  obtain ⟨x, F, h1, h2, h3, h4⟩ := h
  refine (aw_crash h1 k hk).mono ?_
  rintro e w' ⟨rfl, S', g1, g2, g3⟩
  refine ⟨rfl, S', g1, ⟨_, _, g2, ?_, fun h => absurd h (by decide), ?_⟩, g3⟩
  · unfold dCr
    cases hd : x.down
    · rfl
    · exact hd
  · unfold dCr
    cases hd : x.down
    · exact h4.crash k
    · exact h4
theorem Nd.trans {S : Nat → Prop} {w wi w1 w2 : World} {dn2 lf2 : Bool} (h : Nd S w wi d dn lf Now Then Two w1) (h2 : ∀ S1, AD S1 w w1 d dn lf Now Then Two → Nd S1 w w1 d dn2 lf2 Now Then Two w2) : Nd S w wi d dn2 lf2 Now Then Two w2 := by
  obtain ⟨S1, a1, a2, a3⟩ := h
  obtain ⟨S2, b1, b2, b3⟩ := h2 S1 a2
  refine ⟨S2, fun k hk => ?_, b2, a3.transN b3 (fun k hk => a1 k hk)⟩
  rcases b1 k hk with h | h
  · exact a1 k h
  · exact .inr (Nat.le_trans a3.size h)
end
/-- Open of a disk that is up -/
theorem Open_step (S : Nat → Prop) (w wi : World) (d : Nat) (lf : Bool) (g : Addr) (hE : Eb w g) (hT : Er w) (Now Then : List (List (List Nat))) (Two : Bool) (h : AD S w wi d false lf Now Then Two) :
    Calls Tryz.prog 19 #[.pointer (some ⟨d, 0, none⟩)] wi fun e w' => (∃ j v Z M tl, e = .returned (.tuple #[.pointer (some ⟨j, 0, none⟩), v, .int .i64 0]) ∧ wi.heap.size ≤ j ∧ Wy AK w' wi.heap.size v Z ∧ ToldL wi.heap.size w' Z ∧ batches Z = M ∧ (M = Now ∨ (Two = true ∧ M = Then)) ∧ ∃ S', (∀ q, S' q → S q ∨ wi.heap.size ≤ q) ∧ JL S' w w' d j M tl ∧ Kp S wi w') ∨
      (lf = false ∧ e = .returned (.tuple #[.pointer none, .slice none 0 0, .int .i64 3]) ∧ Nd S w wi d true false Now Then Two w') := by
  obtain ⟨x, F, hA, hd, hlf, hn, hM, hL⟩ := h
  obtain ⟨l, z, hp⟩ : ∃ l z, dat kG F = (l, z) := ⟨_, _, rfl⟩
  have hdl := hA.datl kG
  rw [hp] at hdl
  dsimp only at hdl
  have hflen := nmz_len hA.names hn
  rw [hp] at hL
  obtain ⟨M, n, q, a1, a2, a3, a4, a5, a6, a7, a8, a9⟩ := hL.wl hM
  dsimp only at a1 a4 a5 a8 a9
  have hLM : logB M = l.take n := a8.symm
  by_cases hn0 : n < l.length
  · have hq : ¬ q = 0 := fun h => by have := a5.2 h; omega
    have c1 := cl_len x F
    have c2 := cl_len (jCl x F).2.1 (jCl x F).2.2
    have c3 := wr_len (jCl (jCl x F).2.1 (jCl x F).2.2).2.1 (jCl (jCl x F).2.1 (jCl x F).2.2).2.2 kN (l.take n)
    have p1 : (jCl (jCl x F).2.1 (jCl x F).2.2).2.2.length + 1 ≤ maxLen := by unfold maxLen; omega
    have p2 : (jWr (jCl (jCl x F).2.1 (jCl x F).2.2).2.1 (jCl (jCl x F).2.1 (jCl x F).2.2).2.2 kN (l.take n)).2.2.length + 1 ≤ maxLen := by unfold maxLen; omega
    have p3 : ¬ ((n : Int) < (z : Int) ∧ 2 ≤ q) := fun h => by omega
    rcases tu_math (t := l.take n) hd hn hp hdl.2 with hf | ⟨r1, r2, r3⟩
    · have key := open_fell1 S w wi d x F g hE hT hA hd (by omega) (by rw [hp]; show l.length ≤ _; omega) (by rw [hp]; exact hdl.2) (by rw [hp]; show ¬ (((wl l).2.1 : Int) < (z : Int) ∧ 2 ≤ (wl l).2.2); rw [a1]; exact p3) (by rw [hp]; show (wl l).2.1 < l.length; rw [a1]; exact hn0) p1
        (by rw [hp]; show (jWr _ _ kN (l.take (wl l).2.1)).2.2.length + 1 ≤ maxLen; rw [a1]; exact p2) (by rw [hp]; show (jTu x F (l.take (wl l).2.1) l.length z).1 ≠ 0; rw [a1]; show (jTu x F (l.take n) l.length z).1 ≠ 0; rw [hf.1]; decide)
      rw [hp] at key
      dsimp only at key
      rw [a1] at key
      dsimp only at key
      refine key.mono ?_
      rintro e w' ⟨rfl, S', g1, g2, g3⟩
      refine .inr ⟨?_, by rw [hf.1], S', g1, ⟨_, _, g2, hf.2.2.1, fun h => absurd h (by decide), Dn.fel hM hL hf⟩, g3⟩
      cases lf
      · rfl
      · exact absurd (hlf rfl) hf.2.1
    · have key := open_tail S w wi d x F g hE hT hA hd (by omega) (by rw [hp]; show l.length ≤ _; omega) (by rw [hp]; exact hdl.2) (by rw [hp]; show ¬ (((wl l).2.1 : Int) < (z : Int) ∧ 2 ≤ (wl l).2.2); rw [a1]; exact p3) (by rw [hp]; show (wl l).2.1 < l.length; rw [a1]; exact hn0) p1
        (by rw [hp]; show (jWr _ _ kN (l.take (wl l).2.1)).2.2.length + 1 ≤ maxLen; rw [a1]; exact p2) (by rw [hp]; show (jTu x F (l.take (wl l).2.1) l.length z).1 = 0; rw [a1]; exact r1)
      rw [hp] at key
      dsimp only at key
      rw [a1] at key
      dsimp only at key
      refine key.mono ?_
      rintro e w' ⟨j, v, Z, h3, h4, h5, h6, h7, S', h8, h9, h10⟩
      refine .inl ⟨j, v, Z, M, jTt x F (l.take n), h3, h4, h5, h6, h7, a6, S', h8, ?_, h10⟩
      rw [show ((n : Nat) : Int) = (logN M : Int) by rw [a2]] at h9
      rcases r3 with ⟨r4, r5⟩ | ⟨r4, r5, r6⟩
      · refine ⟨_, _, logB M, h9, r2.1, ?_, ?_, LgU.whole _ _, a7⟩
        · rw [r5]
          intro f hf
          rw [List.mem_singleton.1 hf]
        · rw [r5, dat_cons, hLM]
      · refine ⟨_, _, l, h9, r2.1, r5, r6, ?_, a7⟩
        rw [decide_eq_true hn0] at a9
        rw [r4]
        exact a9
  · have hnl : n = l.length := by omega
    have hq : q = 0 := a5.1 hnl
    have e1 : l = logB M := by rw [hLM, hnl, List.take_length]
    rcases tk_math hd hn hp hdl.2 with hf | ⟨r1, r2, r3, r4⟩
    · have key := open_fell0 S w wi d x F g hE hT hA hd (by omega) (by rw [hp]; show l.length ≤ _; omega) (by rw [hp]; exact hdl.2) (by rw [hp]; show (wl l).2.2 = 0; rw [a1]; exact hq) (by rw [hp]; show (jTk x F l.length z).1 ≠ 0; rw [hf.1]; decide)
      rw [hp] at key
      dsimp only at key
      refine key.mono ?_
      rintro e w' ⟨rfl, S', g1, g2, g3⟩
      refine .inr ⟨?_, by rw [hf.1], S', g1, ⟨_, _, g2, hf.2.2.1, fun h => absurd h (by decide), Dn.fel hM hL hf⟩, g3⟩
      cases lf
      · rfl
      · exact absurd (hlf rfl) hf.2.1
    · have key := open_good S w wi d x F g hE hT hA hd (by omega) (by rw [hp]; show l.length ≤ _; omega) (by rw [hp]; exact hdl.2) (by rw [hp]; show (wl l).2.2 = 0; rw [a1]; exact hq) (by rw [hp]; exact r1)
      rw [hp] at key
      dsimp only at key
      rw [a1] at key
      dsimp only at key
      refine key.mono ?_
      rintro e w' ⟨j, v, Z, h3, h4, h5, h6, h7, S', h8, h9, h10⟩
      refine .inl ⟨j, v, Z, M, false, h3, h4, h5, h6, h7, a6, S', h8, ?_, h10⟩
      rw [show ((l.length : Nat) : Int) = (logN M : Int) by rw [← hnl, a2]] at h9
      refine ⟨_, _, l, h9, r2.1, r3, r4, ?_, a7⟩
      rw [e1]
      exact LgU.whole _ _
end Go.Proofs.YtdcoafpenkofoaaGreatDoor


/- Stage 20: JournalStroke's book as it lies; done. -/
namespace Go.Proofs.YtdcoafpenkofoaaGreatDoor
open Go.RowKit Go.Maps Go.MuLone
set_option linter.unusedVariables false
set_option linter.unusedSimpArgs false
def bkA (nv tv : Value) (two : Bool) (li : Int) : Array Value := #[nv, tv, .bool two, .int .i64 li]
def BB (w : World) (b : Nat) (nv tv : Value) (two : Bool) (li : Int) : Prop := w.heap[b]? = some (.cells (bkA nv tv two li) 57 (0, 0))
theorem BB.lt {w : World} {b : Nat} {nv tv : Value} {two : Bool} {li : Int} (h : BB w b nv tv two li) : b < w.heap.size := (Array.getElem?_eq_some_iff.1 h).1
theorem BB.cells {w : World} {b : Nat} {nv tv : Value} {two : Bool} {li : Int} (h : BB w b nv tv two li) : w.cell? ⟨b, 0, none⟩ = some nv ∧ w.cell? ⟨b, 1, none⟩ = some tv ∧ w.cell? ⟨b, 2, none⟩ = some (.bool two) ∧ w.cell? ⟨b, 3, none⟩ = some (.int .i64 li) ∧ ∀ o, w.frozen? ⟨b, o, none⟩ = false :=
  ⟨cellOf h 0 _ rfl, cellOf h 1 _ rfl, cellOf h 2 _ rfl, cellOf h 3 _ rfl, fun o => frozen_ofJ h o⟩
theorem BB.set0 {w : World} {b : Nat} {nv tv : Value} {two : Bool} {li : Int} (h : BB w b nv tv two li) (v : Value) : BB (w.setCell ⟨b, 0, none⟩ v) b v tv two li := by
  show _ = _
  rw [blk_set h]
  rfl
theorem BB.set1 {w : World} {b : Nat} {nv tv : Value} {two : Bool} {li : Int} (h : BB w b nv tv two li) (v : Value) : BB (w.setCell ⟨b, 1, none⟩ v) b nv v two li := by
  show _ = _
  rw [blk_set h]
  rfl
theorem BB.set2 {w : World} {b : Nat} {nv tv : Value} {two : Bool} {li : Int} (h : BB w b nv tv two li) (t : Bool) : BB (w.setCell ⟨b, 2, none⟩ (.bool t)) b nv tv t li := by
  show _ = _
  rw [blk_set h]
  rfl
theorem BB.set3 {w : World} {b : Nat} {nv tv : Value} {two : Bool} {li : Int} (h : BB w b nv tv two li) (n : Int) : BB (w.setCell ⟨b, 3, none⟩ (.int .i64 n)) b nv tv two n := by
  show _ = _
  rw [blk_set h]
  rfl
theorem BB.kp {S : Nat → Prop} {w w' : World} {b : Nat} {nv tv : Value} {two : Bool} {li : Int} (h : BB w b nv tv two li) (hk : Kp S w w') (hs : ¬ S b) : BB w' b nv tv two li := (hk.block h.lt hs).trans h
theorem BB.below {w w' : World} {b : Nat} {nv tv : Value} {two : Bool} {li : Int} (h : BB w b nv tv two li) (hb : Below w.heap.size w w') : BB w' b nv tv two li := (hb.block b h.lt).trans h
section
variable {wi : World} {b : Nat} {nv tv : Value} {two : Bool} {li : Int}
theorem done_ok (h : BB wi b nv tv two li) (a : Option Addr) (n c : Nat) : Calls Tryz.prog 27 #[.pointer (some ⟨b, 0, none⟩), .int .i64 0, .slice a n c] wi fun e w' => e = .returned (.bool true) ∧ w' = wi.setCell ⟨b, 0, none⟩ (.slice a n c) := by
  obtain ⟨c0, c1, c2, c3, f⟩ := h.cells
  have f0 := f 0
  clear h f
  go_enter Tryz.func27, Tryz.ntmps27
  go_wp2
  go_ret
  exact ⟨rfl, rfl⟩
theorem done_three (h : BB wi b nv tv two li) (a : Option Addr) (n c : Nat) : Calls Tryz.prog 27 #[.pointer (some ⟨b, 0, none⟩), .int .i64 3, .slice a n c] wi fun e w' => e = .returned (.bool true) ∧ w' = (wi.setCell ⟨b, 1, none⟩ (.slice a n c)).setCell ⟨b, 2, none⟩ (.bool true) := by
  obtain ⟨c0, c1, c2, c3, f⟩ := h.cells
  have f1 := f 1
  have f2 : (wi.setCell ⟨b, 1, none⟩ (.slice a n c)).frozen? ⟨b, 2, none⟩ = false := (h.set1 (.slice a n c)).cells.2.2.2.2 2
  clear h f
  go_enter Tryz.func27, Tryz.ntmps27
  go_wp2
  go_ret
  exact ⟨rfl, rfl⟩
theorem done_else (n : Int) (hn : n = 190 ∨ n = 200) (v : Value) : Calls Tryz.prog 27 #[.pointer (some ⟨b, 0, none⟩), .int .i64 n, v] wi fun e w' => e = .returned (.bool true) ∧ w' = wi := by
  rcases hn with rfl | rfl
  all_goals
    go_enter Tryz.func27, Tryz.ntmps27
    go_wp2
    go_ret
    exact ⟨rfl, rfl⟩
end
/-- batches where they lie, apart from the disk, the book -/
def Lr (w wr : World) (N : Nat → Prop) (v : Value) (M : List (List (List Nat))) : Prop := ∃ Z : List Bq, Wy CK wr w.heap.size v Z ∧ RdQ w Z ∧ Z.map (·.1) = M ∧ ∀ g, v.ownBlock = some g → ¬ N g
theorem Lr.kp {w wr w' : World} {N T : Nat → Prop} {v : Value} {M : List (List (List Nat))} (h : Lr w wr N v M) (hk : Kp T wr w') (hT : ∀ k, T k → N k) : Lr w w' N v M := by
  obtain ⟨Z, h1, h2, h3, h4⟩ := h
  exact ⟨Z, h1.kp hk (fun g e ht => h4 g e (hT g ht)), h2, h3, h4⟩
theorem Lr.mono {w wr : World} {N N' : Nat → Prop} {v : Value} {M : List (List (List Nat))} (h : Lr w wr N v M) (hN : ∀ k, N' k → N k ∨ wr.heap.size ≤ k) : Lr w wr N' v M := by
  obtain ⟨Z, h1, h2, h3, h4⟩ := h
  exact ⟨Z, h1, h2, h3, fun g e hn => (hN g hn).elim (h4 g e) (fun h => by have := (h1.lt e).2; omega)⟩
theorem Lr.nil (w wr : World) (N : Nat → Prop) : Lr w wr N (.slice none 0 0) [] := ⟨[], .inl ⟨rfl, rfl⟩, fun z hz => absurd hz (by simp), rfl, fun g e => by cases e⟩
theorem Lr.row {w wr : World} {N : Nat → Prop} {v : Value} {M : List (List (List Nat))} (h : Lr w wr N v M) (hb : Below w.heap.size w wr) : ∃ a c, v = .slice a M.length c ∧ M.length ≤ maxLen ∧ RdL wr a M := by
  obtain ⟨Z, h1, h2, rfl, h4⟩ := h
  obtain ⟨a, c, e, h5, h6⟩ := RdQ.rdL h1 (h2.below hb)
  exact ⟨a, c, by rw [List.length_map]; exact e, by rw [List.length_map]; exact h5, h6⟩
end Go.Proofs.YtdcoafpenkofoaaGreatDoor
