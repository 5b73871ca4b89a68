
/- Stage 6: the rest of a frame. -/
import Derived.Test.YtaijcnkmklibcaaSFault
import Derived.Deep.DeepCutAuto
namespace Go.Proofs.Ytaijcnkmklibcaa
open Go.RowKit Go.Deep
set_option linter.unusedVariables false
set_option linter.unusedSimpArgs false

set_option maxHeartbeats 2000000 in
set_option maxRecDepth 100000 in
theorem inRest_less (S : Nat) (lim tk at_ : Int) (sz : Nat) (kd er : Int) (hd : Bool) (mf : Value) (a : Option Addr) (n c : Nat) (l : List Nat) (w : World) (hS : StB w S lim tk at_ (.slice a n c) (sz : Int) kd hd er mf) (hr : Rd w a n l) (hc : n ≤ c) (hn : n ≤ 281474976710656) (hs : n < sz) :
    Calls Try.prog 72 #[.pointer (some ⟨S, 0, none⟩)] w fun e w' => e = .returned (.tuple #[it0, .int .i64 0]) ∧ StB w' S lim tk at_ (.slice a n c) (sz : Int) kd hd er mf ∧ Kp (fun k => k = S) w w' := by
  have hs' : (n : Int) < (sz : Int) := by omega
  have HS := hide hS
  have hSl := hS.lt
  have hne : S ≠ w.heap.size := by omega
  have hne2 : w.heap.size ≠ S := by omega
  obtain ⟨W, hW⟩ : ∃ W, W = w.alloc (.cells #[.int .i64 0, .int .i64 0, .int .i64 0, .int .i64 0, .slice none 0 0, .slice none 0 0] 51) := ⟨_, rfl⟩
  have HSW : Hid (StB W S lim tk at_ (.slice a n c) (sz : Int) kd hd er mf) := by rw [hW]; exact hS.alloc _
  have HIW : Hid (IZ W w.heap.size) := by rw [hW]; exact IZ.new w
  have HBW : Hid (Below w.heap.size w W) := by rw [hW]; exact below_box w _
  obtain ⟨s0, s1, s2, s3, s4, s5, s6, s7, s8⟩ := HSW.out.cells
  obtain ⟨⟨i0, i1, i2, i3, i4, i5⟩, hif⟩ := HIW.out.facts
  have f0 := hif 0
  have f1 := hif 1
  have f2 := hif 2
  have f3 := hif 3
  have f4 := hif 4
  have f5 := hif 5
  have hlt1 : w.heap.size < W.heap.size := HIW.out.lt
  clear hS hr hs hc hn hif
  go_enter Try.func72, Try.ntmps72
  go_upto_region 1 with fail
  rw [← hW]
  clear hW
  go_quiet (fail)
  have HSq : Hid (StB (W.drewN nq) S lim tk at_ (.slice a n c) (sz : Int) kd hd er mf) := HSW.out.below (below_drewN (Below.refl _ _) nq) HSW.out.lt
  go_wp2
  refine bodyPost_ret (v := .tuple #[it0, .int .i64 0]) (by simp [results, Try.results72, go_sem, i0, i1, i2, i3, i4, i5, hlt1, hne, hne2, it0, itV]) rfl ⟨rfl, ?_, ?_⟩
  · exact ((((((HSq.out).setOther hne2 _).setOther hne2 _).setOther hne2 _).setOther hne2 _).setOther hne2 _).setOther hne2 _
  · exact Kp.fresh (Kp.fresh (Kp.fresh (Kp.fresh (Kp.fresh (Kp.fresh (Kp.ofBelow (below_drewN HBW.out nq)) (Nat.le_refl _) _) (Nat.le_refl _) _) (Nat.le_refl _) _) (Nat.le_refl _) _) (Nat.le_refl _) _) (Nat.le_refl _) _
set_option maxHeartbeats 2000000 in
set_option maxRecDepth 100000 in
theorem inRest_whole (S : Nat) (lim tk at_ : Int) (sz : Nat) (kd er : Int) (hd : Bool) (mf : Value) (a : Option Addr) (n c : Nat) (l : List Nat) (w : World) (hS : StB w S lim tk at_ (.slice a n c) (sz : Int) kd hd er mf) (hr : Rd w a n l) (hc : n ≤ c) (hn : n ≤ 281474976710656) (hs : sz ≤ n) :
    Calls Try.prog 72 #[.pointer (some ⟨S, 0, none⟩)] w fun e w' => ∃ o1 o2 : Option Nat, e = .returned (.tuple #[itV 2 0 (opK l 0 1048576) (opC l 0 1048576) (.slice (o1.map (fun g => (⟨g, 0, none⟩ : Addr))) (opX l 0 1048576).length (opX l 0 1048576).length) (.slice (o2.map (fun g => (⟨g, 0, none⟩ : Addr))) (opY l 0 1048576).length (opY l 0 1048576).length), .int .i64 (opE l 0 1048576)]) ∧ (o1 = none → opX l 0 1048576 = []) ∧ (o2 = none → opY l 0 1048576 = []) ∧ (∀ g, o1 = some g → w.heap.size ≤ g ∧ Bl w' g (opX l 0 1048576)) ∧ (∀ g, o2 = some g → w.heap.size ≤ g ∧ Bl w' g (opY l 0 1048576)) ∧ (∀ g g', o1 = some g → o2 = some g' → g < g') ∧ StB w' S lim tk at_ (.slice a n c) (sz : Int) kd hd er mf ∧ Kp (fun k => k = S) w w' := by
  have hs' : ¬ (n : Int) < (sz : Int) := by omega
  have HS := hide hS
  have hSl := hS.lt
  have hne : S ≠ w.heap.size := by omega
  have hne2 : w.heap.size ≠ S := by omega
  obtain ⟨W, hW⟩ : ∃ W, W = w.alloc (.cells #[.int .i64 0, .int .i64 0, .int .i64 0, .int .i64 0, .slice none 0 0, .slice none 0 0] 51) := ⟨_, rfl⟩
  have HSW : Hid (StB W S lim tk at_ (.slice a n c) (sz : Int) kd hd er mf) := by rw [hW]; exact hS.alloc _
  have HIW : Hid (IZ W w.heap.size) := by rw [hW]; exact IZ.new w
  have HBW : Hid (Below w.heap.size w W) := by rw [hW]; exact below_box w _
  have HRW : Hid (Rd W a n l) := hr.below HBW.out
  have HO := hide (fun V (h : Rd V a n l) => open_any a n c 0 1048576 l V h hc hn)
  unfold frO frV at HO
  generalize opE l 0 1048576 = E at *
  generalize opK l 0 1048576 = K at *
  generalize opC l 0 1048576 = C at *
  generalize opN l 0 1048576 = N at *
  generalize opX l 0 1048576 = X at *
  generalize opY l 0 1048576 = Y at *
  obtain ⟨nX, hnX⟩ : ∃ nX, nX = X.length := ⟨_, rfl⟩
  obtain ⟨nY, hnY⟩ : ∃ nY, nY = Y.length := ⟨_, rfl⟩
  rw [← hnX, ← hnY] at HO
  obtain ⟨s0, s1, s2, s3, s4, s5, s6, s7, s8⟩ := HSW.out.cells
  clear hS hr hs hc hn
  rw [← hnX, ← hnY]
  clear hnX hnY
  go_enter Try.func72, Try.ntmps72
  go_upto_region 1 with fail
  rw [← hW]
  have HZW : Hid (W.heap.size = w.heap.size + 1) := by show _ = _; rw [hW]; simp
  clear hW
  go_quiet (fail)
  have HSq : Hid (StB (W.drewN nq) S lim tk at_ (.slice a n c) (sz : Int) kd hd er mf) := HSW.out.below (below_drewN (Below.refl _ _) nq) HSW.out.lt
  have HBq : Hid (Below W.heap.size W (W.drewN nq)) := below_drewN (Below.refl _ _) nq
  go_wp2_with fail
  clear s0 s1 s2 s3 s4 s5 s6 s7 s8
  refine (HO.out _ (HRW.out.below HBq.out)).mono ?_
  rintro e w1 ⟨o1, o2, rfl, h1, h2, h3, h4, h5, h6⟩
  have HH := hide (And.intro h1 (And.intro h2 (And.intro h3 (And.intro h4 h5))))
  have HB1 : Hid (Below w.heap.size w w1) := HBW.out.trans ((HBq.out.trans (h6.mono HBq.out.size)).mono HBW.out.size)
  have HS1 : Hid (StB w1 S lim tk at_ (.slice a n c) (sz : Int) kd hd er mf) := HSq.out.below h6 HSq.out.lt
  have HI1 : Hid (IZ w1 w.heap.size) := IB.below (IB.below HIW.out HBq.out HIW.out.lt) h6 (by have := HIW.out.lt; exact Nat.lt_of_lt_of_le this HBq.out.size)
  have HZ : Hid ((W.drewN nq).heap.size = w.heap.size + 1) := HZW.out
  clear h1 h2 h3 h4 h5 h6 HO
  obtain ⟨A1, hA1⟩ : ∃ A1, A1 = o1.map (fun g => (⟨g, 0, none⟩ : Addr)) := ⟨_, rfl⟩
  obtain ⟨A2, hA2⟩ : ∃ A2, A2 = o2.map (fun g => (⟨g, 0, none⟩ : Addr)) := ⟨_, rfl⟩
  rw [← hA1, ← hA2]
  have HA1 := hide hA1
  have HA2 := hide hA2
  clear hA1 hA2
  go_upto_region 4 with fail
  obtain ⟨W2, hW2⟩ : ∃ W2, W2 = w1.alloc (.cells #[.int .i64 K, .int .i64 C, .slice A1 nX nX, .slice A2 nY nY] 49) := ⟨_, rfl⟩
  obtain ⟨G, hG⟩ : ∃ G, G = w1.heap.size := ⟨_, rfl⟩
  have HS2 : Hid (StB W2 S lim tk at_ (.slice a n c) (sz : Int) kd hd er mf) := by rw [hW2]; exact HS1.out.alloc _
  have HI2 : Hid (IZ W2 w.heap.size) := by rw [hW2]; exact IB.below HI1.out (below_box w1 _) HI1.out.lt
  have HF2 : Hid (FB4 W2 G (.int .i64 K) (.int .i64 C) (.slice A1 nX nX) (.slice A2 nY nY)) := by rw [hW2, hG]; exact FB4.new _ _ _ _ _
  have HB2 : Hid (Below w.heap.size w W2) := by rw [hW2]; exact HB1.out.alloc HB1.out.size _
  have HBL : Hid (∀ g L, Bl w1 g L → Bl W2 g L) := fun g L h => by rw [hW2]; exact h.alloc _
  rw [← hW2, ← hG]
  have hGR : G ≠ w.heap.size := by have := HI1.out.lt; omega
  clear hW2 hG
  have hlt1 : w.heap.size < W2.heap.size := HI2.out.lt
  obtain ⟨⟨i0, i1, i2, i3, i4, i5⟩, hif⟩ := HI2.out.facts
  obtain ⟨g0, g1, g2, g3⟩ := HF2.out.cells
  have f0 := hif 0
  have f1 := hif 1
  have f2 := hif 2
  have f3 := hif 3
  have f4 := hif 4
  have f5 := hif 5
  clear hif
  go_wp2
  refine bodyPost_ret (v := .tuple #[itV 2 0 K C (.slice A1 nX nX) (.slice A2 nY nY), .int .i64 E]) (by simp [results, Try.results72, go_sem, i0, i1, i2, i3, i4, i5, hlt1, hne, hne2, it0, itV]) rfl ?_
  obtain ⟨h1, h2, h3, h4, h5⟩ := HH.out
  have hz := HZ.out
  refine ⟨o1, o2, by rw [← HA1.out, ← HA2.out], h1, h2, fun g hg => ⟨by have := (h3 g hg).1; omega, ?_⟩, fun g hg => ⟨by have := (h4 g hg).1; omega, ?_⟩, h5, ?_, ?_⟩
  · have hgn : w.heap.size ≠ g := by have := (h3 g hg).1; omega
    have hb := HBL.out g X (h3 g hg).2
    exact ((((((hb).setOther hgn _).setOther hgn _).setOther hgn _).setOther hgn _).setOther hgn _).setOther hgn _
  · have hgn : w.heap.size ≠ g := by have := (h4 g hg).1; omega
    have hb := HBL.out g Y (h4 g hg).2
    exact ((((((hb).setOther hgn _).setOther hgn _).setOther hgn _).setOther hgn _).setOther hgn _).setOther hgn _
  · exact ((((((HS2.out).setOther hne2 _).setOther hne2 _).setOther hne2 _).setOther hne2 _).setOther hne2 _).setOther hne2 _
  · exact Kp.fresh (Kp.fresh (Kp.fresh (Kp.fresh (Kp.fresh (Kp.fresh (Kp.ofBelow HB2.out) (Nat.le_refl _) _) (Nat.le_refl _) _) (Nat.le_refl _) _) (Nat.le_refl _) _) (Nat.le_refl _) _) (Nat.le_refl _) _
end Go.Proofs.Ytaijcnkmklibcaa
