/- HUnW -/
import Derived.Test.YtgldcchleoklcaaGreatDoorP49
namespace Go.Proofs.YtgldcchleoklcaaGreatDoor
open Go.RowKit
set_option linter.unusedVariables false
set_option linter.unusedSimpArgs false
set_option maxRecDepth 100000 in
set_option maxHeartbeats 20000000 in
theorem unpacks_walk (x : V) (w : World) (hx : Lies w.heap.size w x) (hT : Lib.Utf8Tabs 0 1 w) :
    Calls Tryz.prog 6 #[x.val] w fun e w' => e = .returned (.bool true) ∧ Below w.heap.size w w' := by
  obtain ⟨W0, hW0⟩ : ∃ W0, w.alloc (Obj.cells #[.int .i64 x.k, .int .u64 x.n, .string x.s, .slice x.a x.l.length x.c, .int .i64 x.e] 42) = W0 := ⟨_, rfl⟩
  have hs0 : W0.heap.size = w.heap.size + 1 := by rw [← hW0]; simp
  have hb0 : Below w.heap.size w W0 := by rw [← hW0]; exact bel1 (Below.refl _ _) (Nat.le_refl _) _
  have hx0 : C5 W0 w.heap.size x := by rw [← hW0]; exact c5_new w x
  have HTB : Hid (∀ W', Below w.heap.size w W' → Lib.Utf8Tabs 0 1 W') := fun W' h => tabs_below hT h
  have HXK : Hid (∀ W', Below w.heap.size w W' → Lies w.heap.size W' x) := fun W' h => hx.keep h (Nat.le_refl _)
  have HX0 := hide hx0
  have HB0 := hide hb0
  have HGR := hide (great_any x w.heap.size W0 (by omega) (hx.keep hb0 (Nat.le_refl _)))
  have HW0 := hide hW0
  rw [V.val_eq] at HGR ⊢
  clear hW0 hx hT hx0 hb0
  go_enter Tryz.func6, Tryz.ntmps6
  go_wp2_with fail
  rw [HW0.out]
  refine HGR.out.mono ?_
  rintro e1 w1 (⟨rfl, hb1⟩ | ⟨rfl, hwt, hb1⟩)
  · have hbw := belOn HB0.out HB0.out.size hb1
    go_wp2
    go_ret
    exact ⟨rfl, hbw⟩
  have hbw1 := belOn HB0.out HB0.out.size hb1
  have HLI := hide (live_any w1 (HTB.out w1 hbw1))
  have HWT := hide hwt
  clear hwt
  go_wp2_with fail
  refine HLI.out.mono ?_
  rintro e2 w2 ⟨rfl, hb2⟩
  have hb02 : Below W0.heap.size W0 w2 := belOn hb1 hb1.size hb2
  have HBW2 : Hid (Below w.heap.size w w2) := belOn HB0.out HB0.out.size hb02
  have hs2 := hb02.size
  have HC2 : Hid (C5 w2 w.heap.size x) := HX0.out.keep (hb02.block _ (by omega))
  have hw2 : w.heap.size < w2.heap.size := by omega
  clear hb1 hb2 hb02 hbw1 HLI
  obtain ⟨c0, c1, c2, c3, c4⟩ := HC2.out
  have hle := lent_any x HWT.out w.heap.size w2 (by omega) (HXK.out w2 HBW2.out)
  rw [V.val_eq] at hle
  have HLE := hide hle
  clear hle
  go_wp2_with fail
  refine HLE.out.mono ?_
  rintro e3 w3 ⟨y, rfl, HY, hb3⟩
  have hs3 := hb3.size
  obtain ⟨W3, hW3⟩ : ∃ W3, w3.alloc (Obj.cells #[.int .i64 y.k, .int .u64 y.n, .string y.s, .slice y.a y.l.length y.c, .int .i64 y.e] 42) = W3 := ⟨_, rfl⟩
  have hsW3 : W3.heap.size = w3.heap.size + 1 := by rw [← hW3]; simp
  have hb33 : Below w3.heap.size w3 W3 := by rw [← hW3]; exact bel1 (Below.refl _ _) (Nat.le_refl _) _
  have HCY : Hid (C5 W3 w3.heap.size y) := by rw [← hW3]; exact c5_new w3 y
  have hb23 : Below w2.heap.size w2 W3 := hb3.trans (hb33.mono hs3)
  have HBW3 : Hid (Below w.heap.size w W3) := HBW2.out.trans (hb23.mono HBW2.out.size)
  have HC3 : Hid (C5 W3 w.heap.size x) := HC2.out.keep (hb23.block _ hw2)
  have HLY : Hid (∀ W', Below W3.heap.size W3 W' → Lies W3.heap.size W' y ∧ Lent W' y w2.heap.size w3.heap.size) := fun W' h => by
    have hb : Below w3.heap.size w3 W' := hb33.trans (h.mono (by omega))
    have hl : Lent W' y w2.heap.size w3.heap.size := HY.out.2.keep (fun b o q1 q2 q3 => (hb.block b q2).trans q3)
    exact ⟨LiesIn.keep hl.lies (fun _ _ _ => rfl) (fun b hb => by have := hb.2; show b < W3.heap.size; omega), hl⟩
  obtain ⟨u, hu⟩ : ∃ u, unpR x = u := ⟨_, rfl⟩
  have huy : unpR y = u := (unpR_ts HY.out.1).trans hu
  have hwu := wts_unpR x
  rw [hu] at hwu
  have HWU : Hid (T.wts u.1.2 ≤ 172200040) := by rw [Hid]; have := HWT.out; omega
  have HUN : Hid (∀ W', Below W3.heap.size W3 W' → Calls Tryz.prog 26 #[.agg #[.int .i64 y.k, .int .u64 y.n, .string y.s, .slice y.a y.l.length y.c, .int .i64 y.e]] W' (fun e w' => ∃ r : V, e = .returned (.tuple #[.agg #[.int .i64 u.1.1, .slice r.a r.l.length r.c], .int .i64 u.2.1, .int .i64 u.2.2]) ∧ Hid (V.ts r.l = u.1.2 ∧ LiesIn (fun b => W'.heap.size + 2 ≤ b ∧ b < w'.heap.size) w' r ∧ Owns w' (W'.heap.size + 2) w'.heap.size r.slots) ∧ Below W'.heap.size W' w')) := fun W' h => by
    have hh := unpack_anyO y W3.heap.size W' h.size (HLY.out W' h).1 (HTB.out W' (HBW3.out.trans (h.mono HBW3.out.size)))
    rw [huy, V.val_eq] at hh
    exact hh
  have HRU : Hid (∀ W', Below w.heap.size w W' → Calls Tryz.prog 27 #[.agg #[.int .i64 x.k, .int .u64 x.n, .string x.s, .slice x.a x.l.length x.c, .int .i64 x.e]] W' (RUR (fun b => b < w.heap.size) u W')) := fun W' h => by
    have hh := runpack_any x (fun b => b < w.heap.size) W' (HXK.out W' h) (fun b hb => by have := h.size; omega)
    rw [hu, V.val_eq] at hh
    exact hh
  clear hu huy hwu
  obtain ⟨⟨uk, ut⟩, ua, ue⟩ := u
  dsimp only at HUN HWU
  have HW3 := hide hW3
  obtain ⟨d0, d1, d2, d3, d4⟩ := HCY.out
  have hlt3 : w3.heap.size < W3.heap.size := by omega
  clear hW3 c0 c1 c2 c3 c4
  go_wp2_with fail
  rw [HW3.out]
  refine (HUN.out W3 (Below.refl _ _)).mono ?_
  rintro e4 w4 ⟨r, rfl, HR, hb4⟩
  have hs4 := hb4.size
  obtain ⟨W4, hW4⟩ : ∃ W4, w4.alloc (Obj.cells #[.int .i64 uk, .slice r.a r.l.length r.c] 33) = W4 := ⟨_, rfl⟩
  have hsW4 : W4.heap.size = w4.heap.size + 1 := by rw [← hW4]; simp
  have hb44 : Below w4.heap.size w4 W4 := by rw [← hW4]; exact bel1 (Below.refl _ _) (Nat.le_refl _) _
  have HCR : Hid (C2 W4 w4.heap.size uk r) := by rw [← hW4]; exact c2_new w4 uk r
  have hb34 : Below W3.heap.size W3 W4 := hb4.trans (hb44.mono hs4)
  have HBW4 : Hid (Below w.heap.size w W4) := HBW3.out.trans (hb34.mono HBW3.out.size)
  obtain ⟨x0, x1, x2, x3, x4⟩ := HC3.out.keep (hb4.block _ (by omega))
  have hltx : w.heap.size < w4.heap.size := by omega
  have HW4 := hide hW4
  clear hW4 d0 d1 d2 d3 d4
  go_wp2_with fail
  rw [HW4.out]
  refine (HRU.out W4 HBW4.out).mono ?_
  rintro e5 w5 ⟨s, rfl, HSS, hb5⟩
  dsimp only at HSS ⊢
  have hs5 := hb5.size
  obtain ⟨W5, hW5⟩ : ∃ W5, w5.alloc (Obj.cells #[.int .i64 uk, .slice s.a s.l.length s.c] 33) = W5 := ⟨_, rfl⟩
  have hsW5 : W5.heap.size = w5.heap.size + 1 := by rw [← hW5]; simp
  have hb55 : Below w5.heap.size w5 W5 := by rw [← hW5]; exact bel1 (Below.refl _ _) (Nat.le_refl _) _
  have HCS : Hid (C2 W5 w5.heap.size uk s) := by rw [← hW5]; exact c2_new w5 uk s
  have hb45 : Below W4.heap.size W4 W5 := hb5.trans (hb55.mono hs5)
  have HBW5 : Hid (Below w.heap.size w W5) := HBW4.out.trans (hb45.mono HBW4.out.size)
  have HB45 := hide hb45
  -- how r and s lie from here on
  have HRL : Hid (∀ X, (∀ b, w3.heap.size ≤ b → b < W5.heap.size → X.heap[b]? = W5.heap[b]?) → LiesIn (fun b => W3.heap.size + 2 ≤ b ∧ b < w4.heap.size) X (V.of 0 0 ⟨#[]⟩ r.a r.c 0 r.l) ∧ Owns X (W3.heap.size + 2) w4.heap.size r.slots ∧ C2 X w4.heap.size uk r) := fun X hX => by
    have hk : ∀ b, W3.heap.size ≤ b → b < W4.heap.size → X.heap[b]? = W4.heap[b]? := fun b q1 q2 => (hX b (by omega) (by omega)).trans (hb45.block b q2)
    refine ⟨LiesIn.keep (bare_of HR.out.2.1) (fun b hb o => World.cell?_of_block ((hk b (by omega) (by omega)).trans (hb44.block b hb.2))) (fun _ h => h), HR.out.2.2.keep (fun b q1 q2 => (hk b (by omega) (by omega)).trans (hb44.block b q2)) (Nat.le_refl _) (Nat.le_refl _), HCR.out.keep (hk _ (by omega) (by omega))⟩
  have HSL : Hid (∀ X, (∀ b, w3.heap.size ≤ b → b < W5.heap.size → X.heap[b]? = W5.heap[b]?) → Below w.heap.size w X → LiesIn (fun b => b < w.heap.size ∨ (W4.heap.size ≤ b ∧ b < w5.heap.size)) X (V.of 0 0 ⟨#[]⟩ s.a s.c 0 s.l) ∧ C2 X w5.heap.size uk s) := fun X hX hbX => by
    refine ⟨LiesIn.keep HSS.out.2 (fun b hb o => ?_) (fun _ h => h), HCS.out.keep (hX _ (by omega) (by omega))⟩
    rcases hb with hb | hb
    · exact (hbX.cell (p := ⟨b, o, none⟩) hb).trans ((HBW4.out.trans (hb5.mono HBW4.out.size)).cell (p := ⟨b, o, none⟩) hb).symm
    · exact World.cell?_of_block ((hX b (by omega) (by omega)).trans (hb55.block b hb.2))
  have HTR : Hid (V.ts r.l = ut) := HR.out.1
  have HTS : Hid (V.ts s.l = ut) := HSS.out.1
  have HSAME : Hid (∀ X, Below w.heap.size w X → W5.heap.size ≤ X.heap.size → ∀ g : V, V.ts g.l = ut → LiesIn (fun b => b < X.heap.size) X (V.of 0 0 ⟨#[]⟩ g.a g.c 0 g.l) → (∀ b, w3.heap.size ≤ b → b < W5.heap.size → X.heap[b]? = W5.heap[b]?) → Calls Tryz.prog 28 #[.agg #[.int .i64 uk, .slice g.a g.l.length g.c], .agg #[.int .i64 uk, .slice s.a s.l.length s.c]] X fun e w' => e = .returned (.bool true) ∧ Below X.heap.size X w') := fun X hbX hsX g hg hgl hX =>
    sameRecord_any uk g.l s.l g.a s.a g.c s.c X.heap.size X (Nat.le_refl _) hgl (LiesIn.keep (HSL.out X hX hbX).1 (fun _ _ _ => rfl) (fun b hb => by have := hbX.size; show b < X.heap.size; omega)) (by rw [hg, HTS.out]; exact eqsT_selfU _)
  have hq5 := HSAME.out W5 HBW5.out (Nat.le_refl _) r HTR.out (LiesIn.keep (HRL.out W5 (fun _ _ _ => rfl)).1 (fun _ _ _ => rfl) (fun b hb => by show b < W5.heap.size; omega)) (fun _ _ _ => rfl)
  have HQ5 := hide hq5
  obtain ⟨g0, g1⟩ := HCR.out.keep (hb5.block w4.heap.size (by omega))
  have hl4 : w4.heap.size < w5.heap.size := by omega
  have HW5 := hide hW5
  have HCY5 : Hid (C5 W5 w3.heap.size y) := HCY.out.keep ((hb45.block _ (by omega)).trans (hb34.block _ (by omega)))
  have HB35 : Hid (Below W3.heap.size W3 W5) := hb34.trans (hb45.mono hb34.size)
  clear hW5 x0 x1 x2 x3 x4 hq5 HR HSS
  go_wp2_with fail
  rw [HW5.out]
  refine HQ5.out.mono ?_
  rintro e6 w6 ⟨rfl, hb6⟩
  have hs6 := hb6.size
  have HB36 : Hid (Below W3.heap.size W3 w6) := HB35.out.trans (hb6.mono HB35.out.size)
  obtain ⟨d0, d1, d2, d3, d4⟩ := HCY5.out.keep (hb6.block _ (by omega))
  have hl36 : w3.heap.size < w6.heap.size := by omega
  clear g0 g1
  go_wp2_with fail
  refine (HUN.out w6 HB36.out).mono ?_
  rintro e7 w7 ⟨g, rfl, HG, hb7⟩
  have hs7 := hb7.size
  obtain ⟨W7, hW7⟩ : ∃ W7, w7.alloc (Obj.cells #[.int .i64 uk, .slice g.a g.l.length g.c] 33) = W7 := ⟨_, rfl⟩
  have hsW7 : W7.heap.size = w7.heap.size + 1 := by rw [← hW7]; simp
  have hb77 : Below w7.heap.size w7 W7 := by rw [← hW7]; exact bel1 (Below.refl _ _) (Nat.le_refl _) _
  have HCG : Hid (C2 W7 w7.heap.size uk g) := by rw [← hW7]; exact c2_new w7 uk g
  have hb67 : Below w6.heap.size w6 W7 := hb7.trans (hb77.mono hs7)
  have hb57 : Below W5.heap.size W5 W7 := hb6.trans (hb67.mono hs6)
  have HB37 : Hid (Below W3.heap.size W3 W7) := HB36.out.trans (hb67.mono HB36.out.size)
  have HBW7 : Hid (Below w.heap.size w W7) := HBW5.out.trans (hb57.mono HBW5.out.size)
  have HTG : Hid (V.ts g.l = ut) := HG.out.1
  have HGL : Hid (∀ X, (∀ b, w3.heap.size ≤ b → b < W7.heap.size → X.heap[b]? = W7.heap[b]?) → LiesIn (fun b => w6.heap.size + 2 ≤ b ∧ b < w7.heap.size) X (V.of 0 0 ⟨#[]⟩ g.a g.c 0 g.l) ∧ Owns X (w6.heap.size + 2) w7.heap.size g.slots ∧ C2 X w7.heap.size uk g) := fun X hX => by
    refine ⟨LiesIn.keep (bare_of HG.out.2.1) (fun b hb o => World.cell?_of_block ((hX b (by omega) (by omega)).trans (hb77.block b hb.2))) (fun _ h => h), HG.out.2.2.keep (fun b q1 q2 => (hX b (by omega) (by omega)).trans (hb77.block b q2)) (Nat.le_refl _) (Nat.le_refl _), HCG.out.keep (hX _ (by omega) (by omega))⟩
  have HK57 : Hid (∀ X : World, (∀ b, w3.heap.size ≤ b → b < W7.heap.size → X.heap[b]? = W7.heap[b]?) → ∀ b, w3.heap.size ≤ b → b < W5.heap.size → X.heap[b]? = W5.heap[b]?) := fun X hX b q1 q2 => (hX b q1 (by omega)).trans (hb57.block b q2)
  have has := asLent_any y x w2.heap.size w3.heap.size (fun b => b < w.heap.size) W7 (HLY.out W7 HB37.out).2 (by omega) (HXK.out W7 HBW7.out) (fun b hb => ⟨by omega, by omega⟩) HY.out.1
  rw [V.val_eq, V.val_eq] at has
  have HAS := hide has
  obtain ⟨d0', d1', d2', d3', d4'⟩ := HCY5.out.keep ((hb6.trans (hb7.mono hs6)).block _ (by omega))
  obtain ⟨x0, x1, x2, x3, x4⟩ := HC3.out.keep ((HB36.out.trans (hb7.mono HB36.out.size)).block _ (by omega))
  have hl37 : w3.heap.size < w7.heap.size := by omega
  have hlx7 : w.heap.size < w7.heap.size := by omega
  have HW7 := hide hW7
  clear hW7 has d0 d1 d2 d3 d4 HG
  go_wp2_with fail
  rw [HW7.out]
  refine HAS.out.mono ?_
  rintro e8 w8 ⟨rfl, ht8⟩
  have hs8 := ht8.size
  have HBW8 : Hid (Below w.heap.size w w8) := HBW7.out.trans (ht8.below (by omega) (by omega))
  have HK8 : Hid (∀ b, w3.heap.size ≤ b → b < W7.heap.size → w8.heap[b]? = W7.heap[b]?) := fun b q1 q2 => ht8.block b q2 (by omega)
  clear d0' d1' d2' d3' d4' x0 x1 x2 x3 x4 ht8
  have hq8 := HSAME.out w8 HBW8.out (by omega) r HTR.out (LiesIn.keep (HRL.out w8 (HK57.out w8 HK8.out)).1 (fun _ _ _ => rfl) (fun b hb => by show b < w8.heap.size; omega)) (HK57.out w8 HK8.out)
  have HQ8 := hide hq8
  obtain ⟨g0, g1⟩ := (HRL.out w8 (HK57.out w8 HK8.out)).2.2
  obtain ⟨k0, k1⟩ := (HSL.out w8 (HK57.out w8 HK8.out) HBW8.out).2
  have hl48 : w4.heap.size < w8.heap.size := by omega
  have hl58 : w5.heap.size < w8.heap.size := by omega
  clear hq8
  go_wp2_with fail
  refine HQ8.out.mono ?_
  rintro e9 w9 ⟨rfl, hb9⟩
  have hs9 := hb9.size
  have HBW9 : Hid (Below w.heap.size w w9) := HBW8.out.trans (hb9.mono HBW8.out.size)
  have HK9 : Hid (∀ b, w3.heap.size ≤ b → b < W7.heap.size → w9.heap[b]? = W7.heap[b]?) := fun b q1 q2 => (hb9.block b (by omega)).trans (HK8.out b q1 q2)
  have hq9 := HSAME.out w9 HBW9.out (by omega) g HTG.out (LiesIn.keep (HGL.out w9 HK9.out).1 (fun _ _ _ => rfl) (fun b hb => by show b < w9.heap.size; omega)) (HK57.out w9 HK9.out)
  have HQ9 := hide hq9
  clear g0 g1 k0 k1 hq9
  obtain ⟨g0, g1⟩ := (HGL.out w9 HK9.out).2.2
  obtain ⟨k0, k1⟩ := (HSL.out w9 (HK57.out w9 HK9.out) HBW9.out).2
  have hl79 : w7.heap.size < w9.heap.size := by omega
  have hl59 : w5.heap.size < w9.heap.size := by omega
  go_wp2_with fail
  refine HQ9.out.mono ?_
  rintro e10 w10 ⟨rfl, hb10⟩
  have hs10 := hb10.size
  have HBW10 : Hid (Below w.heap.size w w10) := HBW9.out.trans (hb10.mono HBW9.out.size)
  have HK10 : Hid (∀ b, w3.heap.size ≤ b → b < W7.heap.size → w10.heap[b]? = W7.heap[b]?) := fun b q1 q2 => (hb10.block b (by omega)).trans (HK9.out b q1 q2)
  clear g0 g1 k0 k1
  obtain ⟨WB, hWB⟩ : ∃ WB, w10.alloc (Obj.cells #[.slice none 0 0] 49) = WB := ⟨_, rfl⟩
  have hsB : WB.heap.size = w10.heap.size + 1 := by rw [← hWB]; simp
  have hbB : Below w10.heap.size w10 WB := by rw [← hWB]; exact bel1 (Below.refl _ _) (Nat.le_refl _) _
  have HK0 : Hid (Bk w10.heap.size none [] WB WB) := by
    rw [← hWB]
    exact Bk.start w10
  have HBWB : Hid (Below w.heap.size w WB) := HBW10.out.trans (hbB.mono HBW10.out.size)
  have HKB : Hid (∀ b, w3.heap.size ≤ b → b < W7.heap.size → WB.heap[b]? = W7.heap[b]?) := fun b q1 q2 => (hbB.block b (by omega)).trans (HK10.out b q1 q2)
  have HWB := hide hWB
  have hq := takeAll_next HK0.out r.l r.a r.c (fun b => W3.heap.size + 2 ≤ b ∧ b < w4.heap.size) (HRL.out WB (HK57.out WB HKB.out)).1 (fun b hb => ⟨by omega, by omega⟩) (by rw [HTR.out]; have := HWU.out; simp only [List.length_nil]; omega)
  have HQB := hide hq
  obtain ⟨g0, g1⟩ := (HRL.out w10 (HK57.out w10 HK10.out)).2.2
  have hl4B : w4.heap.size < w10.heap.size := by omega
  clear hWB hq
  go_wp2_with fail
  rw [HWB.out]
  refine HQB.out.mono ?_
  rintro e11 w11 ⟨rfl, HB11⟩
  rw [List.append_assoc, ← slots_eq] at HB11
  have hs11 := HB11.out.size
  have HK11 : Hid (∀ b, w3.heap.size ≤ b → b < W7.heap.size → w11.heap[b]? = W7.heap[b]?) := fun b q1 q2 => (HB11.out.same (by omega) (by omega)).trans (HKB.out b q1 q2)
  have hlr : r.slots.length ≤ 172200041 := by
    rw [slots_eq, List.length_append]
    have := slotss_len r.l
    rw [HTR.out] at this
    have := HWU.out
    simp only [List.length_singleton]
    omega
  have hlg : g.slots.length ≤ 172200041 := by
    rw [slots_eq, List.length_append]
    have := slotss_len g.l
    rw [HTG.out] at this
    have := HWU.out
    simp only [List.length_singleton]
    omega
  have HLR := hide (And.intro hlr hlg)
  have hq2 := takeAll_next HB11.out g.l g.a g.c (fun b => w6.heap.size + 2 ≤ b ∧ b < w7.heap.size) (HGL.out w11 HK11.out).1 (fun b hb => ⟨by omega, by omega⟩) (by rw [HTG.out]; have := HWU.out; simp only [List.nil_append]; omega)
  have HQ2 := hide hq2
  clear g0 g1 hq2 hlr hlg
  obtain ⟨g0, g1⟩ := (HGL.out w11 HK11.out).2.2
  have hl711 : w7.heap.size < w11.heap.size := by omega
  go_wp2_with fail
  refine HQ2.out.mono ?_
  rintro e12 w12 ⟨rfl, HB12⟩
  rw [List.append_assoc, ← slots_eq] at HB12
  have hs12 := HB12.out.size
  have HK12 : Hid (∀ b, w3.heap.size ≤ b → b < W7.heap.size → w12.heap[b]? = W7.heap[b]?) := fun b q1 q2 => (HB12.out.same (by omega) (by omega)).trans (HKB.out b q1 q2)
  have hO : Owns w12 (W3.heap.size + 2) w7.heap.size ([] ++ r.slots ++ g.slots) := by
    have oa := (HRL.out w12 (HK57.out w12 HK12.out)).2.1
    have ob := (HGL.out w12 HK12.out).2.1
    rw [List.nil_append]
    exact oa.append ob (.inl (by omega)) (by omega) (by omega) (by omega) (by omega)
  have hwg : ∀ z ∈ r.l, T.wt z.t ≤ 172200040 := fun z hz => by
    have h := wts_in (x := z.t) (l := V.ts r.l) (by rw [V.ts_map]; exact List.mem_map.2 ⟨z, hz, rfl⟩)
    rw [HTR.out] at h
    have := HWU.out
    omega
  have hwg2 : ∀ z ∈ g.l, T.wt z.t ≤ 172200040 := fun z hz => by
    have h := wts_in (x := z.t) (l := V.ts g.l) (by rw [V.ts_map]; exact List.mem_map.2 ⟨z, hz, rfl⟩)
    rw [HTG.out] at h
    have := HWU.out
    omega
  have hln : ∀ z : V, V.ts z.l = ut → z.l.length ≤ 172200040 := fun z hz => by
    have h1 : ∀ l : List V, l.length ≤ T.wts (V.ts l) := fun l => by
      induction l with
      | nil => exact Nat.zero_le _
      | cons q l ih =>
        show l.length + 1 ≤ T.wt q.t + T.wts (V.ts l)
        have := wt_one q.t
        omega
    have h2 := h1 z.l
    rw [hz] at h2
    have := HWU.out
    omega
  have hsm : ∀ z : V, V.ts z.l = ut → (∀ q ∈ z.l, T.wt q.t ≤ 172200040) → ∀ s' ∈ z.slots, ∀ a' m' c', s' = .slice a' m' c' → m' ≤ 1000000000000 := fun z hz hq s' hs' a' m' c' e' => by
    rw [slots_eq] at hs'
    rcases List.mem_append.1 hs' with h | h
    · have := slotss_small z.l 172200040 hq s' h a' m' c' e'
      omega
    · obtain rfl : s' = .slice z.a z.l.length z.c := by simpa using h
      cases e'
      have := hln z hz
      omega
  have how := owned_at HB12.out hO.toX (by have := slots_pos r; simp only [List.length_append, List.length_nil]; omega) (by have := HLR.out; simp only [List.length_append, List.length_nil]; omega) (fun s' hs' a' m' c' e' => by
    rw [List.nil_append] at hs'
    rcases List.mem_append.1 hs' with h | h
    · exact hsm r HTR.out hwg s' h a' m' c' e'
    · exact hsm g HTG.out hwg2 s' h a' m' c' e')
  have HOW := hide how
  have HOB := hide (fun q hq => hO.blocks q hq)
  clear g0 g1 how hO hwg hwg2 hln hsm
  go_wp2_with fail
  refine HOW.out.mono ?_
  rintro e13 w13 ⟨rfl, HT⟩
  have HE := hide ((HBWB.out.trans (HB12.out.below (B := w.heap.size) (by omega) (by omega))).trans (HT.out.keep (B := w.heap.size) (by omega) (fun q hq => by have := HOB.out q hq; omega)))
  go_wp2
  go_ret
  exact ⟨rfl, HE.out⟩
end Go.Proofs.YtgldcchleoklcaaGreatDoor
