/- ValueMakes: its walk. -/
import Derived.Test.YtaedlnliglmomaaDoorVTakes
import Derived.Test.YtaedlnliglmomaaDoorVListO
import Derived.Test.YtaedlnliglmomaaDoorVWeighA
import Derived.Test.YtaedlnliglmomaaDoorVTurn2
import Derived.Test.YtaedlnliglmomaaDoorVREq
namespace Go.Proofs.YtaedlnliglmomaaDoor
open Go.RowKit
set_option linter.unusedVariables false
set_option linter.unusedSimpArgs false

theorem eqT_same {x y : T} (h : x = y) : eqT x y = true := by
  subst h
  unfold eqT
  have := neg_ord x x
  simp only [decide_eq_true_eq]
  omega

set_option maxRecDepth 100000 in
set_option maxHeartbeats 4000000 in
theorem makes_walk (v : V) (w : World) (hv : Lies w.heap.size w v) :
    Calls Tryd.prog 6 #[.slice v.a v.l.length v.c] w fun e w' => e = .returned (.bool true) ∧ Below w.heap.size w w' := by
  obtain ⟨k, n, s, a, c, e, l, rfl⟩ := V.ex v
  rw [V.a_of, V.l_of, V.c_of]
  have HV := hide hv
  have hlc := hv.ok.l
  have hll := hv.ok.c
  clear hv
  go_enter Tryd.func6, Tryd.ntmps6
  go_wp2_with fail
  refine (awake_any w).mono ?_
  rintro e1 w1 ⟨rfl, hb1⟩
  have hs1 := hb1.size
  go_wp2_with fail
  have hv1 := HV.out.keep hb1 (Nat.le_refl _)
  refine (greatallA_any a c w.heap.size l w1 (by omega) hv1.row hv1.sub (by omega) (by omega)).mono ?_
  clear hv1
  rintro e2 w2 (⟨rfl, hb2⟩ | ⟨rfl, hwt, hb2⟩)
  · go_wp2
    go_ret
    exact ⟨rfl, belOn hb1 (by omega) hb2⟩
  have hbw2 : Below w.heap.size w w2 := belOn hb1 (by omega) hb2
  have hs2 := hbw2.size
  clear hb1 hb2 hs1
  go_wp2_with fail
  have hv2 := HV.out.keep hbw2 (Nat.le_refl _)
  refine (lentAll_any l (fun x _ => lent_any x) hwt a c w.heap.size w2 (by omega) hlc hll hv2.row hv2.sub).mono ?_
  clear hv2
  rintro e3 w3 ⟨rfl, HX, hb3⟩
  have hs3 := hb3.size
  have hbw3 : Below w.heap.size w w3 := belOn hbw2 (by omega) hb3
  go_wp2_with fail
  obtain ⟨l', hts, hxb, hxr, g, hg0, hg1, hgl⟩ := HX.out
  have hlen : l'.length = l.length := by simpa [V.ts_length] using congrArg List.length hts
  have hxl : Lent w3 (.of 0 0 ⟨#[]⟩ (some ⟨w2.heap.size, 0, none⟩) (l.length + 3) 0 l') w2.heap.size w3.heap.size :=
    (Lent.iff _ _ _ _ _ _ _ _ _ _).2 ⟨w2.heap.size, Nat.le_refl _, rfl, by rw [hlen], ⟨by decide, by decide, by decide, by decide, by omega, by omega⟩, by rw [hlen]; exact hxb, by rw [hlen]; exact hxr, g, hg0, by rw [hlen]; exact hg1, fun i h => hgl i h⟩
  have HXL := hide hxl
  have HTS := hide hts
  have HLEN := hide hlen
  have HGL := hide hgl
  have HXB := hide hxb
  have HXR := hide hxr
  have HG := hide (And.intro hg0 hg1)
  have HMK1 : Hid (∀ W, Below w3.heap.size w3 W → Calls Tryd.prog 27 #[.slice (some ⟨w2.heap.size, 0, none⟩) l.length (l.length + 3)] W (MadeOfO 21 l' W)) := by
    intro W hW
    have hsz := hW.size
    have hl1 := hxl.lies.keep (w := W) (Q' := fun b => b < w3.heap.size) (fun b hb o => hW.cell (p := ⟨b, o, none⟩) hb.2) (fun b hb => hb.2)
    have q := listedO_any l' (some ⟨w2.heap.size, 0, none⟩) (l.length + 3) w3.heap.size W (by omega) hl1.ok.l hl1.ok.c hl1.row hl1.sub
    rwa [hlen] at q
  have HMK2 : Hid (∀ W, Below w3.heap.size w3 W → Calls Tryd.prog 28 #[.slice (some ⟨w2.heap.size, 0, none⟩) l.length (l.length + 3)] W (MadeOfO 22 l' W)) := by
    intro W hW
    have hsz := hW.size
    have hl1 := hxl.lies.keep (w := W) (Q' := fun b => b < w3.heap.size) (fun b hb o => hW.cell (p := ⟨b, o, none⟩) hb.2) (fun b hb => hb.2)
    have q := mappedO_any l' (some ⟨w2.heap.size, 0, none⟩) (l.length + 3) w3.heap.size W (by omega) hl1.ok.l hl1.ok.c hl1.row hl1.sub
    rwa [hlen] at q
  clear hts hlen hgl hxb hxr hg0 hg1 hxl HX
  have hb33 : Below w3.heap.size w3 w3 := Below.refl _ _
  refine (HMK1.out w3 hb33).mono ?_
  rintro e4 w4 ⟨ya, rfl, HYA, hb4⟩
  have hs4 := hb4.size
  have hb34 : Below w3.heap.size w3 w4 := belOn hb33 (by omega) hb4
  go_wp2_with fail
  obtain ⟨W4, hW4⟩ : ∃ W4, w4.alloc (Obj.cells #[.int .i64 ya.k, .int .u64 ya.n, .string ya.s, .slice ya.a ya.l.length ya.c, .int .i64 ya.e] 25) = W4 := ⟨_, rfl⟩
  have hb44 : Below w4.heap.size w4 W4 := by rw [← hW4]; exact bel1 (Below.refl _ _) (Nat.le_refl _) _
  have bya : BoxV W4 w4.heap.size ya := by rw [← hW4]; exact BoxV.new w4 ya
  have hs44 : W4.heap.size = w4.heap.size + 1 := by rw [← hW4]; simp
  rw [hW4]
  clear hW4
  have hbW4 : Below w3.heap.size w3 W4 := belOn hb34 (by omega) hb44
  refine (HMK2.out W4 hbW4).mono ?_
  rintro e5 w5 ⟨yb, rfl, HYB, hb5⟩
  have hs5 := hb5.size
  have hb35 : Below w3.heap.size w3 w5 := belOn hbW4 (by omega) hb5
  go_wp2_with fail
  obtain ⟨W5, hW5⟩ : ∃ W5, w5.alloc (Obj.cells #[.int .i64 yb.k, .int .u64 yb.n, .string yb.s, .slice yb.a yb.l.length yb.c, .int .i64 yb.e] 25) = W5 := ⟨_, rfl⟩
  have hb55 : Below w5.heap.size w5 W5 := by rw [← hW5]; exact bel1 (Below.refl _ _) (Nat.le_refl _) _
  have byb : BoxV W5 w5.heap.size yb := by rw [← hW5]; exact BoxV.new w5 yb
  have hs55 : W5.heap.size = w5.heap.size + 1 := by rw [← hW5]; simp
  rw [hW5]
  clear hW5
  have hbW5 : Below w3.heap.size w3 W5 := belOn hb35 (by omega) hb55
  refine (HMK1.out W5 hbW5).mono ?_
  rintro e6 w6 ⟨yc, rfl, HYC, hb6⟩
  have hs6 := hb6.size
  have hb36 : Below w3.heap.size w3 w6 := belOn hbW5 (by omega) hb6
  go_wp2_with fail
  obtain ⟨W6, hW6⟩ : ∃ W6, w6.alloc (Obj.cells #[.int .i64 yc.k, .int .u64 yc.n, .string yc.s, .slice yc.a yc.l.length yc.c, .int .i64 yc.e] 25) = W6 := ⟨_, rfl⟩
  have hb66 : Below w6.heap.size w6 W6 := by rw [← hW6]; exact bel1 (Below.refl _ _) (Nat.le_refl _) _
  have byc : BoxV W6 w6.heap.size yc := by rw [← hW6]; exact BoxV.new w6 yc
  have hs66 : W6.heap.size = w6.heap.size + 1 := by rw [← hW6]; simp
  rw [hW6]
  clear hW6
  have hbW6 : Below w3.heap.size w3 W6 := belOn hb36 (by omega) hb66
  refine (HMK2.out W6 hbW6).mono ?_
  rintro e7 w7 ⟨yd, rfl, HYD, hb7⟩
  have hs7 := hb7.size
  have hb37 : Below w3.heap.size w3 w7 := belOn hbW6 (by omega) hb7
  go_wp2_with fail
  obtain ⟨W7, hW7⟩ : ∃ W7, w7.alloc (Obj.cells #[.int .i64 yd.k, .int .u64 yd.n, .string yd.s, .slice yd.a yd.l.length yd.c, .int .i64 yd.e] 25) = W7 := ⟨_, rfl⟩
  have hb77 : Below w7.heap.size w7 W7 := by rw [← hW7]; exact bel1 (Below.refl _ _) (Nat.le_refl _) _
  have byd : BoxV W7 w7.heap.size yd := by rw [← hW7]; exact BoxV.new w7 yd
  have hs77 : W7.heap.size = w7.heap.size + 1 := by rw [← hW7]; simp
  rw [hW7]
  clear hW7
  have hbW7 : Below w3.heap.size w3 W7 := belOn hb37 (by omega) hb77
  have hbw7 : Below w.heap.size w W7 := belOn hbw3 (by omega) hbW7
  have hx7 : Lent W7 (.of 0 0 ⟨#[]⟩ (some ⟨w2.heap.size, 0, none⟩) (l.length + 3) 0 l') w2.heap.size w3.heap.size := HXL.out.keep (fun b o q1 q2 q3 => (hbW7.block b q2).trans q3)
  obtain ⟨b7, k1, k2, k3, k4, k5, k6, g7, k7, k8, k9⟩ := (Lent.iff _ _ _ _ _ _ _ _ _ _).1 hx7
  have hv7 := HV.out.keep hbw7 (Nat.le_refl _)
  have q := asLentAll_any l' l (fun x _ => asLent_any x) b7 g7 a c w2.heap.size w3.heap.size (fun b => b < w.heap.size) W7 k1 k5 k6 k7 k8 k9 (by omega) HTS.out (by rw [HLEN.out]; exact hll) hv7.row hv7.sub (fun b hb => ⟨by omega, by omega⟩)
  cases k2
  rw [HLEN.out] at q
  refine q.mono ?_
  clear q hx7 k1 k3 k4 k5 k6 g7 k7 k8 k9 hv7
  rintro e8 w8 ⟨rfl, ht8⟩
  have hs8 := ht8.size
  have hbw8 : Below w.heap.size w w8 := hbw7.trans (ht8.below (by omega) (by omega))
  have hb67 : Below W6.heap.size W6 W7 := belOn hb7 (by omega) hb77
  have hb57 : Below W5.heap.size W5 W7 := belOn (belOn hb6 (by omega) hb66) (by omega) hb67
  have hb47 : Below W4.heap.size W4 W7 := belOn (belOn hb5 (by omega) hb55) (by omega) hb57
  have HK7 : Hid (∀ k, w3.heap.size ≤ k → k < W7.heap.size → w8.heap[k]? = W7.heap[k]?) := fun k q1 q2 => ht8.block k q2 (by omega)
  have HK6 : Hid (∀ k, w3.heap.size ≤ k → k < W6.heap.size → w8.heap[k]? = W6.heap[k]?) := fun k q1 q2 => (HK7.out k q1 (by omega)).trans (hb67.block k q2)
  have HK5 : Hid (∀ k, w3.heap.size ≤ k → k < W5.heap.size → w8.heap[k]? = W5.heap[k]?) := fun k q1 q2 => (HK7.out k q1 (by omega)).trans (hb57.block k q2)
  have HK4 : Hid (∀ k, w3.heap.size ≤ k → k < W4.heap.size → w8.heap[k]? = W4.heap[k]?) := fun k q1 q2 => (HK7.out k q1 (by omega)).trans (hb47.block k q2)
  have xya : BoxV w8 w4.heap.size ya := (HK4.out _ (by omega) (by omega)).trans bya
  obtain ⟨tya, lya, oya⟩ := HYA.out
  have Lya : Hid (LiesIn (fun b => w3.heap.size ≤ b ∧ b < w4.heap.size) w8 ya) := lya.keep (fun b hb o => World.cell?_of_block ((HK4.out b (by omega) (by omega)).trans (hb44.block b hb.2))) (fun _ h => h)
  have Oya : Hid (Owns w8 w3.heap.size w4.heap.size ya.slots) := oya.keep (fun b q1 q2 => (HK4.out b (by omega) (by omega)).trans (hb44.block b q2)) (Nat.le_refl _) (Nat.le_refl _)
  have Tya : Hid (ya.t = T.of 21 0 ⟨#[]⟩ 0 (V.ts l)) := tya.trans (by rw [HTS.out])
  have xyb : BoxV w8 w5.heap.size yb := (HK5.out _ (by omega) (by omega)).trans byb
  obtain ⟨tyb, lyb, oyb⟩ := HYB.out
  have Lyb : Hid (LiesIn (fun b => W4.heap.size ≤ b ∧ b < w5.heap.size) w8 yb) := lyb.keep (fun b hb o => World.cell?_of_block ((HK5.out b (by omega) (by omega)).trans (hb55.block b hb.2))) (fun _ h => h)
  have Oyb : Hid (Owns w8 W4.heap.size w5.heap.size yb.slots) := oyb.keep (fun b q1 q2 => (HK5.out b (by omega) (by omega)).trans (hb55.block b q2)) (Nat.le_refl _) (Nat.le_refl _)
  have Tyb : Hid (yb.t = T.of 22 0 ⟨#[]⟩ 0 (V.ts l)) := tyb.trans (by rw [HTS.out])
  have xyc : BoxV w8 w6.heap.size yc := (HK6.out _ (by omega) (by omega)).trans byc
  obtain ⟨tyc, lyc, oyc⟩ := HYC.out
  have Lyc : Hid (LiesIn (fun b => W5.heap.size ≤ b ∧ b < w6.heap.size) w8 yc) := lyc.keep (fun b hb o => World.cell?_of_block ((HK6.out b (by omega) (by omega)).trans (hb66.block b hb.2))) (fun _ h => h)
  have Oyc : Hid (Owns w8 W5.heap.size w6.heap.size yc.slots) := oyc.keep (fun b q1 q2 => (HK6.out b (by omega) (by omega)).trans (hb66.block b q2)) (Nat.le_refl _) (Nat.le_refl _)
  have Tyc : Hid (yc.t = T.of 21 0 ⟨#[]⟩ 0 (V.ts l)) := tyc.trans (by rw [HTS.out])
  have xyd : BoxV w8 w7.heap.size yd := (HK7.out _ (by omega) (by omega)).trans byd
  obtain ⟨tyd, lyd, oyd⟩ := HYD.out
  have Lyd : Hid (LiesIn (fun b => W6.heap.size ≤ b ∧ b < w7.heap.size) w8 yd) := lyd.keep (fun b hb o => World.cell?_of_block ((HK7.out b (by omega) (by omega)).trans (hb77.block b hb.2))) (fun _ h => h)
  have Oyd : Hid (Owns w8 W6.heap.size w7.heap.size yd.slots) := oyd.keep (fun b q1 q2 => (HK7.out b (by omega) (by omega)).trans (hb77.block b q2)) (Nat.le_refl _) (Nat.le_refl _)
  have Tyd : Hid (yd.t = T.of 22 0 ⟨#[]⟩ 0 (V.ts l)) := tyd.trans (by rw [HTS.out])
  clear tya tyb tyc tyd lya lyb lyc lyd oya oyb oyc oyd HYA HYB HYC HYD bya byb byc byd HK4 HK5 HK6 HK7 hb47 hb57 hb67 hb44 hb55 hb66 hb77 hb34 hb35 hb36 hb37 hbW4 hbW5 hbW6 hbW7 hb4 hb5 hb6 hb7 ht8 HMK1 HMK2 HXL HTS HLEN HGL HXB HXR HG hb33
  obtain ⟨a0, a1, a2, a3, a4⟩ := xya.cells
  have hl4 : w4.heap.size < w8.heap.size := by omega
  go_wp2_with fail
  clear a0 a1 a2 a3 a4
  obtain ⟨W8, hW8⟩ : ∃ W8, (w8.alloc (Obj.cells #[.int .i64 21, .int .u64 0, .string ⟨#[]⟩, .slice a l.length c, .int .i64 0] 25)).alloc (Obj.cells #[.int .i64 22, .int .u64 0, .string ⟨#[]⟩, .slice a l.length c, .int .i64 0] 25) = W8 := ⟨_, rfl⟩
  have hb88 : Below w8.heap.size w8 W8 := by rw [← hW8]; exact bel2 (Below.refl _ _) (Nat.le_refl _) _ _
  have hs88 : W8.heap.size = w8.heap.size + 2 := by rw [← hW8]; simp
  have xl : BoxV W8 w8.heap.size (.of 21 0 ⟨#[]⟩ a c 0 l) := by
    rw [← hW8]
    have := heap_past (World.alloc_heap_new w8 (Obj.cells #[.int .i64 21, .int .u64 0, .string ⟨#[]⟩, .slice a l.length c, .int .i64 0] 25)) (Obj.cells #[.int .i64 22, .int .u64 0, .string ⟨#[]⟩, .slice a l.length c, .int .i64 0] 25)
    unfold BoxV
    rw [V.k_of, V.n_of, V.s_of, V.a_of, V.l_of, V.c_of, V.e_of]
    exact this
  have xm : BoxV W8 (w8.heap.size + 1) (.of 22 0 ⟨#[]⟩ a c 0 l) := by
    rw [← hW8]
    unfold BoxV
    rw [V.k_of, V.n_of, V.s_of, V.a_of, V.l_of, V.c_of, V.e_of]
    exact heap_at1 _ _ _
  rw [hW8]
  clear hW8
  have hbw88 : Below w.heap.size w W8 := belOn hbw8 (by omega) hb88
  have HLL : Hid (∀ W, Below W8.heap.size W8 W → Lies w8.heap.size W (.of 21 0 ⟨#[]⟩ a c 0 l)) := fun W hW => by
    have h1 := HV.out.keep (belOn hbw88 (by omega) hW) (Nat.le_refl _)
    exact (Lies.mk (n₀ := w.heap.size) ⟨by decide, by decide, by decide, by decide, h1.ok.l, h1.ok.c⟩ h1.row h1.sub).mono (by omega)
  have HLM : Hid (∀ W, Below W8.heap.size W8 W → Lies w8.heap.size W (.of 22 0 ⟨#[]⟩ a c 0 l)) := fun W hW => by
    have h1 := HV.out.keep (belOn hbw88 (by omega) hW) (Nat.le_refl _)
    exact (Lies.mk (n₀ := w.heap.size) ⟨by decide, by decide, by decide, by decide, h1.ok.l, h1.ok.c⟩ h1.row h1.sub).mono (by omega)
  have hb80 : Below W8.heap.size W8 W8 := Below.refl _ _
  have q := requal_any ya (.of 21 0 ⟨#[]⟩ a c 0 l) w8.heap.size W8 (by omega) (LiesIn.keep Lya.out (fun b hb o => (hb80.cell (p := ⟨b, o, none⟩) (by show b < W8.heap.size; omega)).trans (hb88.cell (p := ⟨b, o, none⟩) (by show b < w8.heap.size; omega))) (fun b hb => by show b < w8.heap.size; omega)) (HLL.out W8 hb80)
  rw [V.val_eq, V.val_of, eqT_same (Tya.out.trans (V.t_of _ _ _ _ _ _ _).symm)] at q
  refine q.mono ?_
  clear q
  rintro e9 w9 ⟨rfl, hb9⟩
  have hs9 := hb9.size
  have hb89 : Below W8.heap.size W8 w9 := belOn hb80 (by omega) hb9
  clear hb9
  obtain ⟨a0, a1, a2, a3, a4⟩ := ((xyb.below hb88 (by omega)).below hb89 (by omega)).cells
  obtain ⟨b0, b1, b2, b3, b4⟩ := (xm.below hb89 (by omega)).cells
  rw [V.k_of] at b0
  rw [V.n_of] at b1
  rw [V.s_of] at b2
  rw [V.a_of, V.c_of, V.l_of] at b3
  rw [V.e_of] at b4
  go_wp2_with fail
  clear a0 a1 a2 a3 a4 b0 b1 b2 b3 b4
  have q := requal_any yb (.of 22 0 ⟨#[]⟩ a c 0 l) w8.heap.size w9 (by omega) (LiesIn.keep Lyb.out (fun b hb o => (hb89.cell (p := ⟨b, o, none⟩) (by show b < W8.heap.size; omega)).trans (hb88.cell (p := ⟨b, o, none⟩) (by show b < w8.heap.size; omega))) (fun b hb => by show b < w8.heap.size; omega)) (HLM.out w9 hb89)
  rw [V.val_eq, V.val_of, eqT_same (Tyb.out.trans (V.t_of _ _ _ _ _ _ _).symm)] at q
  refine q.mono ?_
  clear q
  rintro e10 w10 ⟨rfl, hb10⟩
  have hs10 := hb10.size
  have hb810 : Below W8.heap.size W8 w10 := belOn hb89 (by omega) hb10
  clear hb10
  obtain ⟨a0, a1, a2, a3, a4⟩ := ((xyc.below hb88 (by omega)).below hb810 (by omega)).cells
  obtain ⟨b0, b1, b2, b3, b4⟩ := (xl.below hb810 (by omega)).cells
  rw [V.k_of] at b0
  rw [V.n_of] at b1
  rw [V.s_of] at b2
  rw [V.a_of, V.c_of, V.l_of] at b3
  rw [V.e_of] at b4
  go_wp2_with fail
  clear a0 a1 a2 a3 a4 b0 b1 b2 b3 b4
  have q := requal_any yc (.of 21 0 ⟨#[]⟩ a c 0 l) w8.heap.size w10 (by omega) (LiesIn.keep Lyc.out (fun b hb o => (hb810.cell (p := ⟨b, o, none⟩) (by show b < W8.heap.size; omega)).trans (hb88.cell (p := ⟨b, o, none⟩) (by show b < w8.heap.size; omega))) (fun b hb => by show b < w8.heap.size; omega)) (HLL.out w10 hb810)
  rw [V.val_eq, V.val_of, eqT_same (Tyc.out.trans (V.t_of _ _ _ _ _ _ _).symm)] at q
  refine q.mono ?_
  clear q
  rintro e11 w11 ⟨rfl, hb11⟩
  have hs11 := hb11.size
  have hb811 : Below W8.heap.size W8 w11 := belOn hb810 (by omega) hb11
  clear hb11
  obtain ⟨a0, a1, a2, a3, a4⟩ := ((xyd.below hb88 (by omega)).below hb811 (by omega)).cells
  obtain ⟨b0, b1, b2, b3, b4⟩ := (xm.below hb811 (by omega)).cells
  rw [V.k_of] at b0
  rw [V.n_of] at b1
  rw [V.s_of] at b2
  rw [V.a_of, V.c_of, V.l_of] at b3
  rw [V.e_of] at b4
  go_wp2_with fail
  clear a0 a1 a2 a3 a4 b0 b1 b2 b3 b4
  have q := requal_any yd (.of 22 0 ⟨#[]⟩ a c 0 l) w8.heap.size w11 (by omega) (LiesIn.keep Lyd.out (fun b hb o => (hb811.cell (p := ⟨b, o, none⟩) (by show b < W8.heap.size; omega)).trans (hb88.cell (p := ⟨b, o, none⟩) (by show b < w8.heap.size; omega))) (fun b hb => by show b < w8.heap.size; omega)) (HLM.out w11 hb811)
  rw [V.val_eq, V.val_of, eqT_same (Tyd.out.trans (V.t_of _ _ _ _ _ _ _).symm)] at q
  refine q.mono ?_
  clear q
  rintro e12 w12 ⟨rfl, hb12⟩
  have hs12 := hb12.size
  have hb812 : Below W8.heap.size W8 w12 := belOn hb811 (by omega) hb12
  clear hb12
  obtain ⟨a0, a1, a2, a3, a4⟩ := ((xya.below hb88 (by omega)).below hb812 (by omega)).cells
  have hl4 : w4.heap.size < w12.heap.size := by omega
  go_wp2_with fail
  clear a0 a1 a2 a3 a4 hl4
  obtain ⟨WB, hWB⟩ : ∃ WB, w12.alloc (Obj.cells #[.slice none 0 0] 37) = WB := ⟨_, rfl⟩
  have hsB : WB.heap.size = w12.heap.size + 1 := by rw [← hWB]; simp
  have hbB : Below w12.heap.size w12 WB := by rw [← hWB]; exact bel1 (Below.refl _ _) (Nat.le_refl _) _
  have HK0 : Hid (Bk w12.heap.size none [] WB WB) := by
    rw [← hWB]
    exact Bk.start w12
  rw [hWB]
  clear hWB
  have HKB : Hid (∀ k, w3.heap.size ≤ k → k < w8.heap.size → WB.heap[k]? = w8.heap[k]?) := fun k q1 q2 => (hbB.block k (by omega)).trans ((hb812.block k (by omega)).trans (hb88.block k (by omega)))
  have hbwB : Below w.heap.size w WB := belOn (belOn hbw88 (by omega) hb812) (by omega) hbB
  have hwtl : ∀ y : V, ∀ k, y.t = T.of k 0 ⟨#[]⟩ 0 (V.ts l) → T.wt y.t ≤ 100001 := fun y k h => by
    rw [h, T.wt_of]
    have : (⟨#[]⟩ : ByteArray).size = 0 := rfl
    omega
  have wya : Hid (T.wt ya.t ≤ 100001) := hwtl ya _ Tya.out
  have Lya' : Hid (LiesIn (fun b => w3.heap.size ≤ b ∧ b < w8.heap.size) WB ya) := Lya.out.keep (fun b hb o => World.cell?_of_block (HKB.out b (by omega) (by omega))) (fun b hb => ⟨by omega, by omega⟩)
  have Oya' : Hid (Owns WB w3.heap.size w4.heap.size ya.slots) := Oya.out.keep (fun b q1 q2 => HKB.out b (by omega) (by omega)) (Nat.le_refl _) (Nat.le_refl _)
  have Xya : BoxV WB w4.heap.size ya := (HKB.out _ (by omega) (by omega)).trans xya
  have wyb : Hid (T.wt yb.t ≤ 100001) := hwtl yb _ Tyb.out
  have Lyb' : Hid (LiesIn (fun b => w3.heap.size ≤ b ∧ b < w8.heap.size) WB yb) := Lyb.out.keep (fun b hb o => World.cell?_of_block (HKB.out b (by omega) (by omega))) (fun b hb => ⟨by omega, by omega⟩)
  have Oyb' : Hid (Owns WB W4.heap.size w5.heap.size yb.slots) := Oyb.out.keep (fun b q1 q2 => HKB.out b (by omega) (by omega)) (Nat.le_refl _) (Nat.le_refl _)
  have Xyb : BoxV WB w5.heap.size yb := (HKB.out _ (by omega) (by omega)).trans xyb
  have wyc : Hid (T.wt yc.t ≤ 100001) := hwtl yc _ Tyc.out
  have Lyc' : Hid (LiesIn (fun b => w3.heap.size ≤ b ∧ b < w8.heap.size) WB yc) := Lyc.out.keep (fun b hb o => World.cell?_of_block (HKB.out b (by omega) (by omega))) (fun b hb => ⟨by omega, by omega⟩)
  have Oyc' : Hid (Owns WB W5.heap.size w6.heap.size yc.slots) := Oyc.out.keep (fun b q1 q2 => HKB.out b (by omega) (by omega)) (Nat.le_refl _) (Nat.le_refl _)
  have Xyc : BoxV WB w6.heap.size yc := (HKB.out _ (by omega) (by omega)).trans xyc
  have wyd : Hid (T.wt yd.t ≤ 100001) := hwtl yd _ Tyd.out
  have Lyd' : Hid (LiesIn (fun b => w3.heap.size ≤ b ∧ b < w8.heap.size) WB yd) := Lyd.out.keep (fun b hb o => World.cell?_of_block (HKB.out b (by omega) (by omega))) (fun b hb => ⟨by omega, by omega⟩)
  have Oyd' : Hid (Owns WB W6.heap.size w7.heap.size yd.slots) := Oyd.out.keep (fun b q1 q2 => HKB.out b (by omega) (by omega)) (Nat.le_refl _) (Nat.le_refl _)
  have Xyd : BoxV WB w7.heap.size yd := (HKB.out _ (by omega) (by omega)).trans xyd
  clear xya xyb xyc xyd xl xm HLL HLM Lya Lyb Lyc Lyd Oya Oyb Oyc Oyd hb88 hb80 hb89 hb810 hb811 hb812 hwtl hbw88 HKB hbB
  have q := take_next HK0.out ya (fun b => w3.heap.size ≤ b ∧ b < w8.heap.size) (Lya'.out.keep (fun b hb o => World.cell?_of_block (HK0.out.same (k := b) (by have := hb.2; omega) (by have := hb.2; omega))) (fun _ h => h)) (fun b hb => ⟨by omega, by omega⟩) (by have lya := V.slots_len ya; have mya := wya.out; simp only [List.length_append, List.length_nil]; omega)
  rw [V.val_eq] at q
  refine q.mono ?_
  clear q
  rintro e13 w13 ⟨rfl, HB13⟩
  have hs13 := HB13.out.size
  have bz : BoxV w13 w5.heap.size yb := (HB13.out.same (by omega) (by omega)).trans Xyb
  obtain ⟨a0, a1, a2, a3, a4⟩ := bz.cells
  go_wp2_with fail
  clear a0 a1 a2 a3 a4 bz
  have q := take_next HB13.out yb (fun b => w3.heap.size ≤ b ∧ b < w8.heap.size) (Lyb'.out.keep (fun b hb o => World.cell?_of_block (HB13.out.same (k := b) (by have := hb.2; omega) (by have := hb.2; omega))) (fun _ h => h)) (fun b hb => ⟨by omega, by omega⟩) (by have lya := V.slots_len ya; have mya := wya.out; have lyb := V.slots_len yb; have myb := wyb.out; simp only [List.length_append, List.length_nil]; omega)
  rw [V.val_eq] at q
  refine q.mono ?_
  clear q
  rintro e14 w14 ⟨rfl, HB14⟩
  have hs14 := HB14.out.size
  have bz : BoxV w14 w6.heap.size yc := (HB14.out.same (by omega) (by omega)).trans Xyc
  obtain ⟨a0, a1, a2, a3, a4⟩ := bz.cells
  go_wp2_with fail
  clear a0 a1 a2 a3 a4 bz
  have q := take_next HB14.out yc (fun b => w3.heap.size ≤ b ∧ b < w8.heap.size) (Lyc'.out.keep (fun b hb o => World.cell?_of_block (HB14.out.same (k := b) (by have := hb.2; omega) (by have := hb.2; omega))) (fun _ h => h)) (fun b hb => ⟨by omega, by omega⟩) (by have lya := V.slots_len ya; have mya := wya.out; have lyb := V.slots_len yb; have myb := wyb.out; have lyc := V.slots_len yc; have myc := wyc.out; simp only [List.length_append, List.length_nil]; omega)
  rw [V.val_eq] at q
  refine q.mono ?_
  clear q
  rintro e15 w15 ⟨rfl, HB15⟩
  have hs15 := HB15.out.size
  have bz : BoxV w15 w7.heap.size yd := (HB15.out.same (by omega) (by omega)).trans Xyd
  obtain ⟨a0, a1, a2, a3, a4⟩ := bz.cells
  go_wp2_with fail
  clear a0 a1 a2 a3 a4 bz
  have q := take_next HB15.out yd (fun b => w3.heap.size ≤ b ∧ b < w8.heap.size) (Lyd'.out.keep (fun b hb o => World.cell?_of_block (HB15.out.same (k := b) (by have := hb.2; omega) (by have := hb.2; omega))) (fun _ h => h)) (fun b hb => ⟨by omega, by omega⟩) (by have lya := V.slots_len ya; have mya := wya.out; have lyb := V.slots_len yb; have myb := wyb.out; have lyc := V.slots_len yc; have myc := wyc.out; have lyd := V.slots_len yd; have myd := wyd.out; simp only [List.length_append, List.length_nil]; omega)
  rw [V.val_eq] at q
  refine q.mono ?_
  clear q
  rintro e16 w16 ⟨rfl, HB16⟩
  have hs16 := HB16.out.size
  go_wp2_with fail
  have hO : Owns w16 w3.heap.size w8.heap.size ([] ++ ya.slots ++ yb.slots ++ yc.slots ++ yd.slots) := by
    have hk : ∀ b, w3.heap.size ≤ b → b < w8.heap.size → w16.heap[b]? = WB.heap[b]? := fun b q1 q2 => HB16.out.same (by omega) (by omega)
    have oa := Oya'.out.keep (w' := w16) (fun b q1 q2 => hk b (by omega) (by omega)) (Nat.le_refl _) (Nat.le_refl _)
    have ob := Oyb'.out.keep (w' := w16) (fun b q1 q2 => hk b (by omega) (by omega)) (Nat.le_refl _) (Nat.le_refl _)
    have oc := Oyc'.out.keep (w' := w16) (fun b q1 q2 => hk b (by omega) (by omega)) (Nat.le_refl _) (Nat.le_refl _)
    have od := Oyd'.out.keep (w' := w16) (fun b q1 q2 => hk b (by omega) (by omega)) (Nat.le_refl _) (Nat.le_refl _)
    rw [List.nil_append]
    exact (((oa.append ob (lo := w3.heap.size) (hi := w5.heap.size) (.inl (by omega)) (by omega) (by omega) (by omega) (by omega)).append oc (lo := w3.heap.size) (hi := w6.heap.size) (.inl (by omega)) (by omega) (by omega) (by omega) (by omega)).append od (.inl (by omega)) (by omega) (by omega) (by omega) (by omega))
  have lya := V.slots_len ya
  have lyb := V.slots_len yb
  have lyc := V.slots_len yc
  have lyd := V.slots_len yd
  have mya := wya.out
  have myb := wyb.out
  have myc := wyc.out
  have myd := wyd.out
  have pya := slots_pos ya
  refine (owned_at HB16.out hO.toX (by simp only [List.length_append, List.length_nil]; omega) (by simp only [List.length_append, List.length_nil]; omega) (fun s' hs' a' m' c' e' => ?_)).mono ?_
  · simp only [List.nil_append, List.mem_append] at hs'
    rcases hs' with ((h | h) | h) | h
    · have := slots_small ya s' h a' m' c' e'; omega
    · have := slots_small yb s' h a' m' c' e'; omega
    · have := slots_small yc s' h a' m' c' e'; omega
    · have := slots_small yd s' h a' m' c' e'; omega
  clear lya lyb lyc lyd mya myb myc myd pya
  rintro e17 w17 ⟨rfl, HT⟩
  have HE := hide (((hbwB.trans (HB16.out.below (B := w.heap.size) (by omega) (by omega))).trans (HT.out.keep (B := w.heap.size) (by omega) (fun g hg => by have := hO.blocks g hg; omega))))
  go_wp2
  go_ret
  exact ⟨rfl, HE.out⟩
end Go.Proofs.YtaedlnliglmomaaDoor
