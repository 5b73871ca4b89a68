import Derived.Test.YtlpngpininkjnaaGreatDoorHBkPZ
import Derived.Test.YtlpngpininkjnaaGreatDoorHLiveZ
import Derived.Test.YtlpngpininkjnaaGreatDoorCGreatZ
import Derived.Test.YtlpngpininkjnaaGreatDoorHFoLZ
import Derived.Test.YtlpngpininkjnaaGreatDoorHFoNZ
import Derived.Test.YtlpngpininkjnaaGreatDoorVStepZ

/- ShapeBack: the walk. -/
namespace Go.Proofs.YtlpngpininkjnaaGreatDoor
open Go.RowKit
set_option linter.unusedVariables false
set_option linter.unusedSimpArgs false
theorem eqsT_self (l : List T) : eqsT l l = true := by
  have h := neg_ords l (fun x _ u => neg_ord x u) l
  have h0 : T.ords l l = 0 := by omega
  unfold eqsT
  simp [h0]
theorem packR_bad {kind : Int} {l : List V} (h : (packR kind l).2 ≠ 0) : (packR kind l).1 = nul := by
  unfold packR packT at h ⊢
  cases hf : ftab kind with
  | none => rfl
  | some fs =>
    rw [hf] at h
    dsimp only at h ⊢
    by_cases hl : l.length = fs.length
    · rw [if_neg (by simpa using hl)] at h ⊢
      unfold endT at h ⊢
      split
      · rfl
      · rename_i hz
        rw [if_neg hz] at h
        split
        · rfl
        · rename_i hd
          rw [if_neg hd] at h
          exact absurd rfl h
    · rw [if_pos hl]
theorem nul_of {y : V} (h : y.t = nul) : y.k = 0 ∧ y.l.length = 0 := by
  have h1 := k_t y
  have h2 := l_t y
  rw [h] at h1 h2
  refine ⟨h1.symm, ?_⟩
  have h3 : V.l nul = [] := V.l_of _ _ _ _ _ _ _
  rw [h3] at h2
  rw [← V.ts_length, ← h2]
  rfl
theorem lies_up {Q : Nat → Prop} {w : World} {y : V} {m : Nat} (h : LiesIn Q w y) (hq : ∀ b, Q b → b < m) : Lies m w y := LiesIn.keep h (fun _ _ _ => rfl) hq
end Go.Proofs.YtlpngpininkjnaaGreatDoor


/- ShapeForms: the walk. -/
namespace Go.Proofs.YtlpngpininkjnaaGreatDoor
open Go.RowKit
set_option linter.unusedVariables false
set_option linter.unusedSimpArgs false
set_option maxRecDepth 100000 in
theorem names_small : krows.all (fun r => decide (r.2.1.size ≤ 1000)) = true := by kernel_rfl
theorem name_small (k : Int) : (nameOf k).size ≤ 1000 := by
  unfold nameOf
  cases hf : krows.find? (fun q => q.1 == k) with
  | none => decide
  | some q => exact of_decide_eq_true (List.all_eq_true.1 names_small q (List.mem_of_find?_eq_some hf))
/-- the other form, as a value -/
def formV (kk : Int) (g : Nat) (A : Option Addr) (C : Nat) (L : List V) : V := V.of 24 0 ⟨#[]⟩ (some ⟨g, 0, none⟩) 2 0 [leaf 20 0 (nameOf kk), V.of 21 0 ⟨#[]⟩ A C 0 L]
theorem formV_val (kk : Int) (g : Nat) (A : Option Addr) (C : Nat) (L : List V) : (formV kk g A C L).val = .agg #[.int .i64 24, .int .u64 0, .string ⟨#[]⟩, .slice (some ⟨g, 0, none⟩) 2 2, .int .i64 0] := by
  unfold formV
  rw [V.val_of]
  rfl
theorem formV_t (kk : Int) (g : Nat) (A : Option Addr) (C : Nat) (L : List V) : (formV kk g A C L).t = T.of 24 0 ⟨#[]⟩ 0 [leaf 20 0 (nameOf kk), T.of 21 0 ⟨#[]⟩ 0 (V.ts L)] := by
  unfold formV
  rw [V.t_of]
  simp only [V.ts]
  rw [leaf_t, V.t_of]
theorem formV_lies {kk : Int} {g : Nat} {A : Option Addr} {C : Nat} {L : List V} {w : World} (hg : w.heap[g]? = some (.cells #[.int .i64 20, .int .u64 0, .string (nameOf kk), .slice none 0 0, .int .i64 0, .int .i64 21, .int .u64 0, .string ⟨#[]⟩, .slice A L.length C, .int .i64 0] 30 (0, 0))) (hC : L.length ≤ C) (hL : L.length ≤ 100) (hr : 0 < L.length → ∃ gl, A = some ⟨gl, 0, none⟩ ∧ gl < w.heap.size ∧ Row w gl 0 L) (hs : ∀ x ∈ L, Lies w.heap.size w x) : Lies w.heap.size w (formV kk g A C L) := by
  have hc : ∀ o v, (#[.int .i64 20, .int .u64 0, .string (nameOf kk), .slice none 0 0, .int .i64 0, .int .i64 21, .int .u64 0, .string ⟨#[]⟩, .slice A L.length C, .int .i64 0] : Array Value)[o]? = some v → w.cell? ⟨g, o, none⟩ = some v := fun o v h => by
    unfold World.cell?
    simp only [hg]
    exact h
  have hnm := name_small kk
  refine .mk ⟨by omega, by omega, by decide, by omega, by simp, by simp⟩ (fun _ => ⟨g, 0, rfl, (Array.getElem?_eq_some_iff.1 hg).1, ?_⟩) (fun x hx => ?_)
  · intro i hi
    have hi2 : i < 2 := by simpa using hi
    have : i = 0 ∨ i = 1 := by omega
    rcases this with rfl | rfl
    · refine ⟨hc 0 _ rfl, hc 1 _ rfl, hc 2 _ rfl, ?_, hc 4 _ rfl⟩
      have := hc 3 _ rfl
      simpa [leaf, V.l_of, V.a_of, V.c_of] using this
    · refine ⟨hc 5 _ rfl, hc 6 _ rfl, hc 7 _ rfl, ?_, hc 9 _ rfl⟩
      have := hc 8 _ rfl
      simpa [V.l_of, V.a_of, V.c_of] using this
  · simp only [List.mem_cons, List.not_mem_nil, or_false] at hx
    rcases hx with rfl | rfl
    · exact leaf_lies _ _ _ _ _ (by decide) (by decide) (by omega)
    · exact .mk ⟨by omega, by omega, by decide, by omega, hC, by omega⟩ (fun h0 => by
        obtain ⟨gl, e, h1, h2⟩ := hr h0
        exact ⟨gl, 0, e, h1, h2⟩) hs
theorem Bools.mono {n₀ n₁ : Nat} {w : World} {a : Option Addr} {rs : List Bool} (h : Bools n₀ w a rs) (hn : n₀ ≤ n₁) : Bools n₁ w a rs := fun h0 => by
  obtain ⟨b, o, e, h1, h2⟩ := h h0
  exact ⟨b, o, e, by omega, h2⟩
theorem set_same {w : World} {q : Addr} {v : Value} (h : w.cell? q = some v) (p : Addr) : (w.setCell q v).cell? p = w.cell? p := by
  by_cases e : q = p
  · subst e
    rw [World.cell?_setCell_same _ _ _ h, h]
  · exact World.cell?_setCell_other _ _ _ _ e
theorem zero_again {w9 : World} {g8 g' N B : Nat} {V : Value} {cs : Array Value} {t : TypeId} (hne : g8 ≠ g') (hg : w9.heap[g8]? = some (.cells cs t (0, 0))) (hB1 : B ≤ g8) (hB2 : B ≤ g') (z0 : w9.cell? ⟨g', N * 5, none⟩ = some (.int .i64 0)) (z1 : w9.cell? ⟨g', N * 5 + 1, none⟩ = some (.int .u64 0)) (z2 : w9.cell? ⟨g', N * 5 + 2, none⟩ = some (.string ⟨#[]⟩)) (z3 : w9.cell? ⟨g', N * 5 + 3, none⟩ = some (.slice none 0 0)) (z4 : w9.cell? ⟨g', N * 5 + 4, none⟩ = some (.int .i64 0)) :
    ∀ Z, ((((((w9.setCell ⟨g8, 8, none⟩ V).setCell ⟨g', N * 5, none⟩ (.int .i64 0)).setCell ⟨g', N * 5 + 1, none⟩ (.int .u64 0)).setCell ⟨g', N * 5 + 2, none⟩ (.string ⟨#[]⟩)).setCell ⟨g', N * 5 + 3, none⟩ (.slice none 0 0)).setCell ⟨g', N * 5 + 4, none⟩ (.int .i64 0)) = Z →
      Z.heap[g8]? = some (.cells (cs.setIfInBounds 8 V) t (0, 0)) ∧ (∀ o, Z.cell? ⟨g', o, none⟩ = w9.cell? ⟨g', o, none⟩) ∧ Z.heap.size = w9.heap.size ∧ Below B w9 Z := by
  intro Z hZ
  have e : ∀ o, (w9.setCell ⟨g8, 8, none⟩ V).cell? ⟨g', o, none⟩ = w9.cell? ⟨g', o, none⟩ := fun o => World.cell?_setCell_other _ _ _ _ (fun h => hne (by cases h; rfl))
  have e0 := fun o => (set_same ((e _).trans z0) ⟨g', o, none⟩).trans (e o)
  have e1 := fun o => (set_same ((e0 _).trans z1) ⟨g', o, none⟩).trans (e0 o)
  have e2 := fun o => (set_same ((e1 _).trans z2) ⟨g', o, none⟩).trans (e1 o)
  have e3 := fun o => (set_same ((e2 _).trans z3) ⟨g', o, none⟩).trans (e2 o)
  have e4 := fun o => (set_same ((e3 _).trans z4) ⟨g', o, none⟩).trans (e3 o)
  subst hZ
  refine ⟨?_, e4, by simp [World.setCell], ?_⟩
  · rw [heap_setCell_other _ _ _ _ hne, heap_setCell_other _ _ _ _ hne, heap_setCell_other _ _ _ _ hne, heap_setCell_other _ _ _ _ hne, heap_setCell_other _ _ _ _ hne]
    exact heap_setCell_same _ _ _ _ _ _ hg
  · exact ((((((Below.refl B w9).setCell (p := ⟨g8, 8, none⟩) hB1 _).setCell (p := ⟨g', N * 5, none⟩) hB2 _).setCell (p := ⟨g', N * 5 + 1, none⟩) hB2 _).setCell (p := ⟨g', N * 5 + 2, none⟩) hB2 _).setCell (p := ⟨g', N * 5 + 3, none⟩) hB2 _).setCell (p := ⟨g', N * 5 + 4, none⟩) hB2 _
theorem newsZ (X : World) (v1 v2 v3 v4 v5 : Value) (t : TypeId) : ∀ q u, ([v1, v2, v3, v4, v5] : List Value)[q]? = some u → (X.alloc (.cells #[v1, v2, v3, v4, v5] t)).cell? ((⟨X.heap.size, 0, none⟩ : Addr).add q) = some u := fun q u hq => by
  have hql : q < 5 := by have := (List.getElem?_eq_some_iff.1 hq).1; simpa using this
  have hh := World.alloc_heap_new X (Obj.cells #[v1, v2, v3, v4, v5] t)
  have e1 : (⟨X.heap.size, 0, none⟩ : Addr).add q = ⟨X.heap.size, q, none⟩ := by by_cases h : q = 0 <;> simp [Addr.add, h]
  rw [e1]
  simp only [World.cell?, hh]
  have : q = 0 ∨ q = 1 ∨ q = 2 ∨ q = 3 ∨ q = 4 := by omega
  rcases this with rfl | rfl | rfl | rfl | rfl <;> simpa using hq
theorem LongP.lies {kk : Int} {fs : List FS} {ol : List V} {rs : List Bool} {tl : Bool} {n₀ B g m : Nat} {A : Option Addr} {C : Nat} {w : World} (h : LongP kk fs ol rs tl n₀ B g m A C w) (hn : n₀ ≤ w.heap.size) (hf : fs.length ≤ 20) :
    ∃ L : List V, Lies w.heap.size w (formV kk g A C L) ∧ L.length = m ∧ V.ts L = (longL fs (V.ts ol) rs).take m ∧ ∀ i (h : i < (longL fs (V.ts ol) rs).length), m ≤ i → (longL fs (V.ts ol) rs)[i].k = 0 := by
  obtain ⟨⟨h1, h2⟩, h3, h4, L, h5, h6, h7, h8, h9, h10, h11⟩ := h
  have hl : (L.take m).length = m := by rw [List.length_take]; omega
  refine ⟨L.take m, formV_lies (by rw [hl]; exact h3) (by omega) (by omega) (fun h0 => ?_) (fun x hx => (h11 x (List.mem_of_mem_take hx)).mono hn), hl, ?_, ?_⟩
  · obtain ⟨gl, e, _, q2, _, q3⟩ := h10 (by omega)
    exact ⟨gl, e, q2, q3⟩
  · rw [← h5, V.ts_map, V.ts_map, List.map_take]
  · intro i hi hm
    have hi' : i < L.length := by rw [← h5, V.ts_length] at hi; exact hi
    have h12 := h8 i hi' hm
    have e : (longL fs (V.ts ol) rs)[i] = L[i].t := by
      have : (longL fs (V.ts ol) rs)[i]? = some L[i].t := by
        rw [← h5, V.ts_map, List.getElem?_map, List.getElem?_eq_getElem hi']
        rfl
      rw [List.getElem?_eq_getElem hi] at this
      exact Option.some.inj this
    rw [e, k_t]
    exact h12
set_option maxRecDepth 100000 in
set_option maxHeartbeats 40000000 in
theorem forms_walk (kk : Int) (x : V) (ra : Option Addr) (rs : List Bool) (rc : Nat) (tl : Bool) (w : World) (wk : -9223372036854775808 ≤ kk ∧ kk ≤ 9223372036854775807) (hx : Lies w.heap.size w x) (hr : Bools w.heap.size w ra rs) (hrl : rs.length ≤ rc ∧ rs.length ≤ 281474976710656) (hT : Lib.Utf8Tabs 0 1 w) :
    Calls Tryz.prog 3 #[.agg #[.int .i64 kk, .slice x.a x.l.length x.c], .slice ra rs.length rc, .bool tl] w fun e w' => e = .returned (.bool true) ∧ Below w.heap.size w w' := by
  have hxb := lies_bare hx
  obtain ⟨W0, hW0⟩ : ∃ W0, w.alloc (Obj.cells #[.int .i64 kk, .slice x.a x.l.length x.c] 24) = W0 := ⟨_, rfl⟩
  have hs0 : W0.heap.size = w.heap.size + 1 := by rw [← hW0]; simp
  have hb0 : Below w.heap.size w W0 := by rw [← hW0]; exact bel1 (Below.refl _ _) (Nat.le_refl _) _
  have xr : BoxR W0 w.heap.size kk x.a x.l.length x.c := by rw [← hW0]; exact World.alloc_heap_new _ _
  have HTB : Hid (∀ W', Below w.heap.size w W' → Lib.Utf8Tabs 0 1 W') := fun W' h => tabs_below hT h
  have HRB : Hid (∀ W', Below w.heap.size w W' → Bools w.heap.size W' ra rs) := fun W' h => hr.keep h (Nat.le_refl _)
  have HRL := hide hrl
  have HGR : Hid (∀ W', Below w.heap.size w W' → Calls Tryz.prog 4 #[.slice x.a x.l.length x.c] W' fun e w' => ∃ g, e = .returned (.bool g) ∧ Below W'.heap.size W' w') := fun W' h => by
    have hk := hxb.keep h (Nat.le_refl _)
    refine (greatallA_any x.a x.c w.heap.size x.l W' h.size hk.row hk.sub hk.ok.l hk.ok.c).mono ?_
    rintro e w' (⟨h2, h3⟩ | ⟨h2, _, h3⟩)
    · exact ⟨_, h2, h3⟩
    · exact ⟨_, h2, h3⟩
  have HPK : Hid (∀ W', Below w.heap.size w W' → Calls Tryz.prog 6 #[.agg #[.int .i64 kk, .slice x.a x.l.length x.c]] W' (fun e w' => ∃ y : V, e = VN y (packR kk x.l).2 ∧ Hid (y.t = (packR kk x.l).1 ∧ LiesIn (fun b => W'.heap.size + 2 ≤ b ∧ b < w'.heap.size) w' y) ∧ Below W'.heap.size W' w')) := fun W' h => pack_any kk x.a x.l x.c w.heap.size W' h.size (hxb.keep h (Nat.le_refl _)) (HTB.out W' h)
  have HPG : Hid ((packR kk x.l).2 = 0 → ∃ fs ts, packR kk x.l = (laidT kk ts, 0) ∧ ftab kk = some fs ∧ x.l.length = fs.length ∧ Good rep kk fs ts ∧ T.dp (laidT kk ts) ≤ 32 ∧ ∀ t ∈ ts, T.dp t ≤ 32) := fun h => packR_good h
  generalize hpr : packR kk x.l = pr at HPK HPG
  obtain ⟨pt, pn⟩ := pr
  dsimp only at HPK HPG
  obtain ⟨r0, r1⟩ := xr.cells
  have hw00 : w.heap.size < W0.heap.size := by omega
  have HW0 := hide hW0
  have HS0 := hide hs0
  obtain ⟨R, hR⟩ : ∃ R, rs.length = R := ⟨_, rfl⟩
  rw [hR]
  have HR := hide hR
  clear hW0 hx hT hxb hpr hr hrl hs0 hR
  go_enter Tryz.func3, Tryz.ntmps3
  go_wp2_with fail
  rw [HW0.out]
  refine (HGR.out _ hb0).mono ?_
  rintro e1 w1 ⟨g1, rfl, hb1⟩
  have hs1 := hb1.size
  have hbw1 : Below w.heap.size w w1 := belOn hb0 (by omega) hb1
  go_wp2_with fail
  refine (live_any w1 (HTB.out _ hbw1)).mono ?_
  rintro e2 w2 ⟨rfl, hb2⟩
  have hb02 : Below W0.heap.size W0 w2 := belOn hb1 hs1 hb2
  have hs2 := hb02.size
  have hbw2 : Below w.heap.size w w2 := belOn hb0 (by omega) hb02
  clear r0 r1
  cases g1
  rotate_left
  · go_wp2
    go_ret
    exact ⟨rfl, hbw2⟩
  obtain ⟨r0, r1⟩ := (xr.below hb02 (by omega)).cells
  have hz2 : w.heap.size < w2.heap.size := by omega
  go_wp2_with fail
  refine (HPK.out _ hbw2).mono ?_
  rintro e3 w3 ⟨y, rfl, HY, hb3⟩
  have hs3 := hb3.size
  have hbw3 : Below w.heap.size w w3 := belOn hbw2 (by omega) hb3
  unfold VN
  clear r0 r1
  by_cases hpn : pn = 0
  rotate_left
  · have hpb : (pn == 0) = false := by simpa using hpn
    have hpx : (pn != 0) = true := by simpa using hpn
    go_wp2
    go_ret
    exact ⟨rfl, bel1 hbw3 hbw3.size _⟩
  subst hpn
  obtain ⟨fs0, ts, hpe, hft, hxl, hgd, hdp, _⟩ := HPG.out rfl
  have hyt : y.t = laidT kk ts := HY.out.1.trans (congrArg Prod.fst hpe)
  have hyl3 : Lies w3.heap.size w3 y := lies_up HY.out.2 (fun b hb => by show b < w3.heap.size; have : _ ∧ _ := hb; omega)
  obtain ⟨a2, c2, d, a3, c3, ol, rfl, hdt, hots⟩ := form_laid hyt
  obtain ⟨b2, o2, rfl, hb2l, hrow2⟩ := hyl3.row (by simp)
  have hdn : d.n = kk := by
    have h1 := n_t d
    rw [hdt] at h1
    exact h1.symm
  have hN20 := (ftab_ok hft).1
  have hds : dsOf kk = fs0.map FS.d := by unfold dsOf; rw [hft]; rfl
  rw [hds] at hots
  have hsay := longL_says hft hgd rs
  rw [← hots] at hsay
  have holN : ol.length ≤ fs0.length := by
    rw [← V.ts_length, hots, List.length_take, outs_len ts (fs0.map FS.d) (by rw [List.length_map, hgd.1]), hgd.1]
    omega
  have hdp' := hdp
  obtain ⟨W3, hW3⟩ : ∃ W3, w3.alloc (Obj.cells #[.int .i64 24, .int .u64 0, .string ⟨#[]⟩, .slice (some ⟨b2, o2, none⟩) 2 c2, .int .i64 0] 30) = W3 := ⟨_, rfl⟩
  have hsW3 : W3.heap.size = w3.heap.size + 1 := by rw [← hW3]; simp
  have hb33 : Below w3.heap.size w3 W3 := by rw [← hW3]; exact bel1 (Below.refl _ _) (Nat.le_refl _) _
  have hx3 : W3.heap[w3.heap.size]? = some (.cells #[.int .i64 24, .int .u64 0, .string ⟨#[]⟩, .slice (some ⟨b2, o2, none⟩) 2 c2, .int .i64 0] 30 (0, 0)) := by rw [← hW3]; exact World.alloc_heap_new _ _
  have hbwW3 : Below w.heap.size w W3 := belOn hbw3 hbw3.size hb33
  have HV : Hid (∀ W', Below W3.heap.size W3 W' → (W'.cell? ⟨w3.heap.size, 0, none⟩ = some (.int .i64 24) ∧ W'.cell? ⟨w3.heap.size, 1, none⟩ = some (.int .u64 0) ∧ W'.cell? ⟨w3.heap.size, 2, none⟩ = some (.string ⟨#[]⟩) ∧ W'.cell? ⟨w3.heap.size, 3, none⟩ = some (.slice (some ⟨b2, o2, none⟩) 2 c2) ∧ W'.cell? ⟨w3.heap.size, 4, none⟩ = some (.int .i64 0)) ∧ w3.heap.size < W'.heap.size ∧ Below w.heap.size w W') := fun W' h => by
    have hxx := (h.block w3.heap.size (by omega)).trans hx3
    have hsz := h.size
    refine ⟨⟨?_, ?_, ?_, ?_, ?_⟩, by omega, belOn hbwW3 hbwW3.size h⟩ <;> (unfold World.cell?; simp only [hxx]; rfl)
  have HLG : Hid (∀ W', Below W3.heap.size W3 W' → ∀ t, Calls Tryz.prog 7 #[.agg #[.int .i64 24, .int .u64 0, .string ⟨#[]⟩, .slice (some ⟨b2, o2, none⟩) 2 c2, .int .i64 0], .slice ra R rc, .bool t] W' fun e w' => ∃ (g m : Nat) (A : Option Addr) (C : Nat), e = .returned (.agg #[.int .i64 24, .int .u64 0, .string ⟨#[]⟩, .slice (some ⟨g, 0, none⟩) 2 2, .int .i64 0]) ∧ Hid (LongP kk fs0 ol rs t w3.heap.size W'.heap.size g m A C w') ∧ Below W'.heap.size W' w') := fun W' h t => by
    have hsz := h.size
    have hb3' : Below w3.heap.size w3 W' := belOn hb33 (by omega) h
    have hbo : Bools w3.heap.size W' ra rs := (HRB.out W' (belOn hbwW3 hbwW3.size h)).mono hbw3.size
    have h1 := long_any hft rfl d ol a3 c3 b2 o2 c2 rs ra rc t w3.heap.size W' (by omega) (hyl3.keep hb3' (Nat.le_refl _)) hdn holN hbo HRL.out
    rw [HR.out] at h1
    exact h1
  have HUV : Hid (∀ W', Below W3.heap.size W3 W' → Calls Tryz.prog 8 #[.agg #[.int .i64 24, .int .u64 0, .string ⟨#[]⟩, .slice (some ⟨b2, o2, none⟩) 2 c2, .int .i64 0]] W' (fun e w' => ∃ y : V, e = .returned (.tuple #[.agg #[.int .i64 kk, .slice y.a y.l.length y.c], .int .i64 0, .int .i64 0]) ∧ Hid (V.ts y.l = ts ∧ LiesIn (fun b => W'.heap.size + 2 ≤ b ∧ b < w'.heap.size) w' y) ∧ Below W'.heap.size W' w')) := fun W' h => by
    have hsz := h.size
    have h1 := unpack_any _ w3.heap.size W' (by omega) (hyl3.keep (belOn hb33 (by omega) h) (Nat.le_refl _)) (HTB.out W' (belOn hbwW3 hbwW3.size h))
    rw [V.val_of, unp_of_good hft hgd hdp hyt] at h1
    exact h1
  have HFU : Hid (∀ (L : List V) (m g : Nat) (A : Option Addr) (C : Nat), V.ts L = (longL fs0 (V.ts ol) rs).take m → (∀ i (h : i < (longL fs0 (V.ts ol) rs).length), m ≤ i → (longL fs0 (V.ts ol) rs)[i].k = 0) → unpR (formV kk g A C L) = ((kk, ts), 0, 0)) := fun L m g A C h1 h2 =>
    forms_unp hft hgd hdp (says_take hgd hsay m h2) (by rw [formV_t, h1])
  have HFM : Hid (∀ (L : List V) (g : Nat) (A : Option Addr) (C : Nat), V.ts L = longL fs0 (V.ts ol) rs ++ [nul] → unpR (formV kk g A C L) = ((0, []), (fs0.length : Int), 71)) := fun L g A C h1 =>
    forms_more hft hgd hdp hsay (longL_len _ _ _) (by rw [formV_t, h1])
  have HN20 := hide hN20
  have HW3 := hide hW3
  obtain ⟨N, hN⟩ : ∃ N, fs0.length = N := ⟨_, rfl⟩
  have HN := hide hN
  rw [V.k_of, V.n_of, V.s_of, V.a_of, V.l_of, V.c_of, V.e_of]
  simp only [List.length_cons, List.length_nil, Nat.reduceAdd]
  clear hW3 hx3 hyl3 hrow2 hb2l hdt hots hds hsay holN hgd hdp hdp' hyt hpe hxl hft hdn HY HPG HPK hN hN20
  obtain ⟨⟨v0, v1, v2, v3, v4⟩, hz3, _⟩ := HV.out W3 (Below.refl _ _)
  go_wp2_with fail
  rw [HW3.out]
  clear HW3
  try go_wp2_with fail
  refine (HLG.out _ (Below.refl _ _) tl).mono ?_
  rintro e4 w4 ⟨g, m, A, C, rfl, HL4, hb4⟩
  have hs4 := hb4.size
  clear v0 v1 v2 v3 v4 hz3
  obtain ⟨L4, hl4, hm4, ht4, hz4⟩ := HL4.out.lies (by omega) HN20.out
  have hu4 := HFU.out L4 m g A C ht4 hz4
  obtain ⟨W4, hW4⟩ : ∃ W4, w4.alloc (Obj.cells #[.int .i64 24, .int .u64 0, .string ⟨#[]⟩, .slice (some ⟨g, 0, none⟩) 2 2, .int .i64 0] 30) = W4 := ⟨_, rfl⟩
  have hsW4 : W4.heap.size = w4.heap.size + 1 := by rw [← hW4]; simp
  have hb44 : Below w4.heap.size w4 W4 := by rw [← hW4]; exact bel1 (Below.refl _ _) (Nat.le_refl _) _
  have hx4 : W4.heap[w4.heap.size]? = some (.cells #[.int .i64 24, .int .u64 0, .string ⟨#[]⟩, .slice (some ⟨g, 0, none⟩) 2 2, .int .i64 0] 30 (0, 0)) := by rw [← hW4]; exact World.alloc_heap_new _ _
  have hb34 : Below W3.heap.size W3 W4 := belOn hb4 (by omega) hb44
  have HZ : Hid (∀ W', Below W4.heap.size W4 W' → (W'.cell? ⟨w4.heap.size, 0, none⟩ = some (.int .i64 24) ∧ W'.cell? ⟨w4.heap.size, 1, none⟩ = some (.int .u64 0) ∧ W'.cell? ⟨w4.heap.size, 2, none⟩ = some (.string ⟨#[]⟩) ∧ W'.cell? ⟨w4.heap.size, 3, none⟩ = some (.slice (some ⟨g, 0, none⟩) 2 2) ∧ W'.cell? ⟨w4.heap.size, 4, none⟩ = some (.int .i64 0)) ∧ w4.heap.size < W'.heap.size ∧ Below W3.heap.size W3 W') := fun W' h => by
    have hxx := (h.block w4.heap.size (by omega)).trans hx4
    have hsz := h.size
    refine ⟨⟨?_, ?_, ?_, ?_, ?_⟩, by omega, belOn hb34 (by omega) h⟩ <;> (unfold World.cell?; simp only [hxx]; rfl)
  have HUW : Hid (∀ W', Below W4.heap.size W4 W' → Calls Tryz.prog 8 #[.agg #[.int .i64 24, .int .u64 0, .string ⟨#[]⟩, .slice (some ⟨g, 0, none⟩) 2 2, .int .i64 0]] W' (fun e w' => ∃ y : V, e = .returned (.tuple #[.agg #[.int .i64 kk, .slice y.a y.l.length y.c], .int .i64 0, .int .i64 0]) ∧ Hid (V.ts y.l = ts ∧ LiesIn (fun b => W'.heap.size + 2 ≤ b ∧ b < w'.heap.size) w' y) ∧ Below W'.heap.size W' w')) := fun W' h => by
    have hsz := h.size
    have h1 := unpack_any _ w4.heap.size W' (by omega) (hl4.keep (belOn hb44 (by omega) h) (Nat.le_refl _)) (HTB.out W' (belOn hbwW3 hbwW3.size (belOn hb34 (by omega) h)))
    rw [formV_val, hu4] at h1
    exact h1
  have HW4 := hide hW4
  obtain ⟨⟨v0, v1, v2, v3, v4⟩, hz3, _⟩ := HV.out w4 hb4
  clear hW4 hx4 hl4 hm4 ht4 hz4 hu4 HL4
  go_wp2_with fail
  rw [HW4.out]
  clear HW4
  try go_wp2_with fail
  refine (HUV.out _ hb34).mono ?_
  rintro e5 w5 ⟨y5, rfl, HY5, hb5⟩
  have hs5 := hb5.size
  clear v0 v1 v2 v3 v4 hz3
  obtain ⟨W5, hW5⟩ : ∃ W5, w5.alloc (Obj.cells #[.int .i64 kk, .slice y5.a y5.l.length y5.c] 24) = W5 := ⟨_, rfl⟩
  have hsW5 : W5.heap.size = w5.heap.size + 1 := by rw [← hW5]; simp
  have hb55 : Below w5.heap.size w5 W5 := by rw [← hW5]; exact bel1 (Below.refl _ _) (Nat.le_refl _) _
  have xa : BoxR W5 w5.heap.size kk y5.a y5.l.length y5.c := by rw [← hW5]; exact World.alloc_heap_new _ _
  have hb45 : Below W4.heap.size W4 W5 := belOn hb5 (by omega) hb55
  have hy5 : Lies W5.heap.size W5 (V.of 0 0 ⟨#[]⟩ y5.a y5.c 0 y5.l) := lies_bare ((lies_up HY5.out.2 (fun b hb => by show b < w5.heap.size; have : _ ∧ _ := hb; omega)).keep hb55 (Nat.le_refl _) |>.mono (by omega))
  have HYL5 := hide hy5
  have HW5 := hide hW5
  obtain ⟨⟨v0, v1, v2, v3, v4⟩, hz3, _⟩ := HZ.out w5 hb5
  clear hW5 hy5
  go_wp2_with fail
  rw [HW5.out]
  clear HW5
  try go_wp2_with fail
  refine (HUW.out _ hb45).mono ?_
  rintro e6 w6 ⟨y6, rfl, HY6, hb6⟩
  have hs6 := hb6.size
  clear v0 v1 v2 v3 v4 hz3
  obtain ⟨W6, hW6⟩ : ∃ W6, w6.alloc (Obj.cells #[.int .i64 kk, .slice y6.a y6.l.length y6.c] 24) = W6 := ⟨_, rfl⟩
  have hsW6 : W6.heap.size = w6.heap.size + 1 := by rw [← hW6]; simp
  have hb66 : Below w6.heap.size w6 W6 := by rw [← hW6]; exact bel1 (Below.refl _ _) (Nat.le_refl _) _
  have hb56 : Below W5.heap.size W5 W6 := belOn hb6 (by omega) hb66
  have hy6 : Lies W6.heap.size W6 (V.of 0 0 ⟨#[]⟩ y6.a y6.c 0 y6.l) := lies_bare ((lies_up HY6.out.2 (fun b hb => by show b < w6.heap.size; have : _ ∧ _ := hb; omega)).keep hb66 (Nat.le_refl _) |>.mono (by omega))
  have hsr := sameRecord_any kk y5.l y6.l y5.a y6.a y5.c y6.c W6.heap.size W6 (Nat.le_refl _) ((HYL5.out.keep hb56 (Nat.le_refl _)).mono (by omega)) hy6 (by
    have h1 : V.ts y5.l = ts := HY5.out.1
    have h2 : V.ts y6.l = ts := HY6.out.1
    rw [h1, h2]
    exact eqsT_self _)
  have HSR := hide hsr
  have HW6 := hide hW6
  obtain ⟨a0, a1⟩ := (xa.below hb6 (by omega)).cells
  have hz6 : w5.heap.size < w6.heap.size := by omega
  clear hsr hy6 hW6 HYL5 HY5 HY6
  go_wp2_with fail
  rw [HW6.out]
  clear HW6
  try go_wp2_with fail
  refine HSR.out.mono ?_
  rintro e7 w7 ⟨rfl, hb7⟩
  have hs7 := hb7.size
  have hb37 : Below W3.heap.size W3 w7 := belOn hb34 (by omega) (belOn hb45 (by omega) (belOn hb56 (by omega) hb7))
  have hs37 := hb37.size
  clear a0 a1 HSR
  obtain ⟨⟨v0, v1, v2, v3, v4⟩, hz3, _⟩ := HV.out w7 hb37
  go_wp2_with fail
  refine (HLG.out _ hb37 true).mono ?_
  rintro e8 w8 ⟨g8, m8, A8, C8, rfl, HL8, hb8⟩
  have hs8 := hb8.size
  clear v0 v1 v2 v3 v4 hz3
  obtain ⟨W8, hW8⟩ : ∃ W8, w8.alloc (Obj.cells #[.int .i64 24, .int .u64 0, .string ⟨#[]⟩, .slice (some ⟨g8, 0, none⟩) 2 2, .int .i64 0] 30) = W8 := ⟨_, rfl⟩
  have hsW8 : W8.heap.size = w8.heap.size + 1 := by rw [← hW8]; simp
  have hb88 : Below w8.heap.size w8 W8 := by rw [← hW8]; exact bel1 (Below.refl _ _) (Nat.le_refl _) _
  have hx8 : W8.heap[w8.heap.size]? = some (.cells #[.int .i64 24, .int .u64 0, .string ⟨#[]⟩, .slice (some ⟨g8, 0, none⟩) 2 2, .int .i64 0] 30 (0, 0)) := by rw [← hW8]; exact World.alloc_heap_new _ _
  have hbw8 : Below w.heap.size w W8 := belOn hbwW3 hbwW3.size (belOn hb37 (by omega) (belOn hb8 (by omega) hb88))
  obtain ⟨⟨q1, q2⟩, q3, q4, L, q5, q6, q7, q8, q9, q10, q11⟩ := HL8.out
  obtain ⟨rfl, hown, hne⟩ := q9 rfl
  have hg8 : W8.heap[g8]? = some (.cells #[.int .i64 20, .int .u64 0, .string (nameOf kk), .slice none 0 0, .int .i64 0, .int .i64 21, .int .u64 0, .string ⟨#[]⟩, .slice A8 L.length C8, .int .i64 0] 30 (0, 0)) := (hb88.block g8 q2).trans q3
  have hLN : L.length = N := by rw [q6]; exact HN.out
  have HLN := hide hLN
  rw [hLN] at hown hne hg8 q3
  have HOWN : Hid (W8.ownsRow w3.heap.size 30 5 (.slice A8 N C8) N (flat L)) := ownsRow_baseF (ownsRow_keep hown (fun k hk => hb88.block k (ownsRow_lt hown hk).2)) (by omega)
  have HOLT : Hid (∀ k, (Value.slice A8 N C8).ownBlock = some k → w3.heap.size ≤ k ∧ k < w8.heap.size ∧ k ≠ g8) := fun k hk => ⟨by have := (ownsRow_lt hown hk).1; omega, (ownsRow_lt hown hk).2, fun e => hne (by rw [hk, e])⟩
  have HSUB : Hid (∀ x ∈ L, Lies w3.heap.size W8 x) := fun x hx => (q11 x hx).keep hb88 (by omega)
  have HNE := hide hne
  have HTS := hide q5
  have HQ1 : Hid (w3.heap.size < g8 ∧ g8 < w8.heap.size) := ⟨by omega, q2⟩
  have HX8 := hide hx8
  have HG8 := hide hg8
  have HBW8 := hide hbw8
  have HW8 := hide hW8
  have c8w : w8.cell? ⟨g8, 8, none⟩ = some (.slice A8 N C8) := by unfold World.cell?; simp only [q3]; rfl
  have hzg : g8 < w8.heap.size := q2
  have c3 : W8.cell? ⟨w8.heap.size, 3, none⟩ = some (.slice (some ⟨g8, 0, none⟩) 2 2) := by unfold World.cell?; simp only [hx8]; rfl
  have c8 : W8.cell? ⟨g8, 8, none⟩ = some (.slice A8 N C8) := by unfold World.cell?; simp only [hg8]; rfl
  have hz8 : w8.heap.size < W8.heap.size := by omega
  have hz9 : g8 < W8.heap.size := by omega
  have HALL : Hid (w.heap.size ≤ w3.heap.size ∧ w3.heap.size < w8.heap.size ∧ W8.heap.size = w8.heap.size + 1 ∧ N ≤ 20) := ⟨hbw3.size, by omega, hsW8, by have := HN20.out; omega⟩
  have hL20 : N ≤ 20 := HALL.out.2.2.2
  clear hW8 hx8 hg8 hbw8 hb88 hsW8 q1 q2 q3 q4 q5 q6 q7 q8 q9 q10 q11 hown hne HL8 hb8 hs8 hb37 hs37 hb7 hs7 hb56 hb66 hsW6 hs6 hb6 xa hb55 hb45 hsW5 hs5 hb5 hb34 hb44 hsW4 hs4 hb4 hb33 hsW3 HZ HUW HUV HLG HV HRB HRL hz6
  have HK9 : Hid (∀ X w9, Below W8.heap.size W8 X → X.grownBy w9 (Value.slice A8 N C8).ownBlock → w9.heap[w8.heap.size]? = some (.cells #[.int .i64 24, .int .u64 0, .string ⟨#[]⟩, .slice (some ⟨g8, 0, none⟩) 2 2, .int .i64 0] 30 (0, 0)) ∧ w9.heap[g8]? = some (.cells #[.int .i64 20, .int .u64 0, .string (nameOf kk), .slice none 0 0, .int .i64 0, .int .i64 21, .int .u64 0, .string ⟨#[]⟩, .slice A8 N C8, .int .i64 0] 30 (0, 0)) ∧ Below w3.heap.size W8 w9 ∧ W8.heap.size ≤ w9.heap.size) := fun X w9 h1 h2 => by
    have hq := HALL.out
    have hsx := h1.size
    have hk : ∀ b, b < W8.heap.size → some b ≠ (Value.slice A8 N C8).ownBlock → w9.heap[b]? = W8.heap[b]? := fun b q1 q2 => (h2.block b (by omega) q2).trans (h1.block b q1)
    refine ⟨(hk _ (by omega) (fun e => by have := HOLT.out _ e.symm; omega)).trans HX8.out, (hk _ (by have := HQ1.out; omega) (fun e => (HOLT.out _ e.symm).2.2 rfl)).trans HG8.out, (h1.mono (by omega)).grown h2 (by omega) (fun k hk => (HOLT.out k hk).1), Nat.le_trans hsx h2.size⟩
  have HMORE : Hid (∀ (w9 Z : World) (g' cap' : Nat), Below w3.heap.size W8 w9 → W8.heap.size ≤ w9.heap.size → w9.ownsRow w3.heap.size 30 5 (.slice (some ⟨g', 0, none⟩) (N + 1) cap') (N + 1) (flat L ++ [.int .i64 0, .int .u64 0, .string ⟨#[]⟩, .slice none 0 0, .int .i64 0]) → Z.heap[g8]? = some (.cells #[.int .i64 20, .int .u64 0, .string (nameOf kk), .slice none 0 0, .int .i64 0, .int .i64 21, .int .u64 0, .string ⟨#[]⟩, .slice (some ⟨g', 0, none⟩) (N + 1) cap', .int .i64 0] 30 (0, 0)) → (∀ o, Z.cell? ⟨g', o, none⟩ = w9.cell? ⟨g', o, none⟩) → Z.heap.size = w9.heap.size → Below w3.heap.size w9 Z → Calls Tryz.prog 8 #[.agg #[.int .i64 24, .int .u64 0, .string ⟨#[]⟩, .slice (some ⟨g8, 0, none⟩) 2 2, .int .i64 0]] Z (fun e w' => ∃ y : V, e = .returned (.tuple #[.agg #[.int .i64 0, .slice y.a y.l.length y.c], .int .i64 (N : Int), .int .i64 71]) ∧ Below w.heap.size w w')) := fun w9 Z g' cap' h1 hs h2 h3 h4 h5 h6 => by
    rw [← words_nul] at h2
    have hfl : flat L ++ words nul = flat (L ++ [nul]) := by rw [flat_append]; simp [flat]
    rw [hfl] at h2
    have hlen : (L ++ [nul]).length = N + 1 := by rw [List.length_append, HLN.out]; rfl
    have hrow : Row w9 g' 0 (L ++ [nul]) := flat_row h2
    have hg9 := (ownsRow_lt h2 (g := g') rfl).2
    have hcap : N + 1 ≤ cap' := by
      rcases h2.2 with ⟨e, _⟩ | ⟨k, c, cur, e, _, _, hnc, _⟩
      · cases e
      · simp only [Value.slice.injEq] at e
        omega
    have hq := HALL.out
    have hb9 : Below w3.heap.size W8 Z := h1.trans h6
    have hl : Lies Z.heap.size Z (formV kk g8 (some ⟨g', 0, none⟩) cap' (L ++ [nul])) := formV_lies (by rw [hlen]; exact h3) (by omega) (by omega) (fun _ => ⟨g', rfl, by omega, hrow.same h4⟩) (fun x hx => by
      rcases List.mem_append.1 hx with hx | hx
      · exact ((HSUB.out x hx).keep hb9 (Nat.le_refl _)).mono (by omega)
      · rw [List.mem_singleton] at hx
        subst hx
        exact nul_lies' _ _)
    have hbz : Below w.heap.size w Z := HBW8.out.trans (hb9.mono (by omega))
    have h7 := unpack_any _ Z.heap.size Z (Nat.le_refl _) hl (HTB.out Z hbz)
    rw [formV_val, HFM.out (L ++ [nul]) g8 _ cap' (by rw [V.ts_map, List.map_append, ← V.ts_map, HTS.out]; show _ ++ [nul.t] = _; rw [nul_t]), HN.out] at h7
    refine h7.mono ?_
    rintro e w' ⟨y, rfl, _, hb⟩
    exact ⟨y, rfl, belOn hbz hbz.size hb⟩
  obtain ⟨i0, hi0, hzz⟩ := Option.map_eq_some_iff.1 Tryz.infoV
  simp only [Prod.mk.injEq] at hzz
  obtain ⟨hz0', hz1', hz2'⟩ := hzz
  have HI : Hid (i0.zero = _ ∧ i0.size = _ ∧ i0.bytes = _) := ⟨hz0', hz1', hz2'⟩
  have HI0 := hide hi0
  clear hz0' hz1' hz2' hi0 hLN
  go_wp2_with fail
  rw [HW8.out]
  clear HW8 c8w hzg
  have HF9 : Hid (∀ (X w9 : World) (g' cap' : Nat), Below W8.heap.size W8 X → X.grownBy w9 (Value.slice A8 N C8).ownBlock → w9.ownsRow w3.heap.size 30 5 (.slice (some ⟨g', 0, none⟩) (N + 1) cap') (N + 1) (flat L ++ [.int .i64 0, .int .u64 0, .string ⟨#[]⟩, .slice none 0 0, .int .i64 0]) → ((Value.slice (some ⟨g', 0, none⟩) (N + 1) cap').ownBlock = (Value.slice A8 N C8).ownBlock ∨ (Value.slice (some ⟨g', 0, none⟩) (N + 1) cap').ownBlock = some X.heap.size) →
      (w9.cell? ⟨g8, 8, none⟩ = some (.slice A8 N C8) ∧ w9.frozen? ⟨g8, 8, none⟩ = false) ∧ (w9.cell? ⟨w8.heap.size, 0, none⟩ = some (.int .i64 24) ∧ w9.cell? ⟨w8.heap.size, 1, none⟩ = some (.int .u64 0) ∧ w9.cell? ⟨w8.heap.size, 2, none⟩ = some (.string ⟨#[]⟩) ∧ w9.cell? ⟨w8.heap.size, 3, none⟩ = some (.slice (some ⟨g8, 0, none⟩) 2 2) ∧ w9.cell? ⟨w8.heap.size, 4, none⟩ = some (.int .i64 0)) ∧
      (w9.cell? ⟨g', N * 5, none⟩ = some (.int .i64 0) ∧ w9.cell? ⟨g', N * 5 + 1, none⟩ = some (.int .u64 0) ∧ w9.cell? ⟨g', N * 5 + 2, none⟩ = some (.string ⟨#[]⟩) ∧ w9.cell? ⟨g', N * 5 + 3, none⟩ = some (.slice none 0 0) ∧ w9.cell? ⟨g', N * 5 + 4, none⟩ = some (.int .i64 0)) ∧ (∀ o, w9.frozen? ⟨g', o, none⟩ = false) ∧
      (g8 < w9.heap.size ∧ g' < w9.heap.size ∧ w8.heap.size < w9.heap.size ∧ g8 ≠ g' ∧ g8 ≠ w8.heap.size ∧ g' ≠ w8.heap.size ∧ w3.heap.size ≤ g') ∧ w9.heap[g8]? = some (.cells #[.int .i64 20, .int .u64 0, .string (nameOf kk), .slice none 0 0, .int .i64 0, .int .i64 21, .int .u64 0, .string ⟨#[]⟩, .slice A8 N C8, .int .i64 0] 30 (0, 0)) ∧ Below w3.heap.size W8 w9 ∧ W8.heap.size ≤ w9.heap.size) := fun X w9 g' cap' h1 h2 h3 h4 => by
    obtain ⟨k1, k2, k3, k4⟩ := HK9.out X w9 h1 h2
    have hq := HALL.out
    have hq1 := HQ1.out
    have hsx := h1.size
    have hg9 := ownsRow_lt h3 (g := g') rfl
    have hne1 : g8 ≠ g' ∧ g' ≠ w8.heap.size := by
      rcases h4 with e | e
      · have := HOLT.out g' (by rw [← e]; rfl)
        omega
      · have e2 : g' = X.heap.size := by
          have e3 : some g' = some X.heap.size := e
          exact Option.some.inj e3
        omega
    have hrow : Row w9 g' 0 (L ++ [nul]) := by
      rw [← words_nul, show flat L ++ words nul = flat (L ++ [nul]) by rw [flat_append]; simp [flat]] at h3
      exact flat_row h3
    have hN1 : N < (L ++ [nul]).length := by rw [List.length_append, HLN.out]; simp
    have hgN : (L ++ [nul])[N] = nul := by
      rw [List.getElem_append_right (by rw [HLN.out]; exact Nat.le_refl _)]
      simp
    obtain ⟨z0, z1, z2, z3, z4⟩ := hrow N hN1
    rw [hgN, Nat.zero_add] at z0 z1 z2 z3 z4
    have hfz : ∀ o, w9.frozen? ⟨g', o, none⟩ = false := fun o => by
      rcases h3.2 with ⟨e, _⟩ | ⟨k, c, cur, e, _, hgg, _⟩
      · cases e
      · simp only [Value.slice.injEq, Option.some.injEq, Addr.mk.injEq] at e
        obtain ⟨⟨rfl, _⟩, _⟩ := e
        simp [World.frozen?, hgg]
    refine ⟨⟨by unfold World.cell?; simp only [k2]; rfl, by simp [World.frozen?, k2]⟩, ⟨?_, ?_, ?_, ?_, ?_⟩, ⟨z0, z1, z2, ?_, z4⟩, hfz, ⟨by omega, hg9.2, by omega, hne1.1, by omega, hne1.2, hg9.1⟩, k2, k3, k4⟩
    · unfold World.cell?; simp only [k1]; rfl
    · unfold World.cell?; simp only [k1]; rfl
    · unfold World.cell?; simp only [k1]; rfl
    · unfold World.cell?; simp only [k1]; rfl
    · unfold World.cell?; simp only [k1]; rfl
    · simpa [nul, leaf, V.l_of, V.a_of, V.c_of] using z3
  go_region
  · have hbX : Below W8.heap.size W8 (W8.alloc (Obj.cells #[.bool false] 4)).drew := (bel1 (Below.refl _ _) (Nat.le_refl _) _).drew
    go_wp2_with fail
    have HKP : Hid (∀ L' W', Below W8.heap.size W8 W' → Kept (fun W' => W'.cell? ⟨w8.heap.size, 3, none⟩ = some (.slice (some ⟨g8, 0, none⟩) 2 2)) (fun z W' => z = 12 → W'.cell? ⟨g8, 8, none⟩ = some (.slice A8 N C8)) L' W') := fun L' W' h => ⟨(h.cell (p := ⟨w8.heap.size, 3, none⟩) hz8).trans c3, fun z _ _ => (h.cell (p := ⟨g8, 8, none⟩) hz9).trans c8⟩
    have HBX := hide hbX
    have HBD := hide hbX.drew
    clear hbX
    refine wp_region_Z (S := fun W' => W'.cell? ⟨w8.heap.size, 3, none⟩ = some (.slice (some ⟨g8, 0, none⟩) 2 2)) (C := fun z W' => z = 12 → W'.cell? ⟨g8, 8, none⟩ = some (.slice A8 N C8)) (by kernel_rfl) (HKP.out _ _ HBD.out) (fun hHeld => ?_)
    clear hHeld
    refine Z_take (i := 0) (d := 87) (v := ?_) (Zs := []) rfl rfl (by kernel_rfl) (by kernel_rfl) (by kernel_rfl) (fun _ _ _ h => h) (fun _ h => absurd h (by decide)) (by kernel_rfl) rfl ?_ (HKP.out _ _ HBD.out) ?_
    rotate_left
    · intro w hSw hC
      try dsimp only at hSw
      go_simp
      try with_reducible rfl
    try simp only [List.setIfInBounds_toArray, List.set_cons_zero, List.set_cons_succ]
    refine Z_take (i := 1) (d := 88) (v := ?_) (Zs := []) rfl rfl (by kernel_rfl) (by kernel_rfl) (by kernel_rfl) (fun _ _ _ h => h) (fun _ h => absurd h (by decide)) (by kernel_rfl) rfl ?_ (HKP.out _ _ HBD.out) ?_
    rotate_left
    · intro w hSw hC
      try dsimp only at hSw
      go_simp
      try with_reducible rfl
    try simp only [List.setIfInBounds_toArray, List.set_cons_zero, List.set_cons_succ]
    refine Z_take (i := 2) (d := 89) (v := ?_) (Zs := []) rfl rfl (by kernel_rfl) (by kernel_rfl) (by kernel_rfl) (fun _ _ _ h => h) (fun _ h => absurd h (by decide)) (by kernel_rfl) rfl ?_ (HKP.out _ _ HBD.out) ?_
    rotate_left
    · intro w hSw hC
      try dsimp only at hSw
      go_simp
      try with_reducible rfl
    try simp only [List.setIfInBounds_toArray, List.set_cons_zero, List.set_cons_succ]
    refine Z_take (i := 3) (d := 90) (v := ?_) (Zs := []) rfl rfl (by kernel_rfl) (by kernel_rfl) (by kernel_rfl) (fun _ _ _ h => h) (fun _ h => absurd h (by decide)) (by kernel_rfl) rfl ?_ (HKP.out _ _ HBD.out) ?_
    rotate_left
    · intro w hSw hC
      try dsimp only at hSw
      go_simp
      try with_reducible rfl
    try simp only [List.setIfInBounds_toArray, List.set_cons_zero, List.set_cons_succ]
    refine Z_take (i := 4) (d := 91) (v := ?_) (Zs := []) rfl rfl (by kernel_rfl) (by kernel_rfl) (by kernel_rfl) (fun _ _ _ h => h) (fun _ h => absurd h (by decide)) (by kernel_rfl) rfl ?_ (HKP.out _ _ HBD.out) ?_
    rotate_left
    · intro w hSw hC
      try dsimp only at hSw
      go_simp
      try with_reducible rfl
    try simp only [List.setIfInBounds_toArray, List.set_cons_zero, List.set_cons_succ]
    refine Z_take (i := 5) (d := 92) (v := ?_) (Zs := []) rfl rfl (by kernel_rfl) (by kernel_rfl) (by kernel_rfl) (fun _ _ _ h => h) (fun _ h => absurd h (by decide)) (by kernel_rfl) rfl ?_ (HKP.out _ _ HBD.out) ?_
    rotate_left
    · intro w hSw hC
      try dsimp only at hSw
      go_simp
      try with_reducible rfl
    try simp only [List.setIfInBounds_toArray, List.set_cons_zero, List.set_cons_succ]
    refine Z_take (i := 6) (d := 93) (v := ?_) (Zs := [12]) rfl rfl (by kernel_rfl) (by kernel_rfl) (by kernel_rfl) (fun _ _ _ h => h) (fun _ h => absurd h (by decide)) (by kernel_rfl) rfl ?_ (HKP.out _ _ HBD.out) ?_
    rotate_left
    · intro w hSw hC
      have hC12 := hC 12 (by simp) rfl
      try dsimp only at hSw
      go_simp
      try with_reducible rfl
    try simp only [List.setIfInBounds_toArray, List.set_cons_zero, List.set_cons_succ]
    refine Z_take (i := 7) (d := 94) (v := ?_) (Zs := []) rfl rfl (by kernel_rfl) (by kernel_rfl) (by kernel_rfl) (fun _ _ _ h => h) (fun _ h => absurd h (by decide)) (by kernel_rfl) rfl ?_ (HKP.out _ _ HBD.out) ?_
    rotate_left
    · intro w hSw hC
      try dsimp only at hSw
      go_simp
      try with_reducible rfl
    try simp only [List.setIfInBounds_toArray, List.set_cons_zero, List.set_cons_succ]
    refine wpAnyZ_ready (rs := [8]) (by kernel_rfl) (by simp) ?_
    refine AllReadyZ.cons rfl (fun K hK => ?_) AllReadyZ.nil
    go_simp
    have HBX2 : Hid (Below W8.heap.size W8 ((W8.alloc (Obj.cells #[.bool false] 4)).alloc (Obj.cells #[.int .i64 0, .int .u64 0, .string ⟨#[]⟩, .slice none 0 0, .int .i64 0] 30)).drew.drew) := (bel2 (Below.refl _ _) (Nat.le_refl _) _ _).drew.drew
    refine hK.out _ _ (HKP.out _ _ HBX2.out) (fun _ => ?_)
    clear hK K
    refine wpAnyZ_ready (rs := [9]) (by kernel_rfl) (by simp) ?_
    refine AllReadyZ.cons rfl (fun K hK => ?_) AllReadyZ.nil
    refine step_append_at rfl (.tmp 93) (.tmp 95) 22 rfl w3.heap.size 30 i0 _ 5 64 Tryz.underlying22 HI0.out HI.out.1 HI.out.2.1 HI.out.2.2 rfl (by decide) _ N (flat L) rfl ((HOWN.out.alloc _).alloc _) ⟨W8.heap.size + 1, 0, none⟩ 1 1 [.int .i64 0, .int .u64 0, .string ⟨#[]⟩, .slice none 0 0, .int .i64 0] rfl rfl (newsF W8 _ _ _ _ _ _ _) (by rw [← words_nul]; exact V.words_one _) (by simp [maxLen]; omega) (by omega) (by have := HALL.out; simp; omega) ?_
    intro v' w9 hown' hgrow hat
    obtain ⟨g', cap', rfl⟩ := ownsRow_succ hown'
    obtain ⟨⟨p1, p2⟩, ⟨x0, x1, x2, x3, x4⟩, _, _, ⟨n1, n2, n3, n4, n5, n6, n7⟩, k2, k3, k4⟩ := HF9.out _ w9 g' cap' HBX2.out hgrow hown' hat
    have HO9 := hide hown'
    have HK2 := hide k2
    have HK3 := hide k3
    have HK4 := hide k4
    have HKQ : Hid (∀ L', Kept (fun W' => W'.cell? ⟨w8.heap.size, 3, none⟩ = some (.slice (some ⟨g8, 0, none⟩) 2 2)) (fun z W' => z = 12 → W'.cell? ⟨g8, 8, none⟩ = some (.slice A8 N C8)) L' w9) := fun L' => ⟨x3, fun z _ _ => p1⟩
    clear hown' hgrow hat k2 k3 k4
    refine hK.out _ _ (HKQ.out _) (fun _ => ?_)
    clear hK K
    try simp only [Act.put, List.setIfInBounds_toArray, List.set_cons_zero, List.set_cons_succ]
    refine Z_take (i := 10) (d := 97) (v := ?_) (Zs := []) rfl rfl (by kernel_rfl) (by kernel_rfl) (by kernel_rfl) (fun _ _ _ h => h) (fun _ h => absurd h (by decide)) (by kernel_rfl) rfl ?_ (HKQ.out _) ?_
    rotate_left
    · intro w hSw hC
      try dsimp only at hSw
      go_simp
      try with_reducible rfl
    try simp only [List.setIfInBounds_toArray, List.set_cons_zero, List.set_cons_succ]
    refine Z_take (i := 11) (d := 98) (v := ?_) (Zs := []) rfl rfl (by kernel_rfl) (by kernel_rfl) (by kernel_rfl) (fun _ _ _ h => h) (fun _ h => absurd h (by decide)) (by kernel_rfl) rfl ?_ (HKQ.out _) ?_
    rotate_left
    · intro w hSw hC
      try dsimp only at hSw
      go_simp
      try with_reducible rfl
    try simp only [List.setIfInBounds_toArray, List.set_cons_zero, List.set_cons_succ]
    refine wpAnyZ_ready (rs := [12]) (by kernel_rfl) (by simp) ?_
    refine AllReadyZ.cons rfl (fun K hK => ?_) AllReadyZ.nil
    go_simp
    have x3' : (w9.setCell ⟨g8, 8, none⟩ (.slice (some ⟨g', 0, none⟩) (N + 1) cap')).cell? ⟨w8.heap.size, 3, none⟩ = some (.slice (some ⟨g8, 0, none⟩) 2 2) := (World.cell?_setCell_other _ _ _ _ (fun h => n5 (congrArg Addr.block h))).trans x3
    refine hK.out _ _ ⟨x3', fun z hz e => by subst e; simp at hz⟩ (fun _ => ?_)
    clear hK K
    refine wpAnyZ_done (by kernel_rfl) ?_ _
    have hZs : (w9.setCell ⟨g8, 8, none⟩ (.slice (some ⟨g', 0, none⟩) (N + 1) cap')).heap.size = w9.heap.size := by simp [World.setCell]
    have HU := hide (HMORE.out w9 (w9.setCell ⟨g8, 8, none⟩ (.slice (some ⟨g', 0, none⟩) (N + 1) cap')) g' cap' HK3.out HK4.out HO9.out (heap_setCell_same _ _ _ _ _ _ HK2.out) (fun o => World.cell?_setCell_other _ _ _ _ (fun h => n4 (by cases h; rfl))) hZs ((Below.refl _ _).setCell (p := ⟨g8, 8, none⟩) (by have := HQ1.out; show w3.heap.size ≤ g8; omega) _))
    clear x3' hZs
    go_wp2_with fail
    refine HU.out.mono ?_
    rintro e10 w10 ⟨y10, rfl, hb10⟩
    clear x0 x1 x2 x3 x4 p1 p2
    go_wp2
    go_ret
    exact ⟨by simp, bel1 hb10 hb10.size _⟩
  · have hbX : Below W8.heap.size W8 ((W8.alloc (Obj.cells #[.bool true] 4)).alloc (Obj.cells #[.int .i64 0, .int .u64 0, .string ⟨#[]⟩, .slice none 0 0, .int .i64 0] 30)).drew := (bel2 (Below.refl _ _) (Nat.le_refl _) _ _).drew
    have HBX := hide hbX
    clear hbX
    go_wp2_with (at_builtin; refine wpList_append_own_at _ rfl (.tmp 79) (.tmp 82) 22 rfl w3.heap.size 30 i0 _ 5 64 Tryz.underlying22 HI0.out HI.out.1 HI.out.2.1 HI.out.2.2 rfl (by decide) _ N (flat L) rfl ((HOWN.out.alloc _).alloc _) ⟨W8.heap.size + 1, 0, none⟩ 1 1 [.int .i64 0, .int .u64 0, .string ⟨#[]⟩, .slice none 0 0, .int .i64 0] rfl rfl (newsF W8 _ _ _ _ _ _ _) (by rw [← words_nul]; exact V.words_one _) (by simp [maxLen]; omega) (by omega) (by have := HALL.out; simp; omega) ?_; intro v' w9 hown' hgrow _ hat; obtain ⟨g', cap', rfl⟩ := ownsRow_succ hown'; obtain ⟨⟨p1, p2⟩, ⟨x0, x1, x2, x3, x4⟩, ⟨z0, z1, z2, z3, z4⟩, hfz, ⟨n1, n2, n3, n4, n5, n6, n7⟩, k2, k3, k4⟩ := HF9.out _ w9 g' cap' HBX.out hgrow hown' hat; have HO9 := hide hown'; have HK2 := hide k2; have HK3 := hide k3; have HK4 := hide k4; clear hown' hgrow hat k2 k3 k4)
    obtain ⟨m1, m2, m3, m4⟩ := zero_again (V := .slice (some ⟨g', 0, none⟩) (N + 1) cap') (B := w3.heap.size) n4 HK2.out (by have := HQ1.out; omega) n7 z0 z1 z2 z3 z4 _ rfl
    have HU := hide (HMORE.out w9 _ g' cap' HK3.out HK4.out HO9.out m1 m2 m3 m4)
    clear m1 m2 m3 m4 z0 z1 z2 z3 z4 x0 x1 x2 x3 x4 p1 p2 hfz
    refine HU.out.mono ?_
    rintro e10 w10 ⟨y10, rfl, hb10⟩
    go_wp2
    go_ret
    exact ⟨by simp, bel1 hb10 hb10.size _⟩
end Go.Proofs.YtlpngpininkjnaaGreatDoor
