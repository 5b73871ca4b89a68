import Derived.Test.YtondbhdlccpklaaQStpM9
import Derived.Test.YtondbhdlccpklaaQWnd3M9
import Derived.Test.YtondbhdlccpklaaQTakeM9
import Derived.Test.YtondbhdlccpklaaQOpenLM9

/- Stage 13: the law's step: Range, and what it hands on; any step; all ranges. -/
namespace Go.Proofs.Ytondbhdlccpklaa
open Go.RowKit Go.Maps
set_option linter.unusedVariables false
set_option linter.unusedSimpArgs false

theorem Std.keep {w w' : World} {g g' : Nat} {B X : Nat → Prop} (h : Std w g g' B) (hk : Kp X w w') (hx : ∀ k, B k → ¬ X k) : Std w' g g' B := by
  obtain ⟨s, H, R, S, C, vh, vr, vs, va, hs, rs, Sr, Cr, t, h64, hB, hL⟩ := h
  exact ⟨s, H, R, S, C, vh, vr, vs, va, hs, rs, Sr, Cr, ⟨t.a.at fun k e => hk.block (t.a.lt e) (hx k (hB k (.inl e))), t.b.at fun k e => hk.block (t.b.lt e) (hx k (hB k (.inr e))), t.ap, t.ok, t.al⟩, h64, hB, fun k e => Nat.lt_of_lt_of_le (hL k e) hk.size⟩
theorem Bok.kb {w : World} {kb N : Nat} {D : Nat → Prop} (h : Bok w kb N D) : kb < w.heap.size ∧ D kb := by
  obtain ⟨S, T, vl, vw, h1, h2, h3, h4, h5⟩ := h
  exact ⟨h5 kb (h4 kb (.inl rfl)), h4 kb (.inl rfl)⟩
section
variable {w : World} {g g' : Nat} {B D : Nat → Prop}
set_option maxRecDepth 100000 in
set_option maxHeartbeats 4000000 in
theorem step_range (kb N : Nat) (o : Opd) (h : Std w g g' B) (hb : Bok w kb N D) (hN : N ≤ 2000000000000) (hk : o.k = 10) :
    Calls Try.prog 18 #[.pointer (some ⟨kb, 0, none⟩), .pointer (some ⟨g, 0, none⟩), .pointer (some ⟨g', 0, none⟩), .agg o.cells] w fun e w' => e = .returned (.bool true) ∧ ∃ D', Bok w' kb (N + 1) D' ∧ Kp D w w' ∧ ∀ k, D' k → D k ∨ w.heap.size ≤ k := by
  unfold Opd.cells
  obtain ⟨k, a, b, c, d, e, t, f⟩ := o
  dsimp only at *
  subst hk
  obtain ⟨V, hV⟩ : ∃ V, w.alloc (.cells #[.int .i64 10, .int .i64 a, .int .i64 b, .int .i64 c, .int .i64 d, .int .i64 e, .string t, .bool f] 24) = V := ⟨_, rfl⟩
  have HB : Hid (Below w.heap.size w V) := hV ▸ bel1 (Below.refl _ _) (Nat.le_refl _) _
  have HV := hide hV
  have hVs : V.heap.size = w.heap.size + 1 := by rw [← hV]; simp
  have ca : V.cell? ⟨w.heap.size, 1, none⟩ = some (.int .i64 a) := by rw [← hV]; exact cellOf (heap_alloc_last w _) 1 _ rfl
  have cb : V.cell? ⟨w.heap.size, 2, none⟩ = some (.int .i64 b) := by rw [← hV]; exact cellOf (heap_alloc_last w _) 2 _ rfl
  have cf : V.cell? ⟨w.heap.size, 7, none⟩ = some (.bool f) := by rw [← hV]; exact cellOf (heap_alloc_last w _) 7 _ rfl
  obtain ⟨l, hl, hP, hQ⟩ := range_both f a b (h.below HB.out)
  have HP := hide hP
  have HQ := hide hQ
  have HBk := hide hb
  have Hl := hide hl
  have Hca := hide ca
  have Hcb := hide cb
  have Hcf := hide cf
  have HVs := hide hVs
  clear hP hQ hV h hb hl ca cb cf hVs
  go_enter Try.func18, Try.ntmps18
  go_wp2_with fail
  rw [HV.out]
  refine HP.out.mono ?_
  rintro e1 w1 ⟨v1, rfl, o1, b1⟩
  obtain ⟨a1, c1, rfl, _⟩ := own_some o1
  have hlt : w.heap.size < V.heap.size := by have := HVs.out; omega
  have da := (b1.cell (p := ⟨w.heap.size, 1, none⟩) hlt).trans Hca.out
  have db := (b1.cell (p := ⟨w.heap.size, 2, none⟩) hlt).trans Hcb.out
  have df := (b1.cell (p := ⟨w.heap.size, 7, none⟩) hlt).trans Hcf.out
  have hl1 : w.heap.size < w1.heap.size := by have := b1.size; omega
  have HB1 := hide b1
  have HO1 := hide o1
  clear o1 b1
  go_wp2_with fail
  refine (HQ.out w1 HB1.out).mono ?_
  rintro e2 w2 ⟨v2, rfl, o2, b2⟩
  obtain ⟨a2, c2, rfl, _⟩ := own_some o2
  have HB2 := hide b2
  have HO2 := hide o2
  have HO12 := hide (own_below HO1.out b2)
  clear o2 b2
  go_wp2_with fail
  have rd1 : RdP w2 a1 l := by
    obtain ⟨x, y, e, r, _⟩ := OwnP.rd HO12.out
    cases e
    exact r
  have rd2 : RdP w2 a2 l := by
    obtain ⟨x, y, e, r, _⟩ := OwnP.rd HO2.out
    cases e
    exact r
  refine (same_eq a1 a2 l c1 c2 w2 rd1 rd2 Hl.out).mono ?_
  rintro e3 w3 ⟨rfl, b3⟩
  have HB3 : Hid (Below w.heap.size w w3) := belOn (belOn (belOn HB.out HB.out.size HB1.out) (by omega) HB2.out) (by have := HB2.out.size; omega) b3
  have ho3 : OwnP w3 (kb + 1) (.slice a1 l.length c1) l := own_lower (own_below HO12.out b3) (by have := HBk.out.kb.1; have := HVs.out; omega)
  have hD3 : ∀ k, (Value.slice a1 l.length c1).ownBlock = some k → w.heap.size < k := fun k e => by have := (World.ownsRow.lt HO1.out k e).1; have := HVs.out; omega
  have hB3 : Bok w3 kb N D := HBk.out.keep (Kp.ofBelow (S := fun _ => False) HB3.out) (fun _ _ h => h)
  have HT := hide (take_any kb N D (.slice a1 l.length c1) l w3 hB3 ho3 (fun k e e' => by have := hD3 k e; have := HBk.out.out e'; omega) Hl.out hN)
  have HD3 := hide hD3
  clear rd1 rd2 b3 ho3 hB3 hD3
  go_wp2_with fail
  refine HT.out.mono ?_
  rintro e4 w4 ⟨rfl, D', h4, k4, d4⟩
  have H4 := hide h4
  have HK4 := hide k4
  have HD4 := hide d4
  clear h4 k4 d4 HT
  go_wp2
  go_ret
  refine ⟨rfl, D', H4.out, (Kp.ofBelow HB3.out).transN HK4.out fun k e => ?_, fun k e => ?_⟩
  · rcases e with e | e
    · exact .inl e
    · exact .inr (Nat.le_of_lt (HD3.out k e))
  · rcases HD4.out k e with e | e | e
    · exact .inl e
    · exact .inr (Nat.le_of_lt (HD3.out k e))
    · exact .inr (Nat.le_trans HB3.out.size e)
set_option maxRecDepth 100000 in
set_option maxHeartbeats 4000000 in
theorem step_else (bk : Value) (o : Opd) (h : Std w g g' B) (h8 : o.k ≠ 8) (h9 : o.k ≠ 9) (h10 : o.k ≠ 10) (h11 : o.k ≠ 11) (h12 : o.k ≠ 12) (h13 : o.k ≠ 13) (h14 : o.k ≠ 14) (h15 : o.k ≠ 15) :
    Calls Try.prog 18 #[bk, .pointer (some ⟨g, 0, none⟩), .pointer (some ⟨g', 0, none⟩), .agg o.cells] w fun e w' => e = .returned (.bool true) ∧ StdOn w g g' B w' := by
  have hw : ∀ V, Below w.heap.size w V → Calls Try.prog 48 #[.pointer (some ⟨g, 0, none⟩), .pointer (some ⟨g', 0, none⟩), .agg o.cells] V fun e w' => e = .returned (.bool true) ∧ StdOn V g g' B w' := fun V hb => windows_any o (h.below hb)
  clear h
  unfold Opd.cells at *
  obtain ⟨k, a, b, c, d, e, t, f⟩ := o
  dsimp only at *
  have b8 : (k == 8) = false := by simp [h8]
  have b9 : (k == 9) = false := by simp [h9]
  have b10 : (k == 10) = false := by simp [h10]
  have b11 : (k == 11) = false := by simp [h11]
  have b12 : (k == 12) = false := by simp [h12]
  have b13 : (k == 13) = false := by simp [h13]
  have b14 : (k == 14) = false := by simp [h14]
  have b15 : (k == 15) = false := by simp [h15]
  obtain ⟨V, hV⟩ : ∃ V, w.alloc (.cells #[.int .i64 k, .int .i64 a, .int .i64 b, .int .i64 c, .int .i64 d, .int .i64 e, .string t, .bool f] 24) = V := ⟨_, rfl⟩
  have HB : Hid (Below w.heap.size w V) := hV ▸ bel1 (Below.refl _ _) (Nat.le_refl _) _
  have HV := hide hV
  have HW := hide (hw V HB.out)
  clear hV hw h8 h9 h10 h11 h12 h13 h14 h15
  go_enter Try.func18, Try.ntmps18
  go_wp2_with fail
  rw [HV.out]
  refine HW.out.mono ?_
  rintro e1 w1 ⟨rfl, hS⟩
  have HS := hide hS
  clear hS
  go_wp2
  go_ret
  exact ⟨rfl, StdOn.from HB.out HS.out⟩
/-- any step -/
theorem step_any (kb N : Nat) (o : Opd) (ho : o.wf) (h : Std w g g' B) (hb : Bok w kb N D) (hBD : ∀ k, B k → ¬ D k) (hN : N ≤ 2000000000000) :
    Calls Try.prog 18 #[.pointer (some ⟨kb, 0, none⟩), .pointer (some ⟨g, 0, none⟩), .pointer (some ⟨g', 0, none⟩), .agg o.cells] w fun e w' => e = .returned (.bool true) ∧ ∃ B' D' N', Std w' g g' B' ∧ Bok w' kb N' D' ∧ N' ≤ N + 1 ∧ Kp (fun k => B k ∨ D k) w w' ∧ (∀ k, B' k → B k ∨ w.heap.size ≤ k) ∧ (∀ k, D' k → D k ∨ w.heap.size ≤ k) ∧ ∀ k, B' k → ¬ D' k := by
  have fin : ∀ {e : Ending} {w' : World}, (e = .returned (.bool true) ∧ StdOn w g g' B w') → e = .returned (.bool true) ∧ ∃ B' D' N', Std w' g g' B' ∧ Bok w' kb N' D' ∧ N' ≤ N + 1 ∧ Kp (fun k => B k ∨ D k) w w' ∧ (∀ k, B' k → B k ∨ w.heap.size ≤ k) ∧ (∀ k, D' k → D k ∨ w.heap.size ≤ k) ∧ ∀ k, B' k → ¬ D' k := by
    rintro e w' ⟨e1, B', s1, s2, s3⟩
    refine ⟨e1, B', D, N, s1, hb.keep s2 fun k e e' => hBD k e' e, by omega, s2.mono fun k e => .inl e, s3, fun k e => .inl e, fun k e e' => ?_⟩
    rcases s3 k e with e2 | e2
    · exact hBD k e2 e'
    · have := hb.out e'
      omega
  by_cases h8 : o.k = 8
  · exact (step_deliver _ o h h8 ho.a).mono fun e w' h => fin h
  by_cases h9 : o.k = 9
  · exact (step_arrive _ o h h9 ho.b).mono fun e w' h => fin h
  by_cases h10 : o.k = 10
  · refine (step_range kb N o h hb hN h10).mono ?_
    rintro e w' ⟨e1, D', s1, s2, s3⟩
    refine ⟨e1, B, D', N + 1, h.keep s2 hBD, s1, Nat.le_refl _, s2.mono fun k e => .inr e, fun k e => .inl e, s3, fun k e e' => ?_⟩
    rcases s3 k e' with e2 | e2
    · exact hBD k e e2
    · have := h.out e
      omega
  by_cases h11 : o.k = 11
  · exact (step_forget _ o h h11 ho.a).mono fun e w' h => fin h
  by_cases h12 : o.k = 12
  · exact (step_handle _ o h h12).mono fun e w' h => fin h
  by_cases h13 : o.k = 13
  · exact (step_free _ o h h13 ho.a).mono fun e w' h => fin h
  by_cases h14 : o.k = 14
  · exact (step_remote _ o h h14 ho.a ho.b).mono fun e w' h => fin h
  by_cases h15 : o.k = 15
  · exact (step_local _ o h h15 ho.a).mono fun e w' h => fin h
  exact (step_else _ o h h8 h9 h10 h11 h12 h13 h14 h15).mono fun e w' h => fin h
set_option maxRecDepth 100000 in
set_option maxHeartbeats 4000000 in
theorem ranges_any (h : Std w g g' B) :
    Calls Try.prog 20 #[.pointer (some ⟨g, 0, none⟩), .pointer (some ⟨g', 0, none⟩)] w fun e w' => e = .returned (.bool true) ∧ Below w.heap.size w w' := by
  have HS := hide h
  clear h
  go_enter Try.func20, Try.ntmps20
  go_wp2
  go_loopw [5] (fun i wr => ∃ j : Nat, i = .int .i64 j ∧ j ≤ 4 ∧ Below w.heap.size w wr) (fun i _ => 4 - (intOf i).toNat)
  case atStart => exact ⟨0, rfl, Nat.zero_le _, Below.refl _ _⟩
  case round =>
    obtain ⟨j, rfl, hj, hbl⟩ := hrel
    have HBl := hide hbl
    have hjb : (j : Int) ≤ 4 := by omega
    by_cases hj4 : j < 4
    · obtain ⟨l, hl, hP, hQ⟩ := range_both (decide ((j : Int) < 2)) ((j : Int) % 2 * 2147483648) ((j : Int) % 2 * 2147483648 + 2147483647) (HS.out.below hbl)
      have HP := hide hP
      have HQ := hide hQ
      have Hl := hide hl
      clear hP hQ hl hbl
      go_wp2_with fail
      refine HP.out.mono ?_
      rintro e1 w1 ⟨v1, rfl, o1, b1⟩
      obtain ⟨a1, c1, rfl, _⟩ := own_some o1
      have HB1 := hide b1
      have HO1 := hide o1
      clear o1 b1
      go_wp2_with fail
      refine (HQ.out w1 HB1.out).mono ?_
      rintro e2 w2 ⟨v2, rfl, o2, b2⟩
      obtain ⟨a2, c2, rfl, _⟩ := own_some o2
      have HB2 := hide b2
      have HO2 := hide o2
      have HO12 := hide (own_below HO1.out b2)
      clear o2 b2
      go_wp2_with fail
      have rd1 : RdP w2 a1 l := by
        obtain ⟨x, y, e, r, _⟩ := OwnP.rd HO12.out
        cases e
        exact r
      have rd2 : RdP w2 a2 l := by
        obtain ⟨x, y, e, r, _⟩ := OwnP.rd HO2.out
        cases e
        exact r
      refine (same_eq a1 a2 l c1 c2 w2 rd1 rd2 Hl.out).mono ?_
      rintro e3 w3 ⟨rfl, b3⟩
      have HB3 : Hid (Below w.heap.size w w3) := belOn (belOn (belOn HBl.out HBl.out.size HB1.out) (by have := HBl.out.size; have := HB1.out.size; omega) HB2.out) (by have := HBl.out.size; have := HB1.out.size; have := HB2.out.size; omega) b3
      clear rd1 rd2 b3
      go_wp2
      go_roundw
      case rel => exact ⟨j + 1, by go_num, by omega, HB3.out⟩
      case measure => simp [intOf]; omega
    · clear hbl
      go_wp2
      go_ret
      exact ⟨rfl, HBl.out⟩
end
end Go.Proofs.Ytondbhdlccpklaa
