import Derived.Test.YtondbhdlccpklaaQPlM9
import Derived.Test.YtondbhdlccpklaaQOpenLM9

/- SessionPlays: the walk. -/
namespace Go.Proofs.Ytondbhdlccpklaa
open Go.RowKit Go.Maps
set_option linter.unusedVariables false
set_option linter.unusedSimpArgs false

theorem RO.range {w w' : World} {a : Option Addr} {n j : Nat} {fs : Nat → Opd} (h : RO w a n fs) (hj : j < n) (hb : Below w.heap.size w w') : ∃ b off, a = some ⟨b, off, none⟩ ∧ b < w'.heap.size ∧ w'.rangeAt b (off + j * 8) (fs j).cells.toList := by
  obtain ⟨⟨b, off, e, h1, h2⟩, _⟩ := h j hj
  exact ⟨b, off, e, Nat.lt_of_lt_of_le h1 hb.size, fun q v hv => (hb.cell (p := ⟨b, off + j * 8 + q, none⟩) h1).trans (h2 q v hv)⟩
theorem op_size (o : Opd) : (Try.prog.info? 24).map (·.size) = some o.cells.toList.length := by kernel_rfl
set_option maxRecDepth 100000 in
set_option maxHeartbeats 8000000 in
theorem plays_walk (oa ob : Opd) (a : Option Addr) (n c : Nat) (fs : Nat → Opd) (w : World) (ro : RO w a n fs) (hn : n ≤ 1954687338211) :
    Calls Try.prog 5 #[.agg oa.cells, .agg ob.cells, .slice a n c] w fun e w' => e = .returned (.bool true) ∧ Below w.heap.size w w' := by
  obtain ⟨V0, hV0⟩ : ∃ V0, (w.alloc (.cells oa.cells 24)).alloc (.cells ob.cells 24) = V0 := ⟨_, rfl⟩
  have HV0 := hide hV0
  have HNa : Hid (V0.heap[w.heap.size]? = some (.cells oa.cells 24 (0, 0))) := hV0 ▸ heap_past (heap_alloc_last w _) _
  have HNb : Hid (V0.heap[w.heap.size + 1]? = some (.cells ob.cells 24 (0, 0))) := by
    show _ = _
    have := heap_alloc_last (w.alloc (.cells oa.cells 24)) (.cells ob.cells 24)
    rw [hV0] at this
    simpa using this
  have HB0 : Hid (Below w.heap.size w V0) := hV0 ▸ bel1 (bel1 (Below.refl _ _) (Nat.le_refl _) _) (by simp) _
  have hopA : Hid ((Try.prog.info? 24).map (·.size) = some oa.cells.size) := by show _ = _; kernel_rfl
  have hopB : Hid ((Try.prog.info? 24).map (·.size) = some ob.cells.size) := by show _ = _; kernel_rfl
  have HRO := hide ro
  clear hV0 ro
  go_enter Try.func5, Try.ntmps5
  go_wp2_with fail
  rw [HV0.out]
  refine (live_any V0).mono ?_
  rintro e1 w1 ⟨rfl, b1⟩
  have HN1a : Hid (w1.heap[w.heap.size]? = some (.cells oa.cells 24 (0, 0))) := (b1.block _ (Array.getElem?_eq_some_iff.1 HNa.out).1).trans HNa.out
  have HN1b : Hid (w1.heap[w.heap.size + 1]? = some (.cells ob.cells 24 (0, 0))) := (b1.block _ (Array.getElem?_eq_some_iff.1 HNb.out).1).trans HNb.out
  have HB1 : Hid (Below w.heap.size w w1) := belOn HB0.out HB0.out.size b1
  clear b1
  go_wp2_with (refine wpList_load_row rfl 24 (.tmp 3) rfl w.heap.size rfl 24 oa.cells (0, 0) _ HN1a.out Try.underlying24 rfl hopA.out ?_)
  refine (begin_any oa w1).mono ?_
  rintro e2 w2 ⟨rfl, b2⟩
  obtain ⟨V2, hV2⟩ : ∃ V2, w2.alloc (.cells oa.begin 39) = V2 := ⟨_, rfl⟩
  have HV2 := hide hV2
  have hb2 : Below w1.heap.size w1 V2 := hV2 ▸ bel1 b2 b2.size _
  have HN2 : Hid (V2.heap[w2.heap.size]? = some (.cells oa.begin 39 (0, 0))) := hV2 ▸ heap_alloc_last w2 _
  have HN2b : Hid (V2.heap[w.heap.size + 1]? = some (.cells ob.cells 24 (0, 0))) := (hb2.block _ (Array.getElem?_eq_some_iff.1 HN1b.out).1).trans HN1b.out
  have HB2 : Hid (Below w.heap.size w V2) := belOn HB1.out HB1.out.size hb2
  clear hV2 b2 hb2
  go_wp2_with (first | (refine wpList_store_row rfl 39 (.tmp 8) (.tmp 23) rfl w2.heap.size oa.begin rfl rfl 39 _ (heap_alloc_last w2 _) (begin_size oa) (begin_zero oa) (begin_one oa) ?_; rw [World.setRow_alloc_new, HV2.out]) | (refine wpList_load_row rfl 24 (.tmp 4) rfl (w.heap.size + 1) rfl 24 ob.cells (0, 0) _ HN2b.out Try.underlying24 rfl hopB.out ?_))
  refine (begin_any ob V2).mono ?_
  rintro e3 w3 ⟨rfl, b3⟩
  obtain ⟨V3, hV3⟩ : ∃ V3, w3.alloc (.cells ob.begin 39) = V3 := ⟨_, rfl⟩
  have HV3 := hide hV3
  have hb3 : Below V2.heap.size V2 V3 := hV3 ▸ bel1 b3 b3.size _
  have HM3 : Hid (V3.heap[w3.heap.size]? = some (.cells ob.begin 39 (0, 0))) := hV3 ▸ heap_alloc_last w3 _
  have HN3 : Hid (V3.heap[w2.heap.size]? = some (.cells oa.begin 39 (0, 0))) := (hb3.block _ (Array.getElem?_eq_some_iff.1 HN2.out).1).trans HN2.out
  have HB3 : Hid (Below w.heap.size w V3) := belOn HB2.out HB2.out.size hb3
  clear hV3 b3 hb3 HNa HNb HN1a HN1b HN2b
  go_wp2_with (first | (refine wpList_store_row rfl 39 (.tmp 9) (.tmp 25) rfl w3.heap.size ob.begin rfl rfl 39 _ (heap_alloc_last w3 _) (begin_size ob) (begin_zero ob) (begin_one ob) ?_; rw [World.setRow_alloc_new, HV3.out]) | (refine wpList_load_row rfl 39 (.tmp 8) rfl w2.heap.size rfl 39 oa.begin (0, 0) _ HN3.out Try.underlying39 rfl (begin_size oa) ?_))
  cases hfa : four oa.bk oa.b oa.a oa.c oa.d
  · refine (new_no oa.begin oa.bk 0 oa.b oa.a oa.c oa.d (begin_pf oa) hfa V3).mono ?_
    rintro e4 w4 ⟨rfl, b4⟩
    have HQ1 := hide (rnew_no oa.begin oa.bk 0 oa.b oa.a oa.c oa.d (begin_pf oa) hfa w4)
    have HN4 : Hid (w4.heap[w2.heap.size]? = some (.cells oa.begin 39 (0, 0))) := (b4.block _ (Array.getElem?_eq_some_iff.1 HN3.out).1).trans HN3.out
    have HM4 : Hid (w4.heap[w3.heap.size]? = some (.cells ob.begin 39 (0, 0))) := (b4.block _ (Array.getElem?_eq_some_iff.1 HM3.out).1).trans HM3.out
    have HB4 : Hid (Below w.heap.size w w4) := belOn HB3.out HB3.out.size b4
    clear b4
    go_wp2_with (refine wpList_load_row rfl 39 (.tmp 8) rfl w2.heap.size rfl 39 oa.begin (0, 0) _ HN4.out Try.underlying39 rfl (begin_size oa) ?_)
    refine HQ1.out.mono ?_
    rintro e5 w5 ⟨rfl, b5⟩
    have HN5 : Hid (w5.heap[w2.heap.size]? = some (.cells oa.begin 39 (0, 0))) := (b5.block _ (Array.getElem?_eq_some_iff.1 HN4.out).1).trans HN4.out
    have HM5 : Hid (w5.heap[w3.heap.size]? = some (.cells ob.begin 39 (0, 0))) := (b5.block _ (Array.getElem?_eq_some_iff.1 HM4.out).1).trans HM4.out
    have HB5 : Hid (Below w.heap.size w w5) := belOn HB4.out HB4.out.size b5
    clear b5
    go_wp2_with (refine wpList_load_row rfl 39 (.tmp 9) rfl w3.heap.size rfl 39 ob.begin (0, 0) _ HM5.out Try.underlying39 rfl (begin_size ob) ?_)
    cases hfb : four ob.bk ob.b ob.a ob.c ob.d
    · refine (new_no ob.begin ob.bk 0 ob.b ob.a ob.c ob.d (begin_pf ob) hfb w5).mono ?_
      rintro e6 w6 ⟨rfl, b6⟩
      have HQ2 := hide (rnew_no ob.begin ob.bk 0 ob.b ob.a ob.c ob.d (begin_pf ob) hfb w6)
      have HN6 : Hid (w6.heap[w2.heap.size]? = some (.cells oa.begin 39 (0, 0))) := (b6.block _ (Array.getElem?_eq_some_iff.1 HN5.out).1).trans HN5.out
      have HM6 : Hid (w6.heap[w3.heap.size]? = some (.cells ob.begin 39 (0, 0))) := (b6.block _ (Array.getElem?_eq_some_iff.1 HM5.out).1).trans HM5.out
      have HB6 : Hid (Below w.heap.size w w6) := belOn HB5.out HB5.out.size b6
      clear b6
      go_wp2_with (refine wpList_load_row rfl 39 (.tmp 9) rfl w3.heap.size rfl 39 ob.begin (0, 0) _ HM6.out Try.underlying39 rfl (begin_size ob) ?_)
      refine HQ2.out.mono ?_
      rintro e7 w7 ⟨rfl, b7⟩
      have HB7 : Hid (Below w.heap.size w w7) := belOn HB6.out HB6.out.size b7
      clear b7
      go_wp2
      go_ret
      exact ⟨rfl, HB7.out⟩
    · obtain ⟨M2, hP2, hQ2⟩ := news_yes ob hfb w5
      have HQ2 := hide hQ2
      refine hP2.mono ?_
      rintro e6 w6 ⟨g2, rfl, hM2, b6⟩
      have HM2 := hide hM2
      have HN6 : Hid (w6.heap[w2.heap.size]? = some (.cells oa.begin 39 (0, 0))) := (b6.block _ (Array.getElem?_eq_some_iff.1 HN5.out).1).trans HN5.out
      have HM6 : Hid (w6.heap[w3.heap.size]? = some (.cells ob.begin 39 (0, 0))) := (b6.block _ (Array.getElem?_eq_some_iff.1 HM5.out).1).trans HM5.out
      have HB6 : Hid (Below w.heap.size w w6) := belOn HB5.out HB5.out.size b6
      clear b6 hM2 hP2 hQ2
      go_wp2_with (refine wpList_load_row rfl 39 (.tmp 9) rfl w3.heap.size rfl 39 ob.begin (0, 0) _ HM6.out Try.underlying39 rfl (begin_size ob) ?_)
      refine (HQ2.out g2 w6 HM2.out).mono ?_
      rintro e7 w7 ⟨g2', rfl, ⟨B2, hS2, hB2⟩, b7⟩
      have HB7 : Hid (Below w.heap.size w w7) := belOn HB6.out HB6.out.size b7
      clear b7 hS2 hB2
      go_wp2
      go_ret
      exact ⟨rfl, HB7.out⟩
  · obtain ⟨M1, hP1, hQ1⟩ := news_yes oa hfa V3
    have HQ1 := hide hQ1
    refine hP1.mono ?_
    rintro e4 w4 ⟨g1, rfl, hM1, b4⟩
    have HM1 := hide hM1
    have HN4 : Hid (w4.heap[w2.heap.size]? = some (.cells oa.begin 39 (0, 0))) := (b4.block _ (Array.getElem?_eq_some_iff.1 HN3.out).1).trans HN3.out
    have HM4 : Hid (w4.heap[w3.heap.size]? = some (.cells ob.begin 39 (0, 0))) := (b4.block _ (Array.getElem?_eq_some_iff.1 HM3.out).1).trans HM3.out
    have HB4 : Hid (Below w.heap.size w w4) := belOn HB3.out HB3.out.size b4
    clear b4 hM1 hP1 hQ1
    go_wp2_with (refine wpList_load_row rfl 39 (.tmp 8) rfl w2.heap.size rfl 39 oa.begin (0, 0) _ HN4.out Try.underlying39 rfl (begin_size oa) ?_)
    refine (HQ1.out g1 w4 HM1.out).mono ?_
    rintro e5 w5 ⟨g1', rfl, ⟨B1, hS1, hB1⟩, b5⟩
    have HS1 := hide hS1
    have HB1' := hide hB1
    have HN5 : Hid (w5.heap[w2.heap.size]? = some (.cells oa.begin 39 (0, 0))) := (b5.block _ (Array.getElem?_eq_some_iff.1 HN4.out).1).trans HN4.out
    have HM5 : Hid (w5.heap[w3.heap.size]? = some (.cells ob.begin 39 (0, 0))) := (b5.block _ (Array.getElem?_eq_some_iff.1 HM4.out).1).trans HM4.out
    have HB5 : Hid (Below w.heap.size w w5) := belOn HB4.out HB4.out.size b5
    clear b5 hS1 hB1
    go_wp2_with (refine wpList_load_row rfl 39 (.tmp 9) rfl w3.heap.size rfl 39 ob.begin (0, 0) _ HM5.out Try.underlying39 rfl (begin_size ob) ?_)
    cases hfb : four ob.bk ob.b ob.a ob.c ob.d
    · refine (new_no ob.begin ob.bk 0 ob.b ob.a ob.c ob.d (begin_pf ob) hfb w5).mono ?_
      rintro e6 w6 ⟨rfl, b6⟩
      have HQ2 := hide (rnew_no ob.begin ob.bk 0 ob.b ob.a ob.c ob.d (begin_pf ob) hfb w6)
      have HN6 : Hid (w6.heap[w2.heap.size]? = some (.cells oa.begin 39 (0, 0))) := (b6.block _ (Array.getElem?_eq_some_iff.1 HN5.out).1).trans HN5.out
      have HM6 : Hid (w6.heap[w3.heap.size]? = some (.cells ob.begin 39 (0, 0))) := (b6.block _ (Array.getElem?_eq_some_iff.1 HM5.out).1).trans HM5.out
      have HB6 : Hid (Below w.heap.size w w6) := belOn HB5.out HB5.out.size b6
      clear b6
      go_wp2_with (refine wpList_load_row rfl 39 (.tmp 9) rfl w3.heap.size rfl 39 ob.begin (0, 0) _ HM6.out Try.underlying39 rfl (begin_size ob) ?_)
      refine HQ2.out.mono ?_
      rintro e7 w7 ⟨rfl, b7⟩
      have HB7 : Hid (Below w.heap.size w w7) := belOn HB6.out HB6.out.size b7
      clear b7
      go_wp2
      go_ret
      exact ⟨rfl, HB7.out⟩
    · obtain ⟨M2, hP2, hQ2⟩ := news_yes ob hfb w5
      have HQ2 := hide hQ2
      refine hP2.mono ?_
      rintro e6 w6 ⟨g2, rfl, hM2, b6⟩
      have HM2 := hide hM2
      have HS16 := hide (HS1.out.below b6)
      have HN6 : Hid (w6.heap[w2.heap.size]? = some (.cells oa.begin 39 (0, 0))) := (b6.block _ (Array.getElem?_eq_some_iff.1 HN5.out).1).trans HN5.out
      have HM6 : Hid (w6.heap[w3.heap.size]? = some (.cells ob.begin 39 (0, 0))) := (b6.block _ (Array.getElem?_eq_some_iff.1 HM5.out).1).trans HM5.out
      have HB6 : Hid (Below w.heap.size w w6) := belOn HB5.out HB5.out.size b6
      clear b6 hM2 hP2 hQ2
      go_wp2_with (refine wpList_load_row rfl 39 (.tmp 9) rfl w3.heap.size rfl 39 ob.begin (0, 0) _ HM6.out Try.underlying39 rfl (begin_size ob) ?_)
      refine (HQ2.out g2 w6 HM2.out).mono ?_
      rintro e7 w7 ⟨g2', rfl, ⟨B2, hS2, hB2⟩, b7⟩
      have HB7 : Hid (Below w.heap.size w w7) := belOn HB6.out HB6.out.size b7
      have HPl := hide (Pl.start (w0 := w) (HS16.out.below b7) hS2 (fun k e e' => by have := HS1.out.out e; have := hB2 k e'; omega) (fun k e => by
        rcases e with e | e
        · have := HB1'.out k e; have := HB3.out.size; omega
        · have := hB2 k e; have := HB5.out.size; omega) HB7.out)
      clear b7 hS2 hB2 hfa hfb HQ1 HQ2 HN3 HM3 HN4 HM4 HN5 HM5 HN6 HM6 HS1 HS16 HM1 HM2 HN2
      go_wp2
      go_loopw [15] (fun i wr => ∃ j : Nat, i = .int .i64 j ∧ j ≤ n ∧ Pl w wr g1 g1' g2 g2' w7.heap.size j) (fun i _ => n - (intOf i).toNat)
      case atStart => exact ⟨0, rfl, Nat.zero_le _, HPl.out⟩
      case round =>
        obtain ⟨j, rfl, hj, hpl⟩ := hrel
        have HP := hide hpl
        have hjb : (j : Int) ≤ 1954687338211 := by omega
        by_cases hjn : j < n
        · obtain ⟨bs, off, rfl, hbs, hrg⟩ := HRO.out.range hjn hpl.choose_spec.choose_spec.choose_spec.choose_spec.2.2.2.2.2.2.2.2
          have HRg := hide hrg
          have HWf := hide (HRO.out j hjn).2
          by_cases h4 : j % 4 = 3
          · have h4' : (j : Int) % 4 = 3 := by omega
            have HSt := hide (hpl.swap.step (by omega) (fs j) HWf.out)
            clear hpl hrg h4
            go_wp2_with (first | (refine wpList_load_mid rfl 24 (.tmp 84) rfl bs (off + j * 8) rfl (fs j).cells.toList _ HRg.out Try.underlying24 rfl (op_size _) ?_) | (refine wpList_load_mid rfl 24 (.tmp 83) rfl bs (off + j * 8) rfl (fs j).cells.toList _ HRg.out Try.underlying24 rfl (op_size _) ?_))
            refine HSt.out.mono ?_
            rintro e8 w8 ⟨rfl, h8⟩
            have H8 := hide h8.swap
            clear h8 HSt
            go_wp2
            go_roundw
            case rel => exact ⟨j + 1, by go_num, by omega, H8.out⟩
            case measure => simp [intOf]; omega
          · have h4' : ¬ (j : Int) % 4 = 3 := by omega
            have HSt := hide (hpl.step (by omega) (fs j) HWf.out)
            clear hpl hrg h4
            go_wp2_with (refine wpList_load_mid rfl 24 (.tmp 91) rfl bs (off + j * 8) rfl (fs j).cells.toList _ HRg.out Try.underlying24 rfl (op_size _) ?_)
            refine HSt.out.mono ?_
            rintro e8 w8 ⟨rfl, h8⟩
            have H8 := hide h8
            clear h8 HSt
            go_wp2
            go_roundw
            case rel => exact ⟨j + 1, by go_num, by omega, H8.out⟩
            case measure => simp [intOf]; omega
        · obtain rfl : n = j := by omega
          have HE := hide (hpl.ends (by omega))
          clear hpl
          go_wp2_with fail
          refine HE.out.mono ?_
          rintro e8 w8 ⟨rfl, ⟨C1, hC1⟩, ⟨C2, hC2⟩, b8⟩
          have HT1 := hide (state_both hC1)
          have HC1 := hide hC1
          have HC2 := hide hC2
          have HB8 := hide b8
          clear hC1 hC2 b8
          go_wp2_with fail
          refine HT1.out.mono ?_
          rintro e9 w9 ⟨rfl, b9⟩
          have HT2 := hide (state_both (HC2.out.below b9))
          have HC9 := hide (HC1.out.below b9)
          have HB9 := hide (belOn HB8.out HB8.out.size b9)
          clear b9 HT1
          go_wp2_with fail
          refine HT2.out.mono ?_
          rintro e10 w10 ⟨rfl, b10⟩
          have HT3 := hide (ranges_any (HC9.out.below b10))
          have HB10 := hide (belOn HB9.out HB9.out.size b10)
          clear b10 HT2
          go_wp2_with fail
          refine HT3.out.mono ?_
          rintro e11 w11 ⟨rfl, b11⟩
          have HB11 := hide (belOn HB10.out HB10.out.size b11)
          clear b11 HT3
          go_wp2
          go_ret
          exact ⟨rfl, HB11.out⟩
end Go.Proofs.Ytondbhdlccpklaa
