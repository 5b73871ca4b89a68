
/- Stage 6: StreamCloses, the walk. -/
import Derived.Test.YtaijcnkmklibcaaSCloN
namespace Go.Proofs.Ytaijcnkmklibcaa
open Go.RowKit Go.Deep Go.Shelf
set_option linter.unusedVariables false
set_option linter.unusedSimpArgs false
attribute [local go_sem] Oper.semAt_some

/-- a range without variables -/
theorem range_js {α θ : Type} {P : Program} {n : Nat} {g : Operand} {ps : Array Tmp} {body : Code} {Q : Exit → Act → World → Prop} {a : Act} {w : World}
    {gf : Nat} {lb : Array Value} (hg : a.eval g = .func (.func gf) #[] lb) (eg : ∀ args w, (callFunc gf args).run P w = .ok (.enter gf args) w)
    {encs : α → Array Value} {G : θ → World → Prop} {Sil : θ → θ → World → World → Prop} {Tol : θ → α → θ → World → World → Prop} {Bod : θ → θ → Prop} {Ini Fin : θ → Prop} (hseq : SeqJ P gf lb encs G Sil Tol Bod Ini Fin)
    (hps : ∀ x, (encs x).size = ps.size)
    (I : θ → World → Prop) (Ix : Code → World → Prop) (hI : OwnFrom w.heap.size I) (hIx : ∀ c, OwnFrom w.heap.size (fun (_ : Unit) => Ix c)) (hIG : ∀ t A, I t A → G t A)
    (hSn : ∀ t t' A A', I t A → Sil t t' A A' → Nc NcN A A') (hTn : ∀ t x t' A A', I t A → Tol t x t' A A' → Nc NcN A A') (hIs : ∀ t t' A A', I t A → Sil t t' A A' → I t' A')
    (t0 : θ) (h0 : I t0 w) (hini : Ini t0)
    (hbody : ∀ (l : Nat) (t : θ) (x : α) (t' : θ) (A : World) (W : World) (r r' : Loop), w.heap.size ≤ l → A.heap[l]? = some (.loop r) → W.heap[l]? = some (.loop r) → I t A → Tol t x t' A W → body.wpIn (Fence.wide.inRound l) n P (postJ w.heap.size I Ix Bod t' (W.putObj l (.loop r'))) { tmps := (ps.zip (encs x)).foldl (fun t (p, v) => t.setIfInBounds p v) a.tmps, defers := [] } (W.putObj l (.loop r')))
    (hdone : ∀ (D : Nat) (t : θ) (W : World), w.heap.size ≤ D → Fin t → I t W → W.heap[D]? = some (.deferred (some [])) → Q .normal { a with defers := { target := .collected D, args := #[] } :: a.defers } W)
    (hstop : ∀ (D : Nat) (c : Code) (W : World), w.heap.size ≤ D → Ix c W → W.heap[D]? = some (.deferred (some [])) → c.wpIn Fence.wide n P Q { a with defers := { target := .collected D, args := #[] } :: a.defers } W) :
    (Code.rangeFunc g ps Code.skip body).wpIn Fence.wide n P Q a w := by
  refine range_j hg eg hseq hps I Ix hI hIx hIG hSn hTn hIs t0 h0 hini (fun t x t' A a' W => Tol t x t' A W ∧ a' = { tmps := (ps.zip (encs x)).foldl (fun t (p, v) => t.setIfInBounds p v) a.tmps, defers := [] }) ?_ ?_ hdone hstop
  · intro l t x t' A A' K h1 h2 h3
    exact wpIn_skip (h3 _ _ (KpB.refl _ _) ⟨h2, rfl⟩)
  · rintro l t x t' A a' W r r' h1 h2 h3 h4 ⟨h5, rfl⟩
    exact hbody l t x t' A W r r' h1 h2 h3 h4 h5
theorem ret_cell {W : World} {R D : Nat} {o : Obj} {tm : Array Value} (hne : R ≠ D) (h : W.heap[R]? = some (.cells #[.bool true] 4 (0, 0))) (ht : tm[6]? = some (.pointer (some ⟨R, 0, none⟩)) := by rfl) : (results Try.f6 tm).run Try.prog (W.putObj D o) = .ok (.bool true) (W.putObj D o) := by
  have hc : (W.putObj D o).cell? ⟨R, 0, none⟩ = some (.bool true) := by
    have := (World.putObj_heap_other (w := W) (o := o) hne).trans h
    simp [World.cell?, this]
  simp [results, Try.f6, go_sem, hc, ht]
set_option maxRecDepth 100000 in
theorem eq_nil_seq (lb : Array Value) (w : World) : (binOp BinOp.eql 55 (.func (.func 36) #[] lb) .nilFunc).run Try.prog w = .ok (.bool false) w := by
  first
  | rfl
  | kernel_rfl
  | simp [binOp, run_underlying Try.underlying55, go_sem]
set_option maxRecDepth 100000 in
set_option maxHeartbeats 2000000 in
theorem closes_walk (most : Int) (ab : Option Addr) (cb : Nat) (lb : List Nat) (am : Option Addr) (cm : Nat) (lm : List Nat) (w : World) (hrb : Rd w ab lb.length lb) (hrm : Rd w am lm.length lm) (hnb : lb.length ≤ cb) (hnm : lm.length ≤ cm) (hab : ab = none → cb = 0) (ham : am = none → cm = 0) (hzb : lb.length ≤ 140737488351232) (hzm : lm.length ≤ 140737488351232) :
    Calls Try.prog 6 #[.int .i64 most, .slice ab lb.length cb, .slice am lm.length cm] w fun e w' => e = .returned (.bool true) ∧ Below w.heap.size w w' := by
  suffices h : ∀ n, CallsIn Fence.wide n Try.prog 6 #[.int .i64 most, .slice ab lb.length cb, .slice am lm.length cm] w (fun e w' => e = .returned (.bool true) ∧ Below w.heap.size w w') from callsIn_wide.1 (h 1)
  intro n
  have hdd : ∀ k : Nat, (Fence.wide.depth.isSome = true → 1 ≤ k) := fun k h => by cases h
  refine callsIn_of_wp_marks Try.func6 rfl trivial ?_ rfl
  simp only [Try.ntmps6, List.size_toArray, List.length_cons, List.length_nil, Nat.reduceAdd, Nat.reduceSub, Array.replicate_succ, Array.replicate_zero, List.push_toArray, List.append_toArray, List.nil_append, List.cons_append]
  have HIN := hide (And.intro hrb (And.intro hrm (And.intro hnb (And.intro hnm (And.intro hab (And.intro ham (And.intro hzb hzm)))))))
  clear hrb hrm hnb hnm hab ham hzb hzm
  gi_wp2_with fail
  refine ⟨trivial, hdd _, ?_⟩
  refine (callsIn_wide.2 (awake_any _)).mono ?_
  rintro e w1 ⟨rfl, hb1⟩
  have HB1 : Hid (Below w.heap.size w w1 ∧ w1.heap[w.heap.size]? = some (.cells #[.bool false] 4 (0, 0)) ∧ w.heap.size < w1.heap.size) := ⟨(below_box w _).trans (hb1.mono (by simp)), (hb1.block _ (by simp)).trans (World.alloc_heap_new _ _), by have := hb1.size; simp at this; omega⟩
  clear hb1
  gi_wp2_with fail
  refine ⟨trivial, hdd _, ?_⟩
  by_cases hm : 512 ≤ most ∧ most ≤ 1048576
  · refine (callsIn_wide.2 (new_yes most w1 hm)).mono ?_
    rintro e w2 ⟨rfl, hS2, hB2⟩
    have HR2 := hide (SR.new hS2 hm)
    have HB2 := hide hB2
    clear hS2 hB2
    gi_wp2_with fail
    refine ⟨trivial, hdd _, ?_⟩
    obtain ⟨hrb, hrm, hnb, hnm, hab, ham, hzb, hzm⟩ := HIN.out
    have hb12 : Below w.heap.size w w2 := HB1.out.1.trans (HB2.out.mono (by have := HB1.out.2.2; omega))
    refine (callsIn_wide.2 (all_any (some ⟨w1.heap.size, 0, none⟩) ab lb.length cb lb w2 (hrb.below hb12) (by omega) hnb hab)).mono ?_
    rintro e w3 ⟨bo, a1, c1, rfl, hs3, ho3, hbo, hr3, hc3, ha3, hb3⟩
    have hz12 := HB2.out.size
    have hz01 := HB1.out.2.2
    have hlt1 : w1.heap.size < w2.heap.size := HR2.out.1.lt
    have HR3 : Hid (SR w3 w1.heap.size w1.heap.size most (sNew most) (.slice none 0 0)) := HR2.out.keep hb3.size (fun k cs t f hk _ => hb3.block k (Array.getElem?_eq_some_iff.1 hk).1)
    have HB3 : Hid (Below w.heap.size w w3) := hb12.trans (hb3.mono (by omega))
    have HW3 : Hid (w3.heap[w.heap.size]? = some (.cells #[.bool false] 4 (0, 0))) := (hb3.block _ (by omega)).trans ((HB2.out.block _ (by omega)).trans HB1.out.2.1)
    have HA3 := hide (And.intro hs3 (And.intro ho3 (And.intro hbo (And.intro hr3 (And.intro ha3 hb3.size)))))
    have HRM : Hid (Rd w3 am lm.length lm ∧ ∀ b o, 0 < lm.length → am = some ⟨b, o, none⟩ → b < w.heap.size) := by
      refine ⟨hrm.below HB3.out, fun b o hn e => ?_⟩
      obtain ⟨b', o', e', h, _⟩ := hrm.2.2 hn
      rw [e] at e'
      cases e'
      exact h
    clear hs3 ho3 hbo hr3 hc3 ha3 hb3 hb12 hrb hrm hnb hab HB2 HR2
    have hq := eq_nil_seq #[.pointer (some ⟨w2.heap.size, 0, none⟩), .pointer (some ⟨bo, 0, none⟩)] w3
    gi_wp2_with fail
    obtain ⟨hs3, ho3, hbo, hr3, ha3, hz3⟩ := HA3.out
    obtain ⟨w4, hw4⟩ : ∃ w4, w3.alloc (.cells #[.int .i64 0] 3) = w4 := ⟨_, rfl⟩
    have hz4 : w4.heap.size = w3.heap.size + 1 := by rw [← hw4]; simp
    have hN4 : w4.heap[w3.heap.size]? = some (.cells #[.int .i64 0] 3 (0, 0)) := by rw [← hw4]; exact World.alloc_heap_new _ _
    have hs4 : w4.heap[w2.heap.size]? = some (.cells #[.pointer (some ⟨w1.heap.size, 0, none⟩)] 25 (0, 0)) := by rw [← hw4]; exact heap_past hs3 _
    have ho4 : w4.heap[bo]? = some (.cells #[.slice a1 lb.length c1] 33 (0, 0)) := by rw [← hw4]; exact heap_past ho3 _
    have hr4 : Rd w4 a1 lb.length lb := by rw [← hw4]; exact hr3.below (below_box w3 _)
    have HR4 : Hid (SR w4 w1.heap.size w1.heap.size most (sNew most) (.slice none 0 0)) := by rw [← hw4]; exact HR3.out.alloc _
    have hB4 : Below w.heap.size w w4 := by rw [← hw4]; exact HB3.out.alloc (by omega) _
    have hW4 : w4.heap[w.heap.size]? = some (.cells #[.bool false] 4 (0, 0)) := by rw [← hw4]; exact heap_past HW3.out _
    have hM4 : Rd w4 am lm.length lm := by rw [← hw4]; exact HRM.out.1.below (below_box w3 _)
    have hlo : bo < w3.heap.size := (Array.getElem?_eq_some_iff.1 ho3).1
    have ha4 : 0 < lb.length → ∀ b o, a1 = some ⟨b, o, none⟩ → b < w4.heap.size → ¬ (b = w1.heap.size ∨ (Value.slice none 0 0).ownBlock = some b ∨ b = w3.heap.size) := fun hn b o e _ => by
      obtain ⟨b', o', e', hlt, _⟩ := hr3.2.2 hn
      rw [e] at e'
      cases e'
      have := ha3 b o e
      rintro (h | h | h)
      · omega
      · simp [Value.ownBlock] at h
      · omega
    rw [hw4]
    have HRM4 : Hid (Rd w4 am lm.length lm ∧ ∀ b o, 0 < lm.length → am = some ⟨b, o, none⟩ → b < w.heap.size) := ⟨hM4, HRM.out.2⟩
    clear hw4 hs3 ho3 hr3 ha3 HA3 HR3 HB3 HW3 hq
    refine range_js (gf := 36) (lb := #[.pointer (some ⟨w2.heap.size, 0, none⟩), .pointer (some ⟨bo, 0, none⟩)]) rfl (enters_of Try.func36 (by kernel_rfl) rfl) (all_seq w1.heap.size w1.heap.size most bo w2.heap.size a1 c1 lb) (fun _ => rfl)
      (fun t W' => Rn w1.heap.size w1.heap.size most (fun k => k = w3.heap.size) w4 (.slice none 0 0) (sNew most) lb t W' ∧ ∃ k : Int, W'.heap[w3.heap.size]? = some (.cells #[.int .i64 k] 3 (0, 0)))
      (fun _ _ => False) ?hI (fun c => fun _ _ _ _ h => h.elim) (fun t A h => h.1.gi HR4.out ho4 hs4 (by omega) (by omega) hr4 ha4 (by simp [sNew]) (by simp [sNew]; omega))
      (fun _ _ _ _ _ h => h.1.nc) (fun _ _ _ _ _ _ h => h.1.nc) ?hIs (0, sNew most) ⟨Rn.start HR4.out, 0, hN4⟩ rfl ?body ?done (fun _ _ _ _ h => h.elim)
    case hI =>
      rintro t A A2 row ⟨h1, k, h2⟩ hg hr
      refine ⟨h1.grown hg hr, k, (hg.block _ (Array.getElem?_eq_some_iff.1 h2).1 (fun e => ?_)).trans h2⟩
      have := (hr _ e.symm).1
      omega
    case hIs =>
      rintro t t' A A' ⟨h1, k, h2⟩ hs
      exact ⟨h1.step hs.1, k, hs.1.box h2 (by decide) (by decide)⟩
    case body =>
      rintro lp t x t' A W1 r r' hl' hA hW1 ⟨hRn, k, hk⟩ ⟨hst, hit⟩
      have hRn1 := (hRn.step hst).put hl' hW1 rfl (.loop r')
      have hk1 : (W1.putObj lp (.loop r')).heap[w3.heap.size]? = some (.cells #[.int .i64 k] 3 (0, 0)) := (World.putObj_heap_other (by omega)).trans (hst.box hk (by decide) (by decide))
      clear hW1 hst hit hA hRn hk
      generalize W1.putObj lp (.loop r') = W2 at *
      have c0 : W2.cell? ⟨w3.heap.size, 0, none⟩ = some (.int .i64 k) := by simp [World.cell?, hk1]
      have f0 : W2.frozen? ⟨w3.heap.size, 0, none⟩ = false := by simp [World.frozen?, hk1]
      have HRn := hide hRn1
      have HK := hide hk1
      clear hRn1 hk1
      simp only [encA]
      gi_wp2_with fail
      exact ⟨(KpB.refl _ _).set (by omega) _ _, t', rfl, HRn.out.set (.inl rfl) HK.out (by decide) (by decide) _ _, _, cells_set HK.out 0 _⟩
    case done =>
      rintro D t W' hD hF ⟨hRn, k, hk⟩ hK
      have hS' : t.2 = (sNew most).go lb := hRn.1.2.1.trans (go_end (sNew most) lb t.1 (by rw [← hRn.1.2.1]; exact hF))
      have hOk : Ok t.2 := by rw [hS']; exact ok_go ⟨fun _ => rfl, fun h => absurd rfl h⟩ lb
      have hW' := hRn.block HR4.out hW4 (by decide) (by decide) (by omega)
      have hM' := hRn.rd hM4 (fun hn b o e _ => by
        have := HRM4.out.2 b o hn e
        rintro (h | h | h)
        · omega
        · simp [Value.ownBlock] at h
        · omega)
      have hzW : w4.heap.size ≤ W'.heap.size := by
        obtain ⟨_, v, _, _, h6⟩ := hRn
        exact h6.2.2.2.1
      have htk := hRn.1.2.2
      have hle := hRn.1.1
      obtain ⟨v, hR', hOw, hKX⟩ := hRn.out hB4 (fun k h => by omega)
      obtain ⟨av, cv, rfl⟩ := hR'.slice
      have hBW : Below w.heap.size w W' := Kp.toBelow hKX (Nat.le_refl _) (fun k hk hh => by
        rcases hh with h | h | h
        · omega
        · simp [Value.ownBlock] at h
        · exact h)
      clear hRn HR4 hr4 ha4 hs4 ho4 hN4 hM4 hW4 hB4 HRM
      obtain ⟨i, ⟨⟨lim, tk, at_⟩, l', ⟨sz, kd⟩, ⟨hd, er⟩, mo⟩⟩ := t
      have hSB : StB W' w1.heap.size lim tk at_ (.slice av l'.length cv) (sz : Int) kd hd er (mfn w1.heap.size mo) := hR'.1
      have hHe := hR'.held
      simp only [sNew] at htk hle hF hOk hHe
      have HC := hide (state_any w1.heap.size lim tk at_ av l'.length cv (sz : Int) kd hd er (mfn w1.heap.size mo) W' hSB)
      have HMM := hide hM'
      have HRR := hide hR'
      have HOO := hide hOw
      have HHF := hide hF
      have HOk := hide hOk
      have HHe := hide hHe
      have HSB := hide hSB
      have HKK := hide hK
      have HBW := hide hBW
      have HWW := hide hW'
      have HS2 := hide hS'
      clear hM' hR' hOw hF hOk hHe hSB hK hBW hW' hKX hS' hk
      gi_wp2_with fail
      refine ⟨trivial, hdd _, ?_⟩
      refine (callsIn_wide.2 HC.out).mono ?_
      rintro e w5 ⟨rfl, hb5⟩
      have hz5 := hb5.size
      have hWR : w5.heap[w.heap.size]? = some (.cells #[.bool false] 4 (0, 0)) := (hb5.block _ (by omega)).trans HWW.out
      have hfz : w5.frozen? ⟨w.heap.size, 0, none⟩ = false := by simp [World.frozen?, hWR]
      have hcl : w5.cell? ⟨w.heap.size, 0, none⟩ = some (.bool false) := by simp [World.cell?, hWR]
      have hlt5 : w.heap.size < w5.heap.size := by omega
      have hDD : w5.heap[D]? = some (.deferred (some [])) := (hb5.block _ (Array.getElem?_eq_some_iff.1 HKK.out).1).trans HKK.out
      have HB5 : Hid (Below w.heap.size w w5) := HBW.out.trans (hb5.mono (by omega))
      clear HC
      by_cases her : er = 0
      · subst her
        have hat := HOk.out.1 rfl
        have htk2 : tk = (lb.length : Int) := by
          rcases HHF.out with h | h
          · simp only at h; omega
          · exact absurd rfl h
        have hhe := HHe.out rfl
        simp only at hat hhe
        subst htk2 hat
        have hhl : (l'.length : Int) < 1048577 := by omega
        have hne : w.heap.size ≠ w5.heap.size := by omega
        have hsub : (lb.length : Int) - (l'.length : Int) = (lb.length : Int) - (l'.length : Int) := rfl
        have hdec : decide ((l'.length : Int) < most) = true := by simp; omega
        cases hd with
        | false =>
          gi_wp2_with fail
          refine ⟨by simp, .inl ⟨_, _, rfl, run_takeDeferred (heap_past ((blk_setCell_other _ _ _ _ (show D ≠ w.heap.size by omega)).trans hDD) _), ?_⟩⟩
          exact ⟨.bool true, ret_cell (by omega) (heap_past (cells_set hWR 0 _) _), rfl, below_put ((HB5.out.setCell (Nat.le_refl _) _).alloc (by simp; omega) _) (by omega) _⟩
        | true =>
          have hdec8 : decide ((l'.length : Int) < 8) = true := by have := hhe.2 rfl; simp; omega
          gi_wp2_with fail
          refine ⟨by simp, .inl ⟨_, _, rfl, run_takeDeferred (heap_past ((blk_setCell_other _ _ _ _ (show D ≠ w.heap.size by omega)).trans hDD) _), ?_⟩⟩
          exact ⟨.bool true, ret_cell (by omega) (heap_past (cells_set hWR 0 _) _), rfl, below_put ((HB5.out.setCell (Nat.le_refl _) _).alloc (by simp; omega) _) (by omega) _⟩
      · have heb : (er == 0) = false := by simpa using her
        have hsh := HOk.out.2 her
        simp only at hsh
        obtain ⟨rfl, hat⟩ := hsh
        obtain ⟨wa, hwa⟩ : ∃ wa, w5.alloc (.cells #[.int .i64 tk, .int .i64 0, .bool hd, .int .i64 er, .int .i64 at_] 40) = wa := ⟨_, rfl⟩
        have HZA : Hid (wa.heap.size = w5.heap.size + 1) := by rw [← hwa]; simp [Hid]
        have hba : Below W'.heap.size W' wa := by rw [← hwa]; exact hb5.alloc (by omega) _
        have HTa : Hid (wa.heap[w5.heap.size]? = some (.cells #[.int .i64 tk, .int .i64 0, .bool hd, .int .i64 er, .int .i64 at_] 40 (0, 0))) := by rw [← hwa]; exact World.alloc_heap_new _ _
        have HWa : Hid (wa.heap[w.heap.size]? = some (.cells #[.bool false] 4 (0, 0))) := by rw [← hwa]; exact heap_past hWR _
        have HDa : Hid (wa.heap[D]? = some (.deferred (some []))) := by rw [← hwa]; exact heap_past hDD _
        have HBa : Hid (Below w.heap.size w wa) := by rw [← hwa]; exact HB5.out.alloc (by omega) _
        have HRa : Hid (SR wa w1.heap.size w1.heap.size most ((lim, tk, at_), [], (sz, kd), (hd, er), mo) (.slice av 0 cv)) := HRR.out.keep hba.size (fun k cs t f hk _ => hba.block k (Array.getElem?_eq_some_iff.1 hk).1)
        have hMa : Rd wa am lm.length lm := HMM.out.below hba
        have HAL := hide (all_any (some ⟨w1.heap.size, 0, none⟩) am lm.length cm lm wa hMa (by omega) hnm ham)
        have HMa := hide hMa
        have HT : Hid (tk = (i : Int) ∧ i ≤ lb.length) := ⟨by omega, hle⟩
        have tc3 : wa.cell? ⟨w5.heap.size, 3, none⟩ = some (.int .i64 er) := by simp [World.cell?, HTa.out]
        clear hMa hba hWR hDD hfz hcl HB5 HRR HMM HWW HKK HBW HSB HHe HOk HHF HOO hb5 htk hle
        gi_wp2_with fail
        refine ⟨trivial, hdd _, ?_⟩
        refine (callsIn_wide.2 HAL.out).mono ?_
        rintro e w7 ⟨bo2, a2, c2, rfl, hs7, ho7, hbo7, hr7, hc7, ha7, hb7⟩
        have hz7 := hb7.size
        have hlo7 : bo2 < w7.heap.size := (Array.getElem?_eq_some_iff.1 ho7).1
        have hS1z : w1.heap.size < wa.heap.size := HRa.out.1.lt
        have HR7 : Hid (SR w7 w1.heap.size w1.heap.size most ((lim, tk, at_), [], (sz, kd), (hd, er), mo) (.slice av 0 cv)) := HRa.out.keep hb7.size (fun k cs t f hk _ => hb7.block k (Array.getElem?_eq_some_iff.1 hk).1)
        have HK7 : Hid (Kc w.heap.size wa w7) := Kc.below hb7 (by omega)
        have ha8 : 0 < lm.length → ∀ b o, a2 = some ⟨b, o, none⟩ → b < w7.heap.size → ¬ (b = w1.heap.size ∨ (Value.slice av 0 cv).ownBlock = some b ∨ False) := fun hn b o e _ => by
          have h1 := ha7 b o e
          rintro (h | h | h)
          · omega
          · have := HRa.out.own_lt h
            omega
          · exact h
        have hq2 := eq_nil_seq #[.pointer (some ⟨wa.heap.size, 0, none⟩), .pointer (some ⟨bo2, 0, none⟩)] w7
        have HI7 := hide (And.intro hs7 (And.intro ho7 (And.intro hr7 ha8)))
        clear hs7 ho7 hr7 hc7 ha7 hb7 ha8 HAL
        gi_wp2_with fail
        obtain ⟨hs7, ho7, hr7, ha8⟩ := HI7.out
        refine range_js (gf := 36) (lb := #[.pointer (some ⟨wa.heap.size, 0, none⟩), .pointer (some ⟨bo2, 0, none⟩)]) rfl (enters_of Try.func36 (by kernel_rfl) rfl) (all_seq w1.heap.size w1.heap.size most bo2 wa.heap.size a2 c2 lm) (fun _ => rfl)
          (fun t W' => Rn w1.heap.size w1.heap.size most (fun _ => False) w7 (.slice av 0 cv) ((lim, tk, at_), [], (sz, kd), (hd, er), mo) lm t W' ∧ t.1 = 0)
          (fun _ _ => False) ?hI2 (fun c => fun _ _ _ _ h => h.elim) (fun t A h => h.1.gi HR7.out ho7 hs7 id id hr7 ha8 (by have := HT.out; simp only; omega) (by have := HT.out; simp only; omega))
          (fun _ _ _ _ _ h => h.1.nc) (fun _ _ _ _ _ _ h => h.1.nc) ?hIs2 (0, ((lim, tk, at_), [], (sz, kd), (hd, er), mo)) ⟨Rn.start HR7.out, rfl⟩ rfl ?body2 ?done2 (fun _ _ _ _ h => h.elim)
        case hI2 =>
          rintro t A A2 row ⟨h1, h2⟩ hg hr
          exact ⟨h1.grown hg hr, h2⟩
        case hIs2 =>
          rintro t t' A A' ⟨h1, h2⟩ hs
          have h3 := hs.1.2.1
          have h4 := h1.1.2.1
          rw [h2] at h4
          rw [h4] at h3
          exact absurd h3 her
        case body2 =>
          rintro lp t x t' A W1 r r' hl' hA hW1 ⟨h1, h2⟩ ⟨hst, hit⟩
          have h3 := hst.2.1
          have h4 := h1.1.2.1
          rw [h2] at h4
          rw [h4] at h3
          exact absurd h3 her
        case done2 =>
          rintro D2 t W8 hD2 hF2 ⟨hRn2, ht2⟩ hK2
          have hDne : D ≠ D2 := by have := (Array.getElem?_eq_some_iff.1 HDa.out).1; omega
          have hs2 : t.2 = ((lim, tk, at_), [], (sz, kd), (hd, er), mo) := by
            have h4 := hRn2.1.2.1
            rw [ht2] at h4
            exact h4
          obtain ⟨v8, hR8, hO8, hX8⟩ := hRn2.out (w := w7) (Below.refl _ _) (fun k h => h.elim)
          rw [hs2] at hR8
          have HK8 : Hid (Kc w.heap.size wa W8) := HK7.out.trans (Kc.kx HR7.out (by omega) (by omega) hX8)
          have HD2 := hide hK2
          have hM8 : Rd W8 am lm.length lm := HK8.out.rd HMa.out (fun b o hn e => HRM4.out.2 b o hn e)
          have HC8 := hide (take_any w1.heap.size w1.heap.size most ((lim, tk, at_), [], (sz, kd), (hd, er), mo) v8 am cm lm W8 hR8 hM8 (fun hn b o e => by
            have := HRM4.out.2 b o hn e
            refine ⟨by omega, fun h => ?_⟩
            obtain ⟨_, (⟨rfl, _⟩ | ⟨g, cap, cur, rfl, q1, _⟩)⟩ := hR8.2.1
            · simp [Value.ownBlock] at h
            · simp [Value.ownBlock] at h
              omega) (by have := HT.out; simp only; omega) (by have := HT.out; simp only; omega))
          have HR8 := hide hR8
          clear hK2 hRn2 hR8 hO8 hX8 hM8 hF2 hs7 ho7 hr7 ha8 HI7 hq2 tc3 HK7 HR7
          gi_wp2_with fail
          refine ⟨trivial, hdd _, ?_⟩
          refine (callsIn_wide.2 HC8.out).mono ?_
          intro e w9 ht9
          obtain ⟨rfl, v9, hO9, hX9, hR9⟩ := take_shut (s := ((lim, tk, at_), [], (sz, kd), (hd, er), mo)) her ht9
          have HK9 : Hid (Kc w.heap.size wa w9) := HK8.out.trans (Kc.kx HR8.out (by omega) (by omega) hX9)
          have HD9 : Hid (w9.heap[D2]? = some (.deferred (some []))) := (Kc.kx (N := w.heap.size) HR8.out (by omega) (by omega) hX9).2.2.1 _ _ rfl HD2.out
          have HR9 := hide hR9
          have hz9 : wa.heap.size ≤ w9.heap.size := HK9.out.1
          clear ht9 hO9 hX9 hR9 HC8 HD2 HK8 HR8
          simp only [it0, itV]
          gi_wp2_with fail
          refine ⟨trivial, hdd _, ?_⟩
          have hR9a := HR9.out.alloc (.cells #[.int .i64 0, .int .i64 0, .int .i64 0, .int .i64 0, .slice none 0 0, .slice none 0 0] 51)
          refine (callsIn_wide.2 (expect_shut hR9a.1 hat)).mono ?_
          rintro e wb ⟨rfl, hSb, hKb⟩
          have hRb := hR9a.turn hSb hKb
          have hkcb := Kc.kp (N := w.heap.size) hR9a (by omega) (by omega) hKb (fun k h => .inl h)
          have HIb : Hid (IZ wb w9.heap.size) := hkcb.2.1 _ _ _ _ (World.alloc_heap_new _ _) (by decide) (by decide)
          have HKb : Hid (Kc w.heap.size wa wb) := (HK9.out.trans (Kc.below (below_box w9 _) (by omega))).trans hkcb
          have HDb : Hid (wb.heap[D2]? = some (.deferred (some []))) := hkcb.2.2.1 _ _ rfl (heap_past HD9.out _)
          have HRb := hide hRb
          clear hR9a hSb hKb hRb hkcb HR9 HK9 HD9
          gi_wp2_with fail
          refine ⟨trivial, hdd _, ?_⟩
          refine (callsIn_wide.2 (most_any w1.heap.size lim tk at_ v9 (sz : Int) kd hd er (mfn w1.heap.size mo) 512 wb HRb.out.1)).mono ?_
          rintro e wc ⟨rfl, hSc, hKc⟩
          have hSc2 : StB wc w1.heap.size lim tk at_ v9 (sz : Int) kd hd er (mfn w1.heap.size mo) := by
            rw [if_neg (fun h => her h.2)] at hSc
            exact hSc
          have hRc := HRb.out.turn hSc2 hKc
          have hkcc := Kc.kp (N := w.heap.size) HRb.out (by omega) (by omega) hKc (fun k h => .inl h)
          have HIc : Hid (IZ wc w9.heap.size) := hkcc.2.1 _ _ _ _ HIb.out (by decide) (by decide)
          have HKc : Hid (Kc w.heap.size wa wc) := HKb.out.trans hkcc
          have HDc : Hid (wc.heap[D2]? = some (.deferred (some []))) := hkcc.2.2.1 _ _ rfl HDb.out
          have HRc := hide hRc
          obtain ⟨av9, cv9, hv9⟩ := hRc.slice
          have HSc : Hid (StB wc w1.heap.size lim tk at_ (.slice av9 0 cv9) (sz : Int) kd hd er (mfn w1.heap.size mo)) := by rw [← show v9 = .slice av9 0 cv9 from hv9]; exact hSc2
          rw [if_pos (by decide), if_neg her]
          clear hSc hSc2 hKc hRc hkcc HRb HKb HDb HIb
          gi_wp2_with fail
          refine ⟨trivial, hdd _, ?_⟩
          refine (callsIn_wide.2 (state_any w1.heap.size lim tk at_ av9 0 cv9 (sz : Int) kd hd er (mfn w1.heap.size mo) wc HSc.out)).mono ?_
          rintro e wd ⟨rfl, hbd⟩
          have hkd := HKc.out.trans (Kc.below (N := w.heap.size) hbd (by have := HKc.out.1; omega))
          have hzd := hbd.size
          have hId : IZ wd w9.heap.size := IB.below HIc.out hbd HIc.out.lt
          have hDd : wd.heap[D2]? = some (.deferred (some [])) := (hbd.block _ (Array.getElem?_eq_some_iff.1 HDc.out).1).trans HDc.out
          have hWd := hkd.2.1 _ _ _ _ HWa.out (by decide) (by decide)
          have hTd := hkd.2.1 _ _ _ _ HTa.out (by decide) (by decide)
          have hD1 := hkd.2.2.1 _ _ rfl HDa.out
          have HBd : Hid (Below w.heap.size w wd) := hkd.to_below HBa.out
          obtain ⟨⟨i0, _⟩, _⟩ := hId.facts
          have hli := hId.lt
          have hfz : wd.frozen? ⟨w.heap.size, 0, none⟩ = false := by simp [World.frozen?, hWd]
          have hcl : wd.cell? ⟨w.heap.size, 0, none⟩ = some (.bool false) := by simp [World.cell?, hWd]
          have t0 : wd.cell? ⟨w5.heap.size, 0, none⟩ = some (.int .i64 tk) := by simp [World.cell?, hTd]
          have t1 : wd.cell? ⟨w5.heap.size, 1, none⟩ = some (.int .i64 0) := by simp [World.cell?, hTd]
          have t2 : wd.cell? ⟨w5.heap.size, 2, none⟩ = some (.bool hd) := by simp [World.cell?, hTd]
          have t3 : wd.cell? ⟨w5.heap.size, 3, none⟩ = some (.int .i64 er) := by simp [World.cell?, hTd]
          have t4 : wd.cell? ⟨w5.heap.size, 4, none⟩ = some (.int .i64 at_) := by simp [World.cell?, hTd]
          have hlT : w5.heap.size < wd.heap.size := (Array.getElem?_eq_some_iff.1 hTd).1
          have hlR : w.heap.size < wd.heap.size := (Array.getElem?_eq_some_iff.1 hWd).1
          have hdt : decide (tk ≤ (lb.length : Int)) = true := by have := HT.out; simp; omega
          have hda : decide (at_ < tk) = true := by simpa using hat
          have HF := hide (And.intro hWd (And.intro hDd hD1))
          clear hWd hDd hD1 hTd hId hkd hbd HKc HDc HIc HSc HRc HTa HWa HDa HBa HMa HRa
          gi_wp2_with fail
          obtain ⟨hWd, hDd, hD1⟩ := HF.out
          have e1 := heap_past ((blk_setCell_other wd ⟨w.heap.size, 0, none⟩ (.bool true) D2 (show D2 ≠ w.heap.size by omega)).trans hDd) (.cells #[.int .i64 tk, .int .i64 0, .bool hd, .int .i64 er, .int .i64 at_] 40)
          have e2 := (World.putObj_heap_other (o := .deferred none) hDne).trans (heap_past ((blk_setCell_other wd ⟨w.heap.size, 0, none⟩ (.bool true) D (show D ≠ w.heap.size by omega)).trans hD1) (.cells #[.int .i64 tk, .int .i64 0, .bool hd, .int .i64 er, .int .i64 at_] 40))
          have e3 := (World.putObj_heap_other (o := .deferred none) (show w.heap.size ≠ D2 by omega)).trans (heap_past (cells_set hWd 0 (.bool true)) (.cells #[.int .i64 tk, .int .i64 0, .bool hd, .int .i64 er, .int .i64 at_] 40))
          refine ⟨by simp, .inl ⟨_, _, rfl, run_takeDeferred e1, by simp, .inl ⟨_, _, rfl, run_takeDeferred e2, ?_⟩⟩⟩
          exact ⟨.bool true, ret_cell (by omega) e3, rfl, below_put (below_put ((HBd.out.setCell (Nat.le_refl _) _).alloc (by simp; omega) _) (by omega) _) (by omega) _⟩
  · refine (callsIn_wide.2 (new_no most w1 hm)).mono ?_
    rintro e w2 ⟨rfl, rfl⟩
    have hfz : w2.frozen? ⟨w.heap.size, 0, none⟩ = false := by simp [World.frozen?, HB1.out.2.1]
    have hcl : w2.cell? ⟨w.heap.size, 0, none⟩ = some (.bool false) := by simp [World.cell?, HB1.out.2.1]
    have hlt : w.heap.size < w2.heap.size := HB1.out.2.2
    have hbel : ∀ v, Below w.heap.size w (w2.setCell ⟨w.heap.size, 0, none⟩ v) := fun v => HB1.out.1.setCell (Nat.le_refl _) _
    have HOR : Hid ((decide (most < 512) || decide (1048576 < most)) = true) := by
      show (decide (most < 512) || decide (1048576 < most)) = true
      by_cases h1 : most < 512
      · simp [h1]
      · by_cases h2 : 1048576 < most
        · simp [h2]
        · exact absurd ⟨by omega, by omega⟩ hm
    clear hm
    gi_wp2_with fail
    all_goals (try rw [HOR.out])
    all_goals exact ⟨.bool true, by simp [results, Try.f6, go_sem, hcl, hlt], rfl, hbel _⟩
end Go.Proofs.Ytaijcnkmklibcaa
