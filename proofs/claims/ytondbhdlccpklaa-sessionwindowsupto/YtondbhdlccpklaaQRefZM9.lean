import Derived.Test.YtondbhdlccpklaaQRefYM9
import Derived.Deep.QuietTactic

/- Stage 13: the document's Flow: out of series, and taken. -/
namespace Go.Proofs.Ytondbhdlccpklaa
open Go.RowKit Go.Maps
set_option linter.unusedVariables false
set_option linter.unusedSimpArgs false

theorem mayF_yes {ki ni iw no ow : Int} (h : mayF ki ni iw no ow = true) : ki = 19 ∧ isW iw = true ∧ isW no = true ∧ isW ow = true ∧ (ni = -1 ∨ isW ni = true) := by
  unfold mayF at h
  simp at h
  exact ⟨h.1.1, h.1.2.1, h.1.2.2.1, h.1.2.2.2, h.2⟩
section
variable (g : Nat) (s : Sn) (vh vr vs va : Value) (A : Array Value) (ki ni iw no ow hm : Int) (w : World)
set_option maxRecDepth 100000 in
set_option maxHeartbeats 4000000 in
theorem rflow_series (hS : RB w g s vh vr vs va) (hp : s.peer = true) (hA : PfB A ki ni iw no ow hm) (hf : mayF ki ni iw no ow = true) (hE : s.ahead ni < 0 ∨ s.ahead ni > iw) :
    Calls Try.prog 76 #[.pointer (some ⟨g, 0, none⟩), .agg A] w fun e w' => e = .returned (.int .i64 131) ∧ Below w.heap.size w w' := by
  have HS := hide hS
  have hl := hS.lt
  have hw := mayF_iw hf
  obtain ⟨w1, hV⟩ : ∃ V, w.alloc (.cells A 39) = V := ⟨_, rfl⟩
  have HV := hide hV
  have HB : Hid (Below w.heap.size w w1) := hV ▸ bel1 (Below.refl _ _) (Nat.le_refl _) _
  have hh : w1.heap[w.heap.size]? = some (.cells A 39 (0, 0)) := hV ▸ heap_alloc_last w _
  have c0 := cellOf hh 0 _ hA.2.1
  have c12 := cellOf hh 12 _ hA.2.2.1
  have c13 := cellOf hh 13 _ hA.2.2.2.1
  have c14 := cellOf hh 14 _ hA.2.2.2.2.1
  have c15 := cellOf hh 15 _ hA.2.2.2.2.2.1
  have hlt : w.heap.size < w1.heap.size := (Array.getElem?_eq_some_iff.1 hh).1
  have h13 := hA.2.2.2.1
  have H1 := hide (HS.out.at (HB.out.block g hl))
  have hne : g ≠ w.heap.size := by omega
  have hne2 : w.heap.size ≠ g := by omega
  have hl1 := H1.out.lt
  obtain ⟨s0, s1, s2, s3, s4, s5, s6, s7, s8, s9, s10, s11, s12, s13, s14, s15, s16⟩ := H1.out.facts
  obtain ⟨t0, t1, t2, t3, t4, t5, t6, t7, t8, t9, t10, t11, t12, t13, t14, t15, t16⟩ := hS.facts
  have f4 := H1.out.frozen 4
  have f6 := H1.out.frozen 6
  have f7 := H1.out.frozen 7
  rw [hp] at s1 t1
  obtain ⟨hk, y1, y2, y3, y4⟩ := mayF_yes hf
  obtain ⟨i4, e4⟩ : ∃ b, isW ni = b := ⟨_, rfl⟩
  have W1 : Hid (∀ W, Calls Try.prog 63 #[.int .i64 iw] W fun e w' => e = .returned (.bool true) ∧ w' = W) := fun W => y1 ▸ word_any iw W
  have W2 : Hid (∀ W, Calls Try.prog 63 #[.int .i64 no] W fun e w' => e = .returned (.bool true) ∧ w' = W) := fun W => y2 ▸ word_any no W
  have W3 : Hid (∀ W, Calls Try.prog 63 #[.int .i64 ow] W fun e w' => e = .returned (.bool true) ∧ w' = W) := fun W => y3 ▸ word_any ow W
  have W4 : Hid (∀ W, Calls Try.prog 63 #[.int .i64 ni] W fun e w' => e = .returned (.bool i4) ∧ w' = W) := fun W => e4 ▸ word_any ni W
  have HG : Hid (∀ W, Calls Try.prog 67 #[.int .i64 (s.heard ni), .int .i64 s.no] W fun e w' => e = .returned (.int .i64 (s.ahead ni)) ∧ W = w') := fun W => rgap_any _ _ W
  have hgb : -2147483648 ≤ s.ahead ni ∧ s.ahead ni ≤ 2147483647 := gap_bound _ _
  obtain ⟨ah, eah⟩ : ∃ ah, s.ahead ni = ah := ⟨_, rfl⟩
  have HAh := hide eah
  rw [eah] at HG hE hgb
  have Y4 : i4 = false → ni = -1 := fun h => by
    rcases y4 with h' | h'
    · exact h'
    · rw [h', h] at e4
      cases e4
  subst hk
  clear eah hV hh hA hf hp hS y1 y2 y3 y4 e4
  have hcase : (ah < 0) ∨ (0 ≤ ah ∧ iw < ah) := by omega
  by_cases hn : ni = -1
  · have eh : s.heard ni = s.fi := by simp [Sn.heard, hn]
    rw [eh] at HG
    subst hn
    clear eh hE Y4
    cases i4
    · go_enter Try.func76, Try.ntmps76
      go_wp2_with fail
      rw [HV.out]
      refine (W1.out _).mono ?_
      rintro _ _ ⟨rfl, rfl⟩
      go_wp2_with fail
      refine (W2.out _).mono ?_
      rintro _ _ ⟨rfl, rfl⟩
      go_wp2_with fail
      refine (W3.out _).mono ?_
      rintro _ _ ⟨rfl, rfl⟩
      go_wp2_with fail
      refine (W4.out _).mono ?_
      rintro _ _ ⟨rfl, rfl⟩
      go_wp2_with fail
      refine (HG.out _).mono ?_
      rintro _ _ ⟨rfl, rfl⟩
      rcases hcase with hc | ⟨hc, hd⟩
      all_goals
        go_wp2
        go_ret
        exact ⟨rfl, HB.out⟩
    · go_enter Try.func76, Try.ntmps76
      go_wp2_with fail
      rw [HV.out]
      refine (W1.out _).mono ?_
      rintro _ _ ⟨rfl, rfl⟩
      go_wp2_with fail
      refine (W2.out _).mono ?_
      rintro _ _ ⟨rfl, rfl⟩
      go_wp2_with fail
      refine (W3.out _).mono ?_
      rintro _ _ ⟨rfl, rfl⟩
      go_wp2_with fail
      refine (W4.out _).mono ?_
      rintro _ _ ⟨rfl, rfl⟩
      go_wp2_with fail
      refine (HG.out _).mono ?_
      rintro _ _ ⟨rfl, rfl⟩
      rcases hcase with hc | ⟨hc, hd⟩
      all_goals
        go_wp2
        go_ret
        exact ⟨rfl, HB.out⟩
  · have eh : s.heard ni = ni := by simp [Sn.heard, hn]
    have hnb : (ni == -1) = false := by simp [hn]
    rw [eh] at HG
    obtain rfl : i4 = true := by
      cases i4
      · exact absurd (Y4 rfl) hn
      · rfl
    clear eh hE Y4
    go_enter Try.func76, Try.ntmps76
    go_wp2_with fail
    rw [HV.out]
    refine (W1.out _).mono ?_
    rintro _ _ ⟨rfl, rfl⟩
    go_wp2_with fail
    refine (W2.out _).mono ?_
    rintro _ _ ⟨rfl, rfl⟩
    go_wp2_with fail
    refine (W3.out _).mono ?_
    rintro _ _ ⟨rfl, rfl⟩
    go_wp2_with fail
    refine (W4.out _).mono ?_
    rintro _ _ ⟨rfl, rfl⟩
    go_wp2_with fail
    refine (HG.out _).mono ?_
    rintro _ _ ⟨rfl, rfl⟩
    rcases hcase with hc | ⟨hc, hd⟩
    all_goals
      go_wp2
      go_ret
      exact ⟨rfl, HB.out⟩
set_option maxRecDepth 100000 in
set_option maxHeartbeats 4000000 in
theorem rflow_yes (hS : RB w g s vh vr vs va) (hp : s.peer = true) (hA : PfB A ki ni iw no ow hm) (hf : mayF ki ni iw no ow = true) (hE : ¬ (s.ahead ni < 0 ∨ s.ahead ni > iw)) :
    Calls Try.prog 76 #[.pointer (some ⟨g, 0, none⟩), .agg A] w fun e w' => e = .returned (.int .i64 0) ∧ RB w' g (s.flowed ni iw no ow) vh vr vs va ∧ Kp (fun k => k = g) w w' := by
  have HS := hide hS
  have hl := hS.lt
  have hw := mayF_iw hf
  obtain ⟨w1, hV⟩ : ∃ V, w.alloc (.cells A 39) = V := ⟨_, rfl⟩
  have HV := hide hV
  have HB : Hid (Below w.heap.size w w1) := hV ▸ bel1 (Below.refl _ _) (Nat.le_refl _) _
  have hh : w1.heap[w.heap.size]? = some (.cells A 39 (0, 0)) := hV ▸ heap_alloc_last w _
  have c0 := cellOf hh 0 _ hA.2.1
  have c12 := cellOf hh 12 _ hA.2.2.1
  have c13 := cellOf hh 13 _ hA.2.2.2.1
  have c14 := cellOf hh 14 _ hA.2.2.2.2.1
  have c15 := cellOf hh 15 _ hA.2.2.2.2.2.1
  have hlt : w.heap.size < w1.heap.size := (Array.getElem?_eq_some_iff.1 hh).1
  have h13 := hA.2.2.2.1
  have H1 := hide (HS.out.at (HB.out.block g hl))
  have hne : g ≠ w.heap.size := by omega
  have hne2 : w.heap.size ≠ g := by omega
  have hl1 := H1.out.lt
  obtain ⟨s0, s1, s2, s3, s4, s5, s6, s7, s8, s9, s10, s11, s12, s13, s14, s15, s16⟩ := H1.out.facts
  obtain ⟨t0, t1, t2, t3, t4, t5, t6, t7, t8, t9, t10, t11, t12, t13, t14, t15, t16⟩ := hS.facts
  have f4 := H1.out.frozen 4
  have f6 := H1.out.frozen 6
  have f7 := H1.out.frozen 7
  rw [hp] at s1 t1
  obtain ⟨hk, y1, y2, y3, y4⟩ := mayF_yes hf
  obtain ⟨i4, e4⟩ : ∃ b, isW ni = b := ⟨_, rfl⟩
  have W1 : Hid (∀ W, Calls Try.prog 63 #[.int .i64 iw] W fun e w' => e = .returned (.bool true) ∧ w' = W) := fun W => y1 ▸ word_any iw W
  have W2 : Hid (∀ W, Calls Try.prog 63 #[.int .i64 no] W fun e w' => e = .returned (.bool true) ∧ w' = W) := fun W => y2 ▸ word_any no W
  have W3 : Hid (∀ W, Calls Try.prog 63 #[.int .i64 ow] W fun e w' => e = .returned (.bool true) ∧ w' = W) := fun W => y3 ▸ word_any ow W
  have W4 : Hid (∀ W, Calls Try.prog 63 #[.int .i64 ni] W fun e w' => e = .returned (.bool i4) ∧ w' = W) := fun W => e4 ▸ word_any ni W
  have HG : Hid (∀ W, Calls Try.prog 67 #[.int .i64 (s.heard ni), .int .i64 s.no] W fun e w' => e = .returned (.int .i64 (s.ahead ni)) ∧ W = w') := fun W => rgap_any _ _ W
  have hgb : -2147483648 ≤ s.ahead ni ∧ s.ahead ni ≤ 2147483647 := gap_bound _ _
  obtain ⟨ah, eah⟩ : ∃ ah, s.ahead ni = ah := ⟨_, rfl⟩
  have HAh := hide eah
  rw [eah] at HG hE hgb
  have Y4 : i4 = false → ni = -1 := fun h => by
    rcases y4 with h' | h'
    · exact h'
    · rw [h', h] at e4
      cases e4
  subst hk
  clear eah hV hh hA hf hp hS y1 y2 y3 y4 e4
  have hc0 : ¬ ah < 0 := by omega
  have hc1 : ¬ ah > iw := by omega
  by_cases hn : ni = -1
  · have eh : s.heard ni = s.fi := by simp [Sn.heard, hn]
    rw [eh] at HG
    subst hn
    clear eh hE Y4
    cases i4
    · go_enter Try.func76, Try.ntmps76
      go_wp2_with fail
      rw [HV.out]
      refine (W1.out _).mono ?_
      rintro _ _ ⟨rfl, rfl⟩
      go_wp2_with fail
      refine (W2.out _).mono ?_
      rintro _ _ ⟨rfl, rfl⟩
      go_wp2_with fail
      refine (W3.out _).mono ?_
      rintro _ _ ⟨rfl, rfl⟩
      go_wp2_with fail
      refine (W4.out _).mono ?_
      rintro _ _ ⟨rfl, rfl⟩
      go_wp2_with fail
      refine (HG.out _).mono ?_
      rintro _ _ ⟨rfl, rfl⟩
      go_wp2_with fail
      refine (rlesser_any _ _ _).mono ?_
      rintro _ _ ⟨rfl, rfl⟩
      by_cases hz : 0 ≤ gapZ s.ni no
      · go_wp2_with fail
        go_quiet ((go_at_call 67; exact Calls.quiet_of_same ((rgap_any _ _ _).mono fun e w' h => ⟨h.1, h.2.symm⟩)))
        go_wp2
        go_ret
        exact ⟨rfl, ((((H1.out.set_ri _).set_ro _).drewN nq).set_ni _).cast (by simp only [Sn.flowed, HAh.out]; congr 1; rw [if_pos hz]), kp_self ((kp_self (kp_self (Kp.ofBelow HB.out) _ _) _ _).drewN nq) _ _⟩
      · go_wp2_with fail
        go_quiet ((go_at_call 67; exact Calls.quiet_of_same ((rgap_any _ _ _).mono fun e w' h => ⟨h.1, h.2.symm⟩)))
        go_wp2
        go_ret
        exact ⟨rfl, (((H1.out.set_ri _).set_ro _).drewN nq).cast (by simp only [Sn.flowed, HAh.out]; congr 1; rw [if_neg (by omega)]), (kp_self (kp_self (Kp.ofBelow HB.out) _ _) _ _).drewN nq⟩
    · go_enter Try.func76, Try.ntmps76
      go_wp2_with fail
      rw [HV.out]
      refine (W1.out _).mono ?_
      rintro _ _ ⟨rfl, rfl⟩
      go_wp2_with fail
      refine (W2.out _).mono ?_
      rintro _ _ ⟨rfl, rfl⟩
      go_wp2_with fail
      refine (W3.out _).mono ?_
      rintro _ _ ⟨rfl, rfl⟩
      go_wp2_with fail
      refine (W4.out _).mono ?_
      rintro _ _ ⟨rfl, rfl⟩
      go_wp2_with fail
      refine (HG.out _).mono ?_
      rintro _ _ ⟨rfl, rfl⟩
      go_wp2_with fail
      refine (rlesser_any _ _ _).mono ?_
      rintro _ _ ⟨rfl, rfl⟩
      by_cases hz : 0 ≤ gapZ s.ni no
      · go_wp2_with fail
        go_quiet ((go_at_call 67; exact Calls.quiet_of_same ((rgap_any _ _ _).mono fun e w' h => ⟨h.1, h.2.symm⟩)))
        go_wp2
        go_ret
        exact ⟨rfl, ((((H1.out.set_ri _).set_ro _).drewN nq).set_ni _).cast (by simp only [Sn.flowed, HAh.out]; congr 1; rw [if_pos hz]), kp_self ((kp_self (kp_self (Kp.ofBelow HB.out) _ _) _ _).drewN nq) _ _⟩
      · go_wp2_with fail
        go_quiet ((go_at_call 67; exact Calls.quiet_of_same ((rgap_any _ _ _).mono fun e w' h => ⟨h.1, h.2.symm⟩)))
        go_wp2
        go_ret
        exact ⟨rfl, (((H1.out.set_ri _).set_ro _).drewN nq).cast (by simp only [Sn.flowed, HAh.out]; congr 1; rw [if_neg (by omega)]), (kp_self (kp_self (Kp.ofBelow HB.out) _ _) _ _).drewN nq⟩
  · have eh : s.heard ni = ni := by simp [Sn.heard, hn]
    have hnb : (ni == -1) = false := by simp [hn]
    rw [eh] at HG
    obtain rfl : i4 = true := by
      cases i4
      · exact absurd (Y4 rfl) hn
      · rfl
    clear eh hE Y4
    go_enter Try.func76, Try.ntmps76
    go_wp2_with fail
    rw [HV.out]
    refine (W1.out _).mono ?_
    rintro _ _ ⟨rfl, rfl⟩
    go_wp2_with fail
    refine (W2.out _).mono ?_
    rintro _ _ ⟨rfl, rfl⟩
    go_wp2_with fail
    refine (W3.out _).mono ?_
    rintro _ _ ⟨rfl, rfl⟩
    go_wp2_with fail
    refine (W4.out _).mono ?_
    rintro _ _ ⟨rfl, rfl⟩
    go_wp2_with fail
    refine (HG.out _).mono ?_
    rintro _ _ ⟨rfl, rfl⟩
    go_wp2_with fail
    refine (rlesser_any _ _ _).mono ?_
    rintro _ _ ⟨rfl, rfl⟩
    by_cases hz : 0 ≤ gapZ s.ni no
    · go_wp2_with fail
      go_quiet ((go_at_call 67; exact Calls.quiet_of_same ((rgap_any _ _ _).mono fun e w' h => ⟨h.1, h.2.symm⟩)))
      go_wp2
      go_ret
      exact ⟨rfl, ((((H1.out.set_ri _).set_ro _).drewN nq).set_ni _).cast (by simp only [Sn.flowed, HAh.out]; congr 1; rw [if_pos hz]), kp_self ((kp_self (kp_self (Kp.ofBelow HB.out) _ _) _ _).drewN nq) _ _⟩
    · go_wp2_with fail
      go_quiet ((go_at_call 67; exact Calls.quiet_of_same ((rgap_any _ _ _).mono fun e w' h => ⟨h.1, h.2.symm⟩)))
      go_wp2
      go_ret
      exact ⟨rfl, (((H1.out.set_ri _).set_ro _).drewN nq).cast (by simp only [Sn.flowed, HAh.out]; congr 1; rw [if_neg (by omega)]), (kp_self (kp_self (Kp.ofBelow HB.out) _ _) _ _).drewN nq⟩
end
end Go.Proofs.Ytondbhdlccpklaa
