import Derived.Test.YtondbhdlccpklaaQFlowM9
import Derived.Deep.QuietTactic

/- Stage 13: a Flow that is taken. -/
namespace Go.Proofs.Ytondbhdlccpklaa
open Go.RowKit Go.Maps
set_option linter.unusedVariables false
set_option linter.unusedSimpArgs false

theorem SB.drewN {w : World} {g : Nat} {s : Sn} (h : SB w g s) (n : Nat) : SB (w.drewN n) g s := h
theorem Kp.drewN {X : Nat → Prop} {w w' : World} (h : Kp X w w') (n : Nat) : Kp X w (w'.drewN n) := h
set_option maxRecDepth 100000 in
set_option maxHeartbeats 2000000 in
theorem flow_yes (g : Nat) (s : Sn) (A : Array Value) (ki ni iw no ow hm : Int) (w : World) (hS : SB w g s) (hp : s.peer = true) (hA : PfB A ki ni iw no ow hm) (hf : mayF ki ni iw no ow = true) (hE : ¬ (s.ahead ni < 0 ∨ s.ahead ni > iw)) :
    Calls Try.prog 24 #[.pointer (some ⟨g, 0, none⟩), .agg A] w fun e w' => e = .returned (.int .i64 0) ∧ SB w' g (s.flowed ni iw no ow) ∧ Kp (fun k => k = g) w w' := by
  obtain ⟨s0, s1, s2, s3, s4, s5, s6, s7, s8, s9, s10, s11, s12, s13, s14, s15, s16⟩ := hS.facts
  have hl := hS.lt
  rw [hp] at s0
  have HS := hide hS
  have hw := mayF_iw hf
  have HM := hide (mayFlow_any A ki ni iw no ow hm hA (w.alloc (.cells A 39)))
  rw [hf] at HM
  obtain ⟨hs', h0, h12, h13, h14, h15, h16⟩ := hA
  have hs := hide hs'
  have HA := hide (And.intro h12 (And.intro h13 (And.intro h14 h15)))
  clear hf hs' h0 h12 h13 h14 h15 h16 hS hp
  have HG : Hid (∀ W, Calls Try.prog 53 #[.int .i64 (s.heard ni), .int .i64 s.no] W fun e w' => e = .returned (.int .i64 (s.ahead ni)) ∧ W = w') := fun W => gap_any _ _ W
  have hgb : -2147483648 ≤ s.ahead ni ∧ s.ahead ni ≤ 2147483647 := gap_bound _ _
  obtain ⟨ah, eah⟩ : ∃ ah, s.ahead ni = ah := ⟨_, rfl⟩
  have HAh := hide eah
  rw [eah] at HG hE hgb
  clear eah
  go_enter Try.func24, Try.ntmps24
  go_wp2_with (refine wpList_load_row rfl 39 (.tmp 3) rfl w.heap.size rfl 39 A (0, 0) _ (heap_alloc_last w _) Try.underlying39 rfl (pf_info hs.out) ?_)
  refine HM.out.mono ?_
  rintro e1 w1 ⟨rfl, hb1⟩
  have hh : w1.heap[w.heap.size]? = some (.cells A 39 (0, 0)) := (hb1.block _ (by simp)).trans (heap_alloc_last w _)
  have c12 := cellOf hh 12 _ HA.out.1
  have c13 := cellOf hh 13 _ HA.out.2.1
  have c14 := cellOf hh 14 _ HA.out.2.2.1
  have c15 := cellOf hh 15 _ HA.out.2.2.2
  have HB : Hid (Below w.heap.size w w1) := belOn (bel1 (Below.refl _ _) (Nat.le_refl _) _) (by simp) hb1
  have H1 := hide (HS.out.at (HB.out.block g hl))
  have hlt : w.heap.size < w1.heap.size := (Array.getElem?_eq_some_iff.1 hh).1
  have hne : g ≠ w.heap.size := by omega
  have hne2 : w.heap.size ≠ g := by omega
  have hl1 := H1.out.lt
  clear s0 s1 s2 s3 s4 s5 s6 s7 s8 s9 s10 s11 s12 s13 s14 s15 s16
  obtain ⟨s0, s1, s2, s3, s4, s5, s6, s7, s8, s9, s10, s11, s12, s13, s14, s15, s16⟩ := H1.out.facts
  have f3 := H1.out.frozen 3
  have f5 := H1.out.frozen 5
  have f6 := H1.out.frozen 6
  clear hb1 hh HA HM hs
  have hc0 : ¬ ah < 0 := by omega
  have hc1 : ¬ ah > iw := by omega
  clear hE
  by_cases hn : ni = -1
  · have eh : s.heard ni = s.fi := by simp [Sn.heard, hn]
    rw [eh] at HG
    subst hn
    clear eh
    go_wp2_with fail
    refine (HG.out _).mono ?_
    rintro e2 w2 ⟨rfl, rfl⟩
    by_cases hz : 0 ≤ gapZ s.ni no
    · go_wp2_with fail
      all_goals
        go_quiet ((go_at_call 53; exact Calls.quiet_of_same ((gap_any _ _ _).mono fun e w' h => ⟨h.1, h.2.symm⟩)))
        go_wp2
        go_ret
        exact ⟨rfl, ((((H1.out.set_ri _).set_ro _).drewN nq).set_ni _).cast (by simp only [Sn.flowed, HAh.out, lesser]; congr 1 <;> first | (rw [if_pos (by omega)]; done) | (rw [if_neg (by omega)]; done)), kp_self ((kp_self (kp_self (Kp.ofBelow HB.out) _ _) _ _).drewN nq) _ _⟩
    · go_wp2_with fail
      all_goals
        go_quiet ((go_at_call 53; exact Calls.quiet_of_same ((gap_any _ _ _).mono fun e w' h => ⟨h.1, h.2.symm⟩)))
        go_wp2
        go_ret
        exact ⟨rfl, (((H1.out.set_ri _).set_ro _).drewN nq).cast (by simp only [Sn.flowed, HAh.out, lesser]; congr 1 <;> first | (rw [if_pos (by omega)]; done) | (rw [if_neg (by omega)]; done)), (kp_self (kp_self (Kp.ofBelow HB.out) _ _) _ _).drewN nq⟩
  · have eh : s.heard ni = ni := by simp [Sn.heard, hn]
    have hnb : (ni == -1) = false := by simp [hn]
    rw [eh] at HG
    clear eh
    go_wp2_with fail
    refine (HG.out _).mono ?_
    rintro e2 w2 ⟨rfl, rfl⟩
    by_cases hz : 0 ≤ gapZ s.ni no
    · go_wp2_with fail
      all_goals
        go_quiet ((go_at_call 53; exact Calls.quiet_of_same ((gap_any _ _ _).mono fun e w' h => ⟨h.1, h.2.symm⟩)))
        go_wp2
        go_ret
        exact ⟨rfl, ((((H1.out.set_ri _).set_ro _).drewN nq).set_ni _).cast (by simp only [Sn.flowed, HAh.out, lesser]; congr 1 <;> first | (rw [if_pos (by omega)]; done) | (rw [if_neg (by omega)]; done)), kp_self ((kp_self (kp_self (Kp.ofBelow HB.out) _ _) _ _).drewN nq) _ _⟩
    · go_wp2_with fail
      all_goals
        go_quiet ((go_at_call 53; exact Calls.quiet_of_same ((gap_any _ _ _).mono fun e w' h => ⟨h.1, h.2.symm⟩)))
        go_wp2
        go_ret
        exact ⟨rfl, (((H1.out.set_ri _).set_ro _).drewN nq).cast (by simp only [Sn.flowed, HAh.out, lesser]; congr 1 <;> first | (rw [if_pos (by omega)]; done) | (rw [if_neg (by omega)]; done)), (kp_self (kp_self (Kp.ofBelow HB.out) _ _) _ _).drewN nq⟩
end Go.Proofs.Ytondbhdlccpklaa
