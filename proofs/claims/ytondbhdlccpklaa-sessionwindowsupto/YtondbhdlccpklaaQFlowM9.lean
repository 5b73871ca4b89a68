import Derived.Test.YtondbhdlccpklaaQPeerM9

/- Stage 13: a Flow that may be; Flow. -/
namespace Go.Proofs.Ytondbhdlccpklaa
open Go.RowKit Go.Maps
set_option linter.unusedVariables false
set_option linter.unusedSimpArgs false

def mayF (ki ni iw no ow : Int) : Bool := decide (ki = 19) && [iw, no, ow].all isW && (decide (ni = -1) || [ni].all isW)
set_option maxRecDepth 100000 in
theorem mayFlow_any (A : Array Value) (ki ni iw no ow hm : Int) (hA : PfB A ki ni iw no ow hm) (w : World) :
    Calls Try.prog 52 #[.agg A] w fun e w' => e = .returned (.bool (mayF ki ni iw no ow)) ∧ Below w.heap.size w w' := by
  obtain ⟨hs, h0, h12, h13, h14, h15, h16⟩ := hA
  clear hs
  by_cases hk : ki = 19
  · subst hk
    have HW := hide (areWords_any (w.heap.size + 1) [iw, no, ow] ((w.alloc (.cells A 39)).alloc (.cells #[.int .i64 iw, .int .i64 no, .int .i64 ow] 3)) (by simp) (by simp) (by
      intro j hj
      have : j = 0 ∨ j = 1 ∨ j = 2 := by simp at hj; omega
      rcases this with rfl | rfl | rfl <;> simp))
    cases hr : [iw, no, ow].all isW
    · rw [hr] at HW
      rw [show mayF 19 ni iw no ow = false by unfold mayF; rw [hr]; simp]
      clear hr
      go_enter Try.func52, Try.ntmps52
      go_wp2_with (go_at_call 55; refine HW.out.mono ?_; rintro e1 w1 ⟨rfl, rfl⟩)
      go_ret
      exact ⟨rfl, bel1 (bel1 (Below.refl _ _) (Nat.le_refl _) _) (by simp) _⟩
    · rw [hr] at HW
      have HR := hide hr
      clear hr
      by_cases hn : ni = -1
      · subst hn
        rw [show mayF 19 (-1) iw no ow = true by unfold mayF; rw [HR.out]; rfl]
        clear HR
        go_enter Try.func52, Try.ntmps52
        go_wp2_with (go_at_call 55; refine HW.out.mono ?_; rintro e1 w1 ⟨rfl, rfl⟩)
        go_ret
        exact ⟨rfl, bel1 (bel1 (Below.refl _ _) (Nat.le_refl _) _) (by simp) _⟩
      · rw [show mayF 19 ni iw no ow = [ni].all isW by unfold mayF; rw [HR.out]; simp [hn]]
        have hnb : (ni == -1) = false := by simp [hn]
        have HV := hide (areWords_any (w.heap.size + 2) [ni] (((w.alloc (.cells A 39)).alloc (.cells #[.int .i64 iw, .int .i64 no, .int .i64 ow] 3)).alloc (.cells #[.int .i64 ni] 3)) (by simp) (by simp) (by
          intro j hj
          obtain rfl : j = 0 := by simp at hj; omega
          have := heap_alloc_last ((w.alloc (.cells A 39)).alloc (.cells #[.int .i64 iw, .int .i64 no, .int .i64 ow] 3)) (.cells #[.int .i64 ni] 3)
          rw [show ((w.alloc (.cells A 39)).alloc (.cells #[.int .i64 iw, .int .i64 no, .int .i64 ow] 3)).heap.size = w.heap.size + 2 by simp] at this
          exact cellOf this 0 _ rfl))
        obtain ⟨r, hr⟩ : ∃ r, [ni].all isW = r := ⟨_, rfl⟩
        rw [hr] at HV ⊢
        clear HR hr hn
        go_enter Try.func52, Try.ntmps52
        go_wp2_with fail
        refine HW.out.mono ?_
        rintro e1 w1 ⟨rfl, rfl⟩
        go_wp2_with fail
        refine HV.out.mono ?_
        rintro e1 w1 ⟨rfl, rfl⟩
        go_wp2
        go_ret
        exact ⟨rfl, bel1 (bel1 (bel1 (Below.refl _ _) (Nat.le_refl _) _) (by simp) _) (by simp; omega) _⟩
  · rw [show mayF ki ni iw no ow = false by simp [mayF, hk]]
    have hkb : (ki == 19) = false := by simp [hk]
    go_enter Try.func52, Try.ntmps52
    go_wp2
    go_ret
    exact ⟨rfl, bel1 (Below.refl _ _) (Nat.le_refl _) _⟩
/-- what is asked behind that: how far the peer has heard -/
def Sn.heard (s : Sn) (ni : Int) : Int := if ni = -1 then s.fi else ni
def Sn.ahead (s : Sn) (ni : Int) : Int := gapZ (s.heard ni) s.no
def Sn.flowE (s : Sn) (ki ni iw no ow : Int) : Int := if s.peer then (if mayF ki ni iw no ow then (if s.ahead ni < 0 ∨ s.ahead ni > iw then 131 else 0) else 1) else 4
def Sn.flowed (s : Sn) (ni iw no ow : Int) : Sn := { s with ri := lesser (iw - s.ahead ni) 2147483647, ro := ow, ni := if 0 ≤ gapZ s.ni no then no else s.ni }
set_option maxRecDepth 100000 in
theorem flow_down (g : Nat) (s : Sn) (A : Array Value) (w : World) (hS : SB w g s) (hp : s.peer = false) :
    Calls Try.prog 24 #[.pointer (some ⟨g, 0, none⟩), .agg A] w fun e w' => e = .returned (.int .i64 4) ∧ Below w.heap.size w w' := by
  obtain ⟨s0, s1, s2, s3, s4, s5, s6, s7, s8, s9, s10, s11, s12, s13, s14, s15, s16⟩ := hS.facts
  have hl := hS.lt
  rw [hp] at s0
  clear hS hp
  go_enter Try.func24, Try.ntmps24
  go_wp2
  go_ret
  exact ⟨rfl, bel1 (Below.refl _ _) (Nat.le_refl _) _⟩
set_option maxRecDepth 100000 in
theorem flow_no (g : Nat) (s : Sn) (A : Array Value) (ki ni iw no ow hm : Int) (w : World) (hS : SB w g s) (hp : s.peer = true) (hA : PfB A ki ni iw no ow hm) (hf : mayF ki ni iw no ow = false) :
    Calls Try.prog 24 #[.pointer (some ⟨g, 0, none⟩), .agg A] w fun e w' => e = .returned (.int .i64 1) ∧ Below w.heap.size w w' := by
  obtain ⟨s0, s1, s2, s3, s4, s5, s6, s7, s8, s9, s10, s11, s12, s13, s14, s15, s16⟩ := hS.facts
  have hl := hS.lt
  rw [hp] at s0
  have HM := hide (mayFlow_any A ki ni iw no ow hm hA (w.alloc (.cells A 39)))
  rw [hf] at HM
  have hs := hide hA.1
  clear hS hp hA hf
  go_enter Try.func24, Try.ntmps24
  go_wp2_with (first | (refine wpList_load_row rfl 39 (.tmp 3) rfl w.heap.size rfl 39 A (0, 0) _ (heap_alloc_last w _) Try.underlying39 rfl (pf_info hs.out) ?_) | (go_at_call 52; refine HM.out.mono ?_; rintro e1 w1 ⟨rfl, hb1⟩))
  go_ret
  exact ⟨rfl, belOn (bel1 (Below.refl _ _) (Nat.le_refl _) _) (by simp) hb1⟩
theorem gap_bound (a b : Int) : -2147483648 ≤ gapZ a b ∧ gapZ a b ≤ 2147483647 := by
  unfold gapZ
  omega
theorem mayF_iw {ki ni iw no ow : Int} (h : mayF ki ni iw no ow = true) : 0 ≤ iw ∧ iw ≤ 4294967295 := by
  unfold mayF at h
  simp [isW] at h
  omega
set_option maxRecDepth 100000 in
set_option maxHeartbeats 2000000 in
theorem flow_series (g : Nat) (s : Sn) (A : Array Value) (ki ni iw no ow hm : Int) (w : World) (hS : SB w g s) (hp : s.peer = true) (hA : PfB A ki ni iw no ow hm) (hf : mayF ki ni iw no ow = true) (hE : s.ahead ni < 0 ∨ s.ahead ni > iw) :
    Calls Try.prog 24 #[.pointer (some ⟨g, 0, none⟩), .agg A] w fun e w' => e = .returned (.int .i64 131) ∧ Below w.heap.size w w' := by
  obtain ⟨s0, s1, s2, s3, s4, s5, s6, s7, s8, s9, s10, s11, s12, s13, s14, s15, s16⟩ := hS.facts
  have hl := hS.lt
  rw [hp] at s0
  have HS := hide hS
  have hw := mayF_iw hf
  have HM := hide (mayFlow_any A ki ni iw no ow hm hA (w.alloc (.cells A 39)))
  rw [hf] at HM
  obtain ⟨hs', h0, h12, h13, h14, h15, h16⟩ := hA
  have hs := hide hs'
  have HA := hide (And.intro h12 (And.intro h13 (And.intro h14 h15)))
  clear hf hs' h0 h12 h13 h14 h15 h16 hS hp
  have HG : Hid (∀ W, Calls Try.prog 53 #[.int .i64 (s.heard ni), .int .i64 s.no] W fun e w' => e = .returned (.int .i64 (s.ahead ni)) ∧ W = w') := fun W => gap_any _ _ W
  have hgb : -2147483648 ≤ s.ahead ni ∧ s.ahead ni ≤ 2147483647 := gap_bound _ _
  obtain ⟨ah, eah⟩ : ∃ ah, s.ahead ni = ah := ⟨_, rfl⟩
  have HAh := hide eah
  rw [eah] at HG hE hgb
  clear eah
  go_enter Try.func24, Try.ntmps24
  go_wp2_with (refine wpList_load_row rfl 39 (.tmp 3) rfl w.heap.size rfl 39 A (0, 0) _ (heap_alloc_last w _) Try.underlying39 rfl (pf_info hs.out) ?_)
  refine HM.out.mono ?_
  rintro e1 w1 ⟨rfl, hb1⟩
  have hh : w1.heap[w.heap.size]? = some (.cells A 39 (0, 0)) := (hb1.block _ (by simp)).trans (heap_alloc_last w _)
  have c12 := cellOf hh 12 _ HA.out.1
  have c13 := cellOf hh 13 _ HA.out.2.1
  have c14 := cellOf hh 14 _ HA.out.2.2.1
  have c15 := cellOf hh 15 _ HA.out.2.2.2
  have HB : Hid (Below w.heap.size w w1) := belOn (bel1 (Below.refl _ _) (Nat.le_refl _) _) (by simp) hb1
  have H1 := hide (HS.out.at (HB.out.block g hl))
  have hlt : w.heap.size < w1.heap.size := (Array.getElem?_eq_some_iff.1 hh).1
  have hne : g ≠ w.heap.size := by omega
  have hne2 : w.heap.size ≠ g := by omega
  have hl1 := H1.out.lt
  clear s0 s1 s2 s3 s4 s5 s6 s7 s8 s9 s10 s11 s12 s13 s14 s15 s16
  obtain ⟨s0, s1, s2, s3, s4, s5, s6, s7, s8, s9, s10, s11, s12, s13, s14, s15, s16⟩ := H1.out.facts
  have f3 := H1.out.frozen 3
  have f5 := H1.out.frozen 5
  have f6 := H1.out.frozen 6
  clear hb1 hh HA HM hs
  have hcase : (ah < 0) ∨ (0 ≤ ah ∧ iw < ah) := by omega
  by_cases hn : ni = -1
  · have eh : s.heard ni = s.fi := by simp [Sn.heard, hn]
    rw [eh] at HG
    subst hn
    clear eh hE
    go_wp2_with fail
    refine (HG.out _).mono ?_
    rintro e2 w2 ⟨rfl, rfl⟩
    rcases hcase with hc | ⟨hc, hd⟩
    all_goals
      go_wp2
      go_ret
      exact ⟨rfl, HB.out⟩
  · have eh : s.heard ni = ni := by simp [Sn.heard, hn]
    have hnb : (ni == -1) = false := by simp [hn]
    rw [eh] at HG
    clear eh hE
    go_wp2_with fail
    refine (HG.out _).mono ?_
    rintro e2 w2 ⟨rfl, rfl⟩
    rcases hcase with hc | ⟨hc, hd⟩
    all_goals
      go_wp2
      go_ret
      exact ⟨rfl, HB.out⟩
end Go.Proofs.Ytondbhdlccpklaa
