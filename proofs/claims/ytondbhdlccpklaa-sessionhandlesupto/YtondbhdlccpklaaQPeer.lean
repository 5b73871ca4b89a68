
/- Stage 13: Peer, State, Fields. -/
import Derived.Test.YtondbhdlccpklaaQWin
namespace Go.Proofs.Ytondbhdlccpklaa
open Go.RowKit Go.Maps
set_option linter.unusedVariables false
set_option linter.unusedSimpArgs false

def Sn.peered (s : Sn) (iw no ow hm : Int) : Sn := { s with peer := true, ni := no, ri := lesser iw 2147483647, ro := ow, rh := hm }
set_option maxRecDepth 100000 in
theorem peer_twice (g : Nat) (s : Sn) (A : Array Value) (w : World) (hS : SB w g s) (hp : s.peer = true) :
    Calls Try.prog 21 #[.pointer (some ⟨g, 0, none⟩), .agg A] w fun e w' => e = .returned (.int .i64 4) ∧ Below w.heap.size w w' := by
  obtain ⟨s0, s1, s2, s3, s4, s5, s6, s7, s8, s9, s10, s11, s12, s13, s14, s15, s16⟩ := hS.facts
  have hl := hS.lt
  rw [hp] at s0
  clear hS hp
  go_enter Try.func21, Try.ntmps21
  go_wp2
  go_ret
  exact ⟨rfl, bel1 (Below.refl _ _) (Nat.le_refl _) _⟩
set_option maxRecDepth 100000 in
theorem peer_no (g : Nat) (s : Sn) (A : Array Value) (ki ni iw no ow hm : Int) (w : World) (hS : SB w g s) (hp : s.peer = false) (hA : PfB A ki ni iw no ow hm) (hf : four ki iw no ow hm = false) :
    Calls Try.prog 21 #[.pointer (some ⟨g, 0, none⟩), .agg A] w fun e w' => e = .returned (.int .i64 1) ∧ Below w.heap.size w w' := by
  obtain ⟨s0, s1, s2, s3, s4, s5, s6, s7, s8, s9, s10, s11, s12, s13, s14, s15, s16⟩ := hS.facts
  have hl := hS.lt
  rw [hp] at s0
  have HM := hide (mayBegin_any A ki ni iw no ow hm hA (w.alloc (.cells A 39)))
  rw [hf] at HM
  have hs := hide hA.1
  clear hS hp hA hf
  go_enter Try.func21, Try.ntmps21
  go_wp2_with (first | (refine wpList_load_row rfl 39 (.tmp 3) rfl w.heap.size rfl 39 A (0, 0) _ (heap_alloc_last w _) Try.underlying39 rfl (pf_info hs.out) ?_) | (go_at_call 36; refine HM.out.mono ?_; rintro e1 w1 ⟨rfl, hb1⟩))
  go_ret
  exact ⟨rfl, belOn (bel1 (Below.refl _ _) (Nat.le_refl _) _) (by simp) hb1⟩
set_option maxRecDepth 100000 in
set_option maxHeartbeats 1000000 in
theorem peer_yes (g : Nat) (s : Sn) (A : Array Value) (ki ni iw no ow hm : Int) (w : World) (hS : SB w g s) (hp : s.peer = false) (hA : PfB A ki ni iw no ow hm) (hf : four ki iw no ow hm = true) :
    Calls Try.prog 21 #[.pointer (some ⟨g, 0, none⟩), .agg A] w fun e w' => e = .returned (.int .i64 0) ∧ SB w' g (s.peered iw no ow hm) ∧ Kp (fun k => k = g) w w' := by
  obtain ⟨s0, s1, s2, s3, s4, s5, s6, s7, s8, s9, s10, s11, s12, s13, s14, s15, s16⟩ := hS.facts
  have hl := hS.lt
  rw [hp] at s0
  have HS := hide hS
  have HM := hide (mayBegin_any A ki ni iw no ow hm hA (w.alloc (.cells A 39)))
  rw [hf] at HM
  obtain ⟨hs', h0, h12, h13, h14, h15, h16⟩ := hA
  have hs := hide hs'
  have HA := hide (And.intro h13 (And.intro h14 (And.intro h15 h16)))
  clear hf hs' h0 h12 h13 h14 h15 h16 hS hp
  go_enter Try.func21, Try.ntmps21
  go_wp2_with (refine wpList_load_row rfl 39 (.tmp 3) rfl w.heap.size rfl 39 A (0, 0) _ (heap_alloc_last w _) Try.underlying39 rfl (pf_info hs.out) ?_)
  refine HM.out.mono ?_
  rintro e1 w1 ⟨rfl, hb1⟩
  have hh : w1.heap[w.heap.size]? = some (.cells A 39 (0, 0)) := (hb1.block _ (by simp)).trans (heap_alloc_last w _)
  have c13 := cellOf hh 13 _ HA.out.1
  have c14 := cellOf hh 14 _ HA.out.2.1
  have c15 := cellOf hh 15 _ HA.out.2.2.1
  have c16 := cellOf hh 16 _ HA.out.2.2.2
  have HB : Hid (Below w.heap.size w w1) := belOn (bel1 (Below.refl _ _) (Nat.le_refl _) _) (by simp) hb1
  have H1 := hide (HS.out.at (HB.out.block g hl))
  have hlt : w.heap.size < w1.heap.size := (Array.getElem?_eq_some_iff.1 hh).1
  have hne : g ≠ w.heap.size := by omega
  have hne2 : w.heap.size ≠ g := by omega
  have hl1 := H1.out.lt
  clear s0 s1 s2 s3 s4 s5 s6 s7 s8 s9 s10 s11 s12 s13 s14 s15 s16
  obtain ⟨s0, s1, s2, s3, s4, s5, s6, s7, s8, s9, s10, s11, s12, s13, s14, s15, s16⟩ := H1.out.facts
  have f0 := H1.out.frozen 0
  have f3 := H1.out.frozen 3
  have f5 := H1.out.frozen 5
  have f6 := H1.out.frozen 6
  have f11 := H1.out.frozen 11
  clear hb1 hh HA HM hs
  go_wp2
  all_goals
    go_ret
    exact ⟨rfl, (((((H1.out.set_peer _).set_ni _).set_ri _).set_ro _).set_rh _).cast (by simp only [Sn.peered, lesser]; congr 1; split <;> first | rfl | omega), kp_self (kp_self (kp_self (kp_self (kp_self (Kp.ofBelow HB.out) _ _) _ _) _ _) _ _) _ _⟩
end Go.Proofs.Ytondbhdlccpklaa
