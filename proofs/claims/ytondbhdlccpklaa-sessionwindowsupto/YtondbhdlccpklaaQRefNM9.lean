import Derived.Test.YtondbhdlccpklaaQRefM9

/- Stage 13: the document's New, State. -/
namespace Go.Proofs.Ytondbhdlccpklaa
open Go.RowKit Go.Maps
set_option linter.unusedVariables false
set_option linter.unusedSimpArgs false

def nilS : Value := .slice none 0 0
set_option maxRecDepth 100000 in
theorem rnew_no (A : Array Value) (ki ni iw no ow hm : Int) (hA : PfB A ki ni iw no ow hm) (hf : four ki iw no ow hm = false) (w : World) :
    Calls Try.prog 12 #[.agg A] w fun e w' => e = .returned (.pointer none) ∧ Below w.heap.size w w' := by
  have HM := hide (rfour_any A ki ni iw no ow hm hA (w.alloc (.cells A 39)))
  rw [hf] at HM
  have hs := hide hA.1
  clear hA hf
  go_enter Try.func12, Try.ntmps12
  go_wp2_with (first | (refine wpList_load_row rfl 39 (.tmp 1) rfl w.heap.size rfl 39 A (0, 0) _ (heap_alloc_last w _) Try.underlying39 rfl (pf_info hs.out) ?_) | (go_at_call 37; refine HM.out.mono ?_; rintro e1 w1 ⟨rfl, rfl⟩))
  go_ret
  exact ⟨rfl, bel1 (bel1 (Below.refl _ _) (Nat.le_refl _) _) (by simp) _⟩
set_option maxRecDepth 100000 in
set_option maxHeartbeats 1000000 in
theorem rnew_yes (A : Array Value) (ki ni iw no ow hm : Int) (hA : PfB A ki ni iw no ow hm) (hf : four ki iw no ow hm = true) (w : World) :
    Calls Try.prog 12 #[.agg A] w fun e w' => ∃ g, e = .returned (.pointer (some ⟨g, 0, none⟩)) ∧ w.heap.size ≤ g ∧ RB w' g (newSn iw no ow hm 0) nilS nilS nilS nilS ∧ Below w.heap.size w w' := by
  obtain ⟨V, hV⟩ : ∃ V, (w.alloc (.cells A 39)).alloc (.cells A 39) = V := ⟨_, rfl⟩
  have HM := hide (rfour_any A ki ni iw no ow hm hA (w.alloc (.cells A 39)))
  rw [hf, hV] at HM
  have HB : Hid (Below w.heap.size w V) := hV ▸ bel1 (bel1 (Below.refl _ _) (Nat.le_refl _) _) (by simp) _
  have HN : V.heap[w.heap.size]? = some (.cells A 39 (0, 0)) := hV ▸ heap_past (heap_alloc_last w _) _
  have c13 := cellOf HN 13 _ hA.2.2.2.1
  have c14 := cellOf HN 14 _ hA.2.2.2.2.1
  have c15 := cellOf HN 15 _ hA.2.2.2.2.2.1
  have c16 := cellOf HN 16 _ hA.2.2.2.2.2.2
  have hlt : w.heap.size < V.heap.size := (Array.getElem?_eq_some_iff.1 HN).1
  have hne : w.heap.size ≠ V.heap.size := by omega
  have hs := hide hA.1
  clear hA hf hV HN
  go_enter Try.func12, Try.ntmps12
  go_wp2_with (first | (refine wpList_load_row rfl 39 (.tmp 1) rfl w.heap.size rfl 39 A (0, 0) _ (heap_alloc_last w _) Try.underlying39 rfl (pf_info hs.out) ?_) | (go_at_call 37; refine HM.out.mono ?_; rintro e1 w1 ⟨rfl, rfl⟩))
  go_ret
  exact ⟨_, rfl, HB.out.size, heap_alloc_last _ _, bel1 HB.out HB.out.size _⟩
set_option maxRecDepth 100000 in
set_option maxHeartbeats 2000000 in
theorem rstate_any (g : Nat) (s : Sn) (vh vr : Value) (a b : Option Addr) (nS nA cS cA : Nat) (w : World) (hS : RB w g s vh vr (.slice a nS cS) (.slice b nA cA)) :
    Calls Try.prog 38 #[.pointer (some ⟨g, 0, none⟩)] w fun e w' => e = .returned (.agg (s.st nS nA)) ∧ Below w.heap.size w w' := by
  obtain ⟨s0, s1, s2, s3, s4, s5, s6, s7, s8, s9, s10, s11, s12, s13, s14, s15, s16⟩ := hS.facts
  have hl := hS.lt
  clear hS
  go_enter Try.func38, Try.ntmps38
  go_wp2
  exact bodyPost_ret (v := .agg (s.st nS nA)) (results_cell_row Try.results38 _ _ w.heap.size 66 (s.st nS nA) (0, 0) _ rfl (heap_past (heap_alloc_last w _) _) Try.underlying66 rfl (by kernel_rfl)) rfl ⟨rfl, bel1 (bel1 (Below.refl _ _) (Nat.le_refl _) _) (by simp) _⟩
end Go.Proofs.Ytondbhdlccpklaa
