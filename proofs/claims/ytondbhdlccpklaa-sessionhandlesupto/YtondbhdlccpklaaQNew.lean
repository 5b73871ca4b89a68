
/- Stage 13: New. -/
import Derived.Test.YtondbhdlccpklaaQBegin
namespace Go.Proofs.Ytondbhdlccpklaa
open Go.RowKit Go.Maps
set_option linter.unusedVariables false
set_option linter.unusedSimpArgs false

/-- a session with its four tables -/
structure Ses (w : World) (g : Nat) (s : Sn) (H R : List (Int × Int)) (S C : List (Int × Pd)) : Prop where
  sb : SB w g s
  th : TbI w s.bh H
  tr : TbI w s.br R
  ts : TbP w s.bs S
  tc : TbP w s.bc C
  hr : s.bh ≠ s.br
  hs : s.bh ≠ s.bs
  hc : s.bh ≠ s.bc
  rs : s.br ≠ s.bs
  rc : s.br ≠ s.bc
  sc : s.bs ≠ s.bc
/-- the blocks of a session -/
def inS (g : Nat) (s : Sn) (k : Nat) : Prop := k = g ∨ k = s.bh ∨ k = s.br ∨ k = s.bs ∨ k = s.bc
section
variable {w w' : World} {g : Nat} {s : Sn} {H R : List (Int × Int)} {S C : List (Int × Pd)}
theorem Ses.lt (h : Ses w g s H R S C) {k : Nat} (hk : inS g s k) : k < w.heap.size := by
  rcases hk with rfl | rfl | rfl | rfl | rfl
  · exact h.sb.lt
  · exact h.th.lt
  · exact h.tr.lt
  · exact h.ts.lt
  · exact h.tc.lt
theorem Ses.at (h : Ses w g s H R S C) (hb : ∀ k, inS g s k → w'.heap[k]? = w.heap[k]?) : Ses w' g s H R S C :=
  ⟨h.sb.at (hb _ (.inl rfl)), h.th.at (hb _ (.inr (.inl rfl))), h.tr.at (hb _ (.inr (.inr (.inl rfl)))), h.ts.at (hb _ (.inr (.inr (.inr (.inl rfl))))), h.tc.at (hb _ (.inr (.inr (.inr (.inr rfl))))), h.hr, h.hs, h.hc, h.rs, h.rc, h.sc⟩
theorem Ses.below (h : Ses w g s H R S C) (hb : Below w.heap.size w w') : Ses w' g s H R S C := h.at fun k hk => hb.block k (h.lt hk)
theorem Ses.kp {X : Nat → Prop} (h : Ses w g s H R S C) (hb : Kp X w w') (hx : ∀ k, inS g s k → ¬ X k) : Ses w' g s H R S C := h.at fun k hk => hb.block (h.lt hk) (hx k hk)
/-- the session's own block is turned alone -/
theorem Ses.turn {s' : Sn} (h : Ses w g s H R S C) (hs : SB w' g s') (hm : s'.bh = s.bh ∧ s'.br = s.br ∧ s'.bs = s.bs ∧ s'.bc = s.bc) (hk : Kp (fun k => k = g) w w') : Ses w' g s' H R S C := by
  obtain ⟨e1, e2, e3, e4⟩ := hm
  have n1 := h.th.ne h.sb
  have n2 := h.tr.ne h.sb
  have n3 := h.ts.ne h.sb
  have n4 := h.tc.ne h.sb
  exact ⟨hs, by rw [e1]; exact h.th.at (hk.block h.th.lt n1), by rw [e2]; exact h.tr.at (hk.block h.tr.lt n2), by rw [e3]; exact h.ts.at (hk.block h.ts.lt n3), by rw [e4]; exact h.tc.at (hk.block h.tc.lt n4), by rw [e1, e2]; exact h.hr, by rw [e1, e3]; exact h.hs, by rw [e1, e4]; exact h.hc, by rw [e2, e3]; exact h.rs, by rw [e2, e4]; exact h.rc, by rw [e3, e4]; exact h.sc⟩
end
theorem kpS {g : Nat} {s : Sn} {w w' : World} (h : Kp (fun k => k = g) w w') : Kp (inS g s) w w' := h.mono (fun k hk => .inl hk)

theorem pf_info {A : Array Value} (h : A.size = 128) : (Try.prog.info? 39).map (·.size) = some A.size := by rw [h]; kernel_rfl
def newSn (iw no ow hm : Int) (n : Nat) : Sn := ⟨false, no, ow, 0, iw, 0, 0, 0, hm, 0, no, n, n + 1, n + 2, n + 3⟩
set_option maxRecDepth 100000 in
theorem new_no (A : Array Value) (ki ni iw no ow hm : Int) (hA : PfB A ki ni iw no ow hm) (hf : four ki iw no ow hm = false) (w : World) :
    Calls Try.prog 11 #[.agg A] w fun e w' => e = .returned (.pointer none) ∧ Below w.heap.size w w' := by
  have HM := hide (mayBegin_any A ki ni iw no ow hm hA (w.alloc (.cells A 39)))
  rw [hf] at HM
  have hs := hide hA.1
  clear hA hf
  go_enter Try.func11, Try.ntmps11
  go_wp2_with (first | (refine wpList_load_row rfl 39 (.tmp 1) rfl w.heap.size rfl 39 A (0, 0) _ (heap_alloc_last w _) Try.underlying39 rfl (pf_info hs.out) ?_) | (go_at_call 36; refine HM.out.mono ?_; rintro e1 w1 ⟨rfl, hb1⟩))
  go_ret
  exact ⟨rfl, belOn (bel1 (Below.refl _ _) (Nat.le_refl _) _) (by simp) hb1⟩
theorem ses_new (W : World) (iw no ow hm : Int) : Ses (((((W.alloc (.map #[] 0)).alloc (.map #[] 0)).alloc (.map #[] 0)).alloc (.map #[] 0)).alloc (.cells (newSn iw no ow hm W.heap.size).cells 92)) (W.heap.size + 4) (newSn iw no ow hm W.heap.size) [] [] [] [] := by
  have e1 : (W.alloc (.map #[] 0)).heap.size = W.heap.size + 1 := by simp
  have e2 : ((W.alloc (.map #[] 0)).alloc (.map #[] 0)).heap.size = W.heap.size + 2 := by simp
  have e3 : (((W.alloc (.map #[] 0)).alloc (.map #[] 0)).alloc (.map #[] 0)).heap.size = W.heap.size + 3 := by simp
  have e4 : ((((W.alloc (.map #[] 0)).alloc (.map #[] 0)).alloc (.map #[] 0)).alloc (.map #[] 0)).heap.size = W.heap.size + 4 := by simp
  have m0 := TbI.made W
  have m1 := TbI.made (W.alloc (.map #[] 0))
  have m2 := TbP.made ((W.alloc (.map #[] 0)).alloc (.map #[] 0))
  have m3 := TbP.made (((W.alloc (.map #[] 0)).alloc (.map #[] 0)).alloc (.map #[] 0))
  rw [e1] at m1
  rw [e2] at m2
  rw [e3] at m3
  have up : ∀ (w : World) (o : Obj) (k : Nat), k < w.heap.size → (w.alloc o).heap[k]? = w.heap[k]? := fun w o k hk => Below.heap_alloc _ _ _ hk
  refine ⟨?_, ?_, ?_, ?_, ?_, ?_, ?_, ?_, ?_, ?_, ?_⟩ <;> simp only [newSn]
  · have := heap_alloc_last ((((W.alloc (.map #[] 0)).alloc (.map #[] 0)).alloc (.map #[] 0)).alloc (.map #[] 0)) (.cells (newSn iw no ow hm W.heap.size).cells 92)
    rw [e4] at this
    exact this
  · exact (((m0.at (up _ _ _ (by omega))).at (up _ _ _ (by omega))).at (up _ _ _ (by omega))).at (up _ _ _ (by omega))
  · exact ((m1.at (up _ _ _ (by omega))).at (up _ _ _ (by omega))).at (up _ _ _ (by omega))
  · exact (m2.at (up _ _ _ (by omega))).at (up _ _ _ (by omega))
  · exact m3.at (up _ _ _ (by omega))
  all_goals omega
set_option maxRecDepth 100000 in
set_option maxHeartbeats 1000000 in
theorem new_yes (A : Array Value) (ki ni iw no ow hm : Int) (hA : PfB A ki ni iw no ow hm) (hf : four ki iw no ow hm = true) (w : World) :
    Calls Try.prog 11 #[.agg A] w fun e w' => ∃ n, e = .returned (.pointer (some ⟨n + 4, 0, none⟩)) ∧ w.heap.size ≤ n ∧ Ses w' (n + 4) (newSn iw no ow hm n) [] [] [] [] ∧ Below w.heap.size w w' := by
  have HM := hide (mayBegin_any A ki ni iw no ow hm hA (w.alloc (.cells A 39)))
  rw [hf] at HM
  obtain ⟨hs', h0, h12, h13, h14, h15, h16⟩ := hA
  have hs := hide hs'
  have HA := hide (And.intro h13 (And.intro h14 (And.intro h15 h16)))
  clear hf hs' h0 h12 h13 h14 h15 h16
  have hmm := @run_makeMap Try.prog
  go_enter Try.func11, Try.ntmps11
  go_wp2_with (refine wpList_load_row rfl 39 (.tmp 1) rfl w.heap.size rfl 39 A (0, 0) _ (heap_alloc_last w _) Try.underlying39 rfl (pf_info hs.out) ?_)
  refine HM.out.mono ?_
  rintro e1 w1 ⟨rfl, hb1⟩
  have hh : w1.heap[w.heap.size]? = some (.cells A 39 (0, 0)) := (hb1.block _ (by simp)).trans (heap_alloc_last w _)
  have c13 := cellOf hh 13 _ HA.out.1
  have c14 := cellOf hh 14 _ HA.out.2.1
  have c15 := cellOf hh 15 _ HA.out.2.2.1
  have c16 := cellOf hh 16 _ HA.out.2.2.2
  have HB : Hid (Below w.heap.size w w1) := belOn (bel1 (Below.refl _ _) (Nat.le_refl _) _) (by simp) hb1
  have hlt : w.heap.size < w1.heap.size := (Array.getElem?_eq_some_iff.1 hh).1
  clear hb1 hh HA HM hs
  go_wp2
  go_ret
  exact ⟨w1.heap.size, rfl, HB.out.size, ses_new w1 iw no ow hm, bel1 (bel1 (bel1 (bel1 (bel1 HB.out HB.out.size _) (by simp; omega) _) (by simp; omega) _) (by simp; omega) _) (by simp; omega) _⟩
end Go.Proofs.Ytondbhdlccpklaa
