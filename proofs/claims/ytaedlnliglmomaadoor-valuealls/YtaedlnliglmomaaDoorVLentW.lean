/- longshoreref02's Lent: its walk. -/
import Derived.Test.YtaedlnliglmomaaDoorVLent
namespace Go.Proofs.YtaedlnliglmomaaDoor
open Go.RowKit
set_option linter.unusedVariables false
set_option linter.unusedSimpArgs false

/-- a list lent -/
def LentRow (l : List V) (N : Nat) (w' : World) : Prop := ∃ l' : List V, V.ts l' = V.ts l ∧ Blk w' N 25 ((l.length + 3) * 5) ∧ Row w' N 0 (l' ++ marks l.length) ∧ ∃ g : Nat → Nat, N < g 0 ∧ g l.length ≤ w'.heap.size ∧ ∀ i (h : i < l'.length), Lent w' l'[i] (g i) (g (i + 1))

set_option maxRecDepth 100000 in
set_option maxHeartbeats 1000000 in
theorem lentAll_any (l : List V) (ih : ∀ x ∈ l, LentOk x) (hw : T.wts (V.ts l) ≤ 100000) (a : Option Addr) (c n₀ : Nat) (w : World) (hn : n₀ ≤ w.heap.size) (hc : l.length ≤ c) (hcc : l.length ≤ 2199023255552) (hr : 0 < l.length → ∃ b o, a = some ⟨b, o, none⟩ ∧ b < n₀ ∧ Row w b o l) (ls : ∀ x ∈ l, Lies n₀ w x) :
    Calls Tryd.prog 26 #[.slice a l.length c] w fun e w' => e = .returned (.slice (some ⟨w.heap.size, 0, none⟩) l.length (l.length + 3)) ∧ Hid (LentRow l w.heap.size w') ∧ Below w.heap.size w w' := by
  have hmk := run_makeV (l.length + 3) (l.length + 3) (Nat.le_refl _) (by omega)
  rw [show ((l.length + 3 : Nat) : Int) = (l.length : Int) + 3 by omega] at hmk
  have LR := hide hr
  have LS := hide ls
  have IH := hide ih
  clear hr ls ih
  go_enter Tryd.func26, Tryd.ntmps26
  go_wp2
  obtain ⟨W0, hW0⟩ : ∃ W0, w.alloc (Obj.cells (madeCells zeroV ((l.length + 3) * 5)) 25) = W0 := ⟨_, rfl⟩
  have hs0 : W0.heap.size = w.heap.size + 1 := by rw [← hW0]; simp
  have hb0 : Below w.heap.size w W0 := by rw [← hW0]; exact bel1 (Below.refl _ _) (Nat.le_refl _) _
  have HK0 : Hid (LentSoFar l w.heap.size 0 W0) := by
    refine ⟨[], fun _ => w.heap.size + 1, rfl, by rw [← hW0]; exact Blk.made _ _ _ _, fun i hi => by simp at hi, by show _ < w.heap.size + 1; omega, by show w.heap.size + 1 ≤ _; omega, fun i hi => by simp at hi⟩
  rw [hW0]
  clear hW0 hmk
  go_loopw [5] (fun i wr => ∃ (j : Nat), i = .int .i64 j ∧ j ≤ l.length + 3 ∧ Below w.heap.size w wr ∧ w.heap.size < wr.heap.size ∧ Hid (LentSoFar l w.heap.size j wr)) (fun i _ => l.length + 3 - (intOf i).toNat)
  case atStart => exact ⟨0, rfl, Nat.zero_le _, hb0, by omega, HK0⟩
  case round =>
    obtain ⟨j, rfl, hj, hb, hsz, HL⟩ := hrel
    have hbk : Blk wr w.heap.size 25 ((l.length + 3) * 5) := by obtain ⟨_, _, _, h, _⟩ := HL.out; exact h
    have f0 := hbk.free
    by_cases hjl : j < l.length
    · obtain ⟨z0, c0⟩ := hbk.some (j * 5) (by omega)
      obtain ⟨z1, c1⟩ := hbk.some (j * 5 + 1) (by omega)
      obtain ⟨z2, c2⟩ := hbk.some (j * 5 + 2) (by omega)
      obtain ⟨z3, c3⟩ := hbk.some (j * 5 + 3) (by omega)
      obtain ⟨z4, c4⟩ := hbk.some (j * 5 + 4) (by omega)
      have HBK := hide hbk
      clear hbk
      obtain ⟨b, o, rfl, hlt, hr⟩ := LR.out (by omega)
      obtain ⟨x0, x1, x2, x3, x4⟩ := (hr.below hb (by omega)) j hjl
      have hne : b ≠ w.heap.size := by omega
      have HR := hide hr
      clear hr
      have hx := IH.out l[j] (List.getElem_mem hjl) (Nat.le_trans (wt_mem (List.getElem_mem hjl)) hw) n₀ (put5 wr w.heap.size (j * 5) (markAt j))
      rw [V.val_eq, put5_size] at hx
      have HH := hide hx
      clear hx
      have hlt3 : decide ((j : Int) < (l.length : Int) + 3) = true := by simp; omega
      go_wp2_with fail
      rw [put5_mark]
      have hbm : Below w.heap.size w (put5 wr w.heap.size (j * 5) (markAt j)) := put5_below hb (Nat.le_refl _)
      refine Calls.mono (HH.out (by omega) ((LS.out _ (List.getElem_mem hjl)).keep hbm hn)) ?_
      rintro e w1 ⟨y, rfl, HY, hb1⟩
      have hs1 : wr.heap.size ≤ w1.heap.size := by have := hb1.size; rwa [put5_size] at this
      have hk1 : Blk w1 w.heap.size 25 ((l.length + 3) * 5) := (put5_blk HBK.out _ _).below hb1 hsz
      clear c0 c1 c2 c3 c4 f0
      obtain ⟨y0, c0⟩ := hk1.some (j * 5) (by omega)
      obtain ⟨y1, c1⟩ := hk1.some (j * 5 + 1) (by omega)
      obtain ⟨y2, c2⟩ := hk1.some (j * 5 + 2) (by omega)
      obtain ⟨y3, c3⟩ := hk1.some (j * 5 + 3) (by omega)
      obtain ⟨y4, c4⟩ := hk1.some (j * 5 + 4) (by omega)
      have f0 := hk1.free
      have HB1 := hide hb1
      have hbw1 : Below w.heap.size w w1 := hbm.trans (hb1.mono (by omega))
      clear hb1 hk1
      go_wp2
      go_roundw
      case rel =>
        rw [put5_eq]
        exact ⟨j + 1, by go_num, by omega, put5_below hbw1 (Nat.le_refl _), by rw [put5_size]; omega, HL.out.value hjl hsz HB1.out HY.out.1 HY.out.2⟩
      case measure => simp [intOf]; omega
    · by_cases hj3 : j < l.length + 3
      · obtain ⟨z0, c0⟩ := hbk.some (j * 5) (by omega)
        obtain ⟨z1, c1⟩ := hbk.some (j * 5 + 1) (by omega)
        obtain ⟨z2, c2⟩ := hbk.some (j * 5 + 2) (by omega)
        obtain ⟨z3, c3⟩ := hbk.some (j * 5 + 3) (by omega)
        obtain ⟨z4, c4⟩ := hbk.some (j * 5 + 4) (by omega)
        clear hbk
        go_wp2
        go_roundw
        case rel =>
          rw [put5_mark]
          exact ⟨j + 1, by go_num, by omega, put5_below hb (Nat.le_refl _), by rw [put5_size]; omega, HL.out.mark (by omega) hj3⟩
        case measure => simp [intOf]; omega
      · obtain rfl : j = l.length + 3 := by omega
        clear hbk f0
        go_wp2
        go_ret
        refine ⟨rfl, ?_, hb⟩
        obtain ⟨l', g, h1, h2, h3, h4, h5, h6⟩ := HL.out
        have hlen := LentSoFar.lenN h1 (by omega)
        rw [List.take_of_length_le (by omega)] at h1
        rw [show l.length + 3 - l.length = 3 by omega, List.take_of_length_le (by simp [marks])] at h3
        rw [hlen] at h5
        exact ⟨l', h1, h2, h3, g, h4, h5, h6⟩

set_option maxRecDepth 100000 in
set_option maxHeartbeats 1000000 in
theorem lent_any : ∀ x, LentOk x := by
  refine V.ind ?_
  intro k n s a c e l ih hw n₀ w hn hx
  rw [V.t_of, T.wt_of] at hw
  have hlw := len_wts l
  have HF : Hid (∀ w1, Below w.heap.size w w1 → Calls Tryd.prog 26 #[.slice a l.length c] w1 fun e w' => e = .returned (.slice (some ⟨w1.heap.size, 0, none⟩) l.length (l.length + 3)) ∧ Hid (LentRow l w1.heap.size w') ∧ Below w1.heap.size w1 w') := by
    intro w1 hb
    have hx1 := hx.keep hb hn
    have hsz := hb.size
    exact lentAll_any l ih (by omega) a c n₀ w1 (by omega) hx1.ok.l hx1.ok.c hx1.row hx1.sub
  have OK := hide hx.ok
  clear ih hx
  rw [V.val_of]
  go_enter Tryd.func10, Tryd.ntmps10
  go_wp2_with fail
  refine Calls.mono (HF.out _ (bel2 (Below.refl _ _) (Nat.le_refl _) _ _)) ?_
  rintro e' w1 ⟨rfl, HL, hb1⟩
  have hz : w.heap.size + 1 < w1.heap.size := by have := hb1.size; simp at this; omega
  obtain ⟨g1, g2, g3, g4⟩ := box_cells hb1
  have k0 := g1 0
  have k1 := g1 1
  have k2 := g1 2
  have k3 := g1 3
  have k4 := g1 4
  have j0 := g2 0
  have j1 := g2 1
  have j2 := g2 2
  have j3 := g2 3
  have j4 := g2 4
  simp only [List.getElem?_toArray, List.getElem?_cons_zero, List.getElem?_cons_succ] at k0 k1 k2 k3 k4 j0 j1 j2 j3 j4
  have HB1 := hide hb1
  clear hb1 g1 g2
  go_wp2
  have ok := OK.out
  obtain ⟨l', h1, h2, h3, g, h4, h5, h6⟩ := HL.out
  simp only [World.size_alloc] at h2 h3 h4
  have hlen : l'.length = l.length := by simpa [V.ts_length] using congrArg List.length h1
  have hB1 : ∀ (b' : Nat) (o : Obj), b' ≠ w.heap.size → b' ≠ w.heap.size + 1 → w1.heap[b']? = some o → (put5 (w1.setCell ⟨w.heap.size, 3, none⟩ (.slice (some ⟨w.heap.size + 1 + 1, 0, none⟩) l'.length (l'.length + 3))) (w.heap.size + 1) 0 (.of k n s (some ⟨w.heap.size + 1 + 1, 0, none⟩) (l'.length + 3) e l')).heap[b']? = some o := fun b' o n1 n2 q => by
    rw [← put5_eq, Below.heap_setCell _ _ _ _ (by show b' ≠ w.heap.size + 1; omega), Below.heap_setCell _ _ _ _ (by show b' ≠ w.heap.size + 1; omega), Below.heap_setCell _ _ _ _ (by show b' ≠ w.heap.size + 1; omega), Below.heap_setCell _ _ _ _ (by show b' ≠ w.heap.size + 1; omega), Below.heap_setCell _ _ _ _ (by show b' ≠ w.heap.size + 1; omega), Below.heap_setCell _ _ _ _ (by show b' ≠ w.heap.size; omega)]
    exact q
  have hbz : Below w.heap.size w _ := put5_below (y := .of k n s (some ⟨w.heap.size + 1 + 1, 0, none⟩) (l'.length + 3) e l') (o := 0) (b := w.heap.size + 1) ((belOn (bel2 (Below.refl w.heap.size w) (Nat.le_refl _) _ _) (by simp; omega) HB1.out).setCell (p := ⟨w.heap.size, 3, none⟩) (Nat.le_refl _) (.slice (some ⟨w.heap.size + 1 + 1, 0, none⟩) l'.length (l'.length + 3))) (by omega)
  have hsz : (put5 (w1.setCell ⟨w.heap.size, 3, none⟩ (.slice (some ⟨w.heap.size + 1 + 1, 0, none⟩) l'.length (l'.length + 3))) (w.heap.size + 1) 0 (.of k n s (some ⟨w.heap.size + 1 + 1, 0, none⟩) (l'.length + 3) e l')).heap.size = w1.heap.size := by rw [put5_size]; simp [World.setCell]
  have hLent : Lent (put5 (w1.setCell ⟨w.heap.size, 3, none⟩ (.slice (some ⟨w.heap.size + 1 + 1, 0, none⟩) l'.length (l'.length + 3))) (w.heap.size + 1) 0 (.of k n s (some ⟨w.heap.size + 1 + 1, 0, none⟩) (l'.length + 3) e l')) (.of k n s (some ⟨w.heap.size + 1 + 1, 0, none⟩) (l'.length + 3) e l') w.heap.size w1.heap.size := by
    have h0 : Lent w1 (.of k n s (some ⟨w.heap.size + 1 + 1, 0, none⟩) (l'.length + 3) e l') (w.heap.size + 1 + 1) w1.heap.size := by
      refine (Lent.iff _ _ _ _ _ _ _ _ _ _).2 ⟨_, Nat.le_refl _, rfl, rfl, ⟨ok.k, ok.n, ok.s, ok.e, by omega, by omega⟩, by rw [hlen]; exact h2, by rw [hlen]; exact h3, g, h4, by rw [hlen]; exact h5, h6⟩
    exact (h0.keep (fun b o q1 q2 q3 => hB1 b o (by omega) (by omega) q3)).mono (by omega) (Nat.le_refl _)
  rw [← put5_of] at hLent hbz hsz
  rw [hlen] at hLent hbz hsz
  refine bodyPost_ret (v := .agg #[.int .i64 k, .int .u64 n, .string s, .slice (some ⟨w.heap.size + 1 + 1, 0, none⟩) l.length (l.length + 3), .int .i64 e]) (by simp [results, Tryd.results10, go_sem, j0, j1, j2, j3, j4]) rfl ⟨.of k n s (some ⟨w.heap.size + 1 + 1, 0, none⟩) (l.length + 3) e l', by rw [V.l_of, hlen]; rfl, ⟨by rw [V.t_of, V.t_of, h1], ?_⟩, hbz⟩
  rw [hsz]
  exact hLent
end Go.Proofs.YtaedlnliglmomaaDoor
