import Derived.Test.YtknkmamjdmadcaaLSaidM9
import Derived.Test.YtknkmamjdmadcaaUVListM9

/- Stage 14: owned.Value, owned.Fault of any value. -/
namespace Go.Proofs.Ytknkmamjdmadcaa
open Go.RowKit Go.Maps
set_option linter.unusedVariables false
set_option linter.unusedSimpArgs false

/-- a value's five words -/
def wA (x : U.V) : Array Value := #[.int .i64 x.k, .int .u64 x.n, .string x.s, .slice x.a x.l.length x.c, .int .i64 x.e]
theorem val_wA (x : U.V) : x.val = .agg (wA x) := rfl
/-- laid since w -/
def New (w w' : World) (b : Nat) : Prop := w.heap.size ≤ b ∧ b < w'.heap.size
theorem lies_keep {Q Q' : Nat → Prop} {W w : World} {v : U.V} (h : U.LiesIn Q W v) (hs : ∀ b, Q b → w.heap[b]? = W.heap[b]?) (hq : ∀ b, Q b → Q' b) : U.LiesIn Q' w v :=
  h.keep (fun b hb o => World.cell?_of_block (a := ⟨b, o, none⟩) (hs b hb)) hq
theorem row_one {w : World} {b : Nat} {x : U.V} {t : TypeId} {fr : Nat × Nat} (h : w.heap[b]? = some (.cells (wA x) t fr)) : U.Row w b 0 [x] := fun i hi => by
  obtain rfl : i = 0 := by simp at hi; omega
  exact ⟨cellOf h 0 _ rfl, cellOf h 1 _ rfl, cellOf h 2 _ rfl, cellOf h 3 _ rfl, cellOf h 4 _ rfl⟩
theorem put5w_at {w : World} {N : Nat} {t : TypeId} {fr : Nat × Nat} (hk : w.heap[N]? = some (.cells v0 t fr)) (x : U.V) :
    (((((w.setCell ⟨N, 0, none⟩ (.int .i64 x.k)).setCell ⟨N, 1, none⟩ (.int .u64 x.n)).setCell ⟨N, 2, none⟩ (.string x.s)).setCell ⟨N, 3, none⟩ (.slice x.a x.l.length x.c)).setCell ⟨N, 4, none⟩ (.int .i64 x.e)).heap[N]? = some (.cells (wA x) t fr) := set5_at hk _ _ _ _ _
set_option maxRecDepth 100000 in
set_option maxHeartbeats 1000000 in
theorem ownValue (x : U.V) (n₀ : Nat) (w : World) (hn : n₀ ≤ w.heap.size) (hx : U.Lies n₀ w x) :
    Calls Try.prog 51 #[.agg (wA x)] w fun e w' => ∃ y : U.V, e = .returned (.agg (wA y)) ∧ Hid (U.LiesIn (New w w') w' y) ∧ Below w.heap.size w w' := by
  have HL : Hid (∀ V : World, V = ((w.alloc (.cells (wA x) 48)).alloc (.cells v0 48)).alloc (.cells (wA x) 48) → Calls Try.prog 63 #[.slice (some ⟨w.heap.size + 2, 0, none⟩) 1 1] V (U.MadeOf 21 [x] V)) := fun V hV => by
    have hb : Below w.heap.size w V := by rw [hV]; exact bel1 (bel1 (bel1 (Below.refl _ _) (Nat.le_refl _) _) (by simp) _) (by simp; omega) _
    have hl : V.heap[w.heap.size + 2]? = some (.cells (wA x) 48 (0, 0)) := by
      rw [hV]
      have := heap_alloc_last ((w.alloc (.cells (wA x) 48)).alloc (.cells v0 48)) (.cells (wA x) 48)
      rwa [show ((w.alloc (.cells (wA x) 48)).alloc (.cells v0 48)).heap.size = w.heap.size + 2 by simp] at this
    exact U.listed_any [x] (some ⟨w.heap.size + 2, 0, none⟩) 1 V.heap.size V (Nat.le_refl _) (by simp) (by simp) (fun _ => ⟨_, _, rfl, (Array.getElem?_eq_some_iff.1 hl).1, row_one hl⟩) (fun y hy => by rw [List.mem_singleton.1 hy]; exact (hx.keep hb hn).mono (Nat.le_trans hn hb.size))
  clear hx
  unfold wA
  unfold wA at HL
  go_enter Try.func51, Try.ntmps51
  go_wp2_with fail
  refine (HL.out _ rfl).mono ?_
  rintro e w1 ⟨y, rfl, HY, hb⟩
  have hsz : w.heap.size + 3 ≤ w1.heap.size := by have := hb.size; simpa using this
  have hz : w1.heap[w.heap.size + 1]? = some (.cells v0 48 (0, 0)) := (hb.block _ (by simp)).trans (heap_past (heap_last1 w _ _) _)
  have HB : Hid (Below w.heap.size w w1) := belOn (bel1 (bel1 (bel1 (Below.refl _ _) (Nat.le_refl _) _) (by simp) _) (by simp; omega) _) (by simp; omega) hb
  obtain ⟨k, n, s, a, c, e, l, rfl⟩ := U.V.ex y
  obtain ⟨hy1, hy2⟩ := HY.out
  have hl1 : l.length = 1 := by
    have := congrArg (fun t => (U.V.l t).length) hy1
    rw [U.V.t_of, U.T.of, U.T.of] at this
    simpa [U.V.l_of, U.V.ts_length] using this
  obtain ⟨x1, rfl⟩ : ∃ x1, l = [x1] := by
    match l, hl1 with
    | [x1], _ => exact ⟨x1, rfl⟩
  obtain ⟨b, o, rfl, hq, hr⟩ := hy2.row (by simp)
  have hs1 := hy2.sub x1 (by simp)
  have hVs : (((w.alloc (.cells (wA x) 48)).alloc (.cells v0 48)).alloc (.cells (wA x) 48)).heap.size = w.heap.size + 3 := by simp
  have hq' : w.heap.size + 3 ≤ b ∧ b < w1.heap.size := by
    have h1 : (((w.alloc (.cells (wA x) 48)).alloc (.cells v0 48)).alloc (.cells (wA x) 48)).heap.size ≤ b := hq.1
    rw [hVs] at h1
    exact ⟨h1, hq.2⟩
  have HS1 : Hid (U.LiesIn (fun b => w.heap.size + 3 ≤ b ∧ b < w1.heap.size) w1 x1) := hs1.keep (fun _ _ _ => rfl) (fun b hb => by
    have h1 : (((w.alloc (.cells (wA x) 48)).alloc (.cells v0 48)).alloc (.cells (wA x) 48)).heap.size ≤ b := hb.1
    rw [hVs] at h1
    exact ⟨h1, hb.2⟩)
  obtain ⟨r0, r1, r2, r3, r4⟩ := hr 0 (by simp)
  have x0 : w1.cell? ⟨b, o, none⟩ = some (.int .i64 x1.k) := by simpa using r0
  have x2 : w1.cell? ⟨b, o + 1, none⟩ = some (.int .u64 x1.n) := by simpa using r1
  have x3 : w1.cell? ⟨b, o + 2, none⟩ = some (.string x1.s) := by simpa using r2
  have x4 : w1.cell? ⟨b, o + 3, none⟩ = some (.slice x1.a x1.l.length x1.c) := by simpa using r3
  have x5 : w1.cell? ⟨b, o + 4, none⟩ = some (.int .i64 x1.e) := by simpa using r4
  have hbl := hq'.2
  have hcap : 1 ≤ c := by have := hy2.ok.l; simpa using this
  have y0 := cellOf hz 0 (.int .i64 0) rfl
  have y1 := cellOf hz 1 (.int .u64 0) rfl
  have y2 := cellOf hz 2 (.string ⟨#[]⟩) rfl
  have y3 := cellOf hz 3 (.slice none 0 0) rfl
  have y4 := cellOf hz 4 (.int .i64 0) rfl
  have yf : ∀ o, w1.frozen? ⟨w.heap.size + 1, o, none⟩ = false := fun o => by simp [World.frozen?, hz]
  have HZ := hide hz
  clear hz hb HL HY hy1 hy2 hq hr hs1 r0 r1 r2 r3 r4 hVs hl1 hq'
  simp only [U.V.l_of, U.V.k_of, U.V.n_of, U.V.s_of, U.V.a_of, U.V.c_of, U.V.e_of, List.length_singleton]
  have hf3 := run_field3
  go_wp2
  refine bodyPost_ret (v := .agg (wA x1)) (results_cell_row Try.results51 _ _ (w.heap.size + 1) 48 (wA x1) (0, 0) _ rfl (put5w_at HZ.out x1) Try.underlying48 rfl (by kernel_rfl)) rfl ⟨x1, rfl, ?_, bel_setCell (bel_setCell (bel_setCell (bel_setCell (bel_setCell HB.out (by omega) _ _) (by omega) _ _) (by omega) _ _) (by omega) _ _) (by omega) _ _⟩
  refine lies_keep HS1.out (fun q hq => set5_other w1 _ _ _ _ _ (by omega)) (fun q hq => ⟨by omega, ?_⟩)
  have := hq.2
  simpa using this
end Go.Proofs.Ytknkmamjdmadcaa
