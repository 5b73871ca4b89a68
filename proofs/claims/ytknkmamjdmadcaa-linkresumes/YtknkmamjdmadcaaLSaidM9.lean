import Derived.Test.YtknkmamjdmadcaaLOwnM9
import Derived.Test.YtknkmamjdmadcaaLFldM9

/- Stage 14: owned.State, said. -/
namespace Go.Proofs.Ytknkmamjdmadcaa
open Go.RowKit Go.Maps
set_option linter.unusedVariables false
set_option linter.unusedSimpArgs false

def stA (k : Int) : Array Value := ⟨stL k⟩
theorem Try.infoSt : (Try.prog.info? 53).map (·.size) = some 19 := by kernel_rfl
def Shut (p : Prop) : Prop := p
theorem Shut.out {p : Prop} (h : Shut p) : p := h
/-- five cells of a value, stored where they stand -/
def put5a (w : World) (N o : Nat) : World := ((((w.setCell ⟨N, o, none⟩ (.int .i64 0)).setCell ⟨N, o + 1, none⟩ (.int .u64 0)).setCell ⟨N, o + 2, none⟩ (.string ⟨#[]⟩)).setCell ⟨N, o + 3, none⟩ (.slice none 0 0)).setCell ⟨N, o + 4, none⟩ (.int .i64 0)
theorem put5a_other (w : World) {N k : Nat} (o : Nat) (h : k ≠ N) : (put5a w N o).heap[k]? = w.heap[k]? := by
  unfold put5a
  rw [blk_set_other _ _ _ _ h, blk_set_other _ _ _ _ h, blk_set_other _ _ _ _ h, blk_set_other _ _ _ _ h, blk_set_other _ _ _ _ h]
theorem put5a_at {w : World} {N : Nat} {k : Int} {t : TypeId} {fr : Nat × Nat} (o : Nat) (ho : o = 5 ∨ o = 12) (hk : w.heap[N]? = some (.cells (stA k) t fr)) : (put5a w N o).heap[N]? = some (.cells (stA k) t fr) := by
  rcases ho with rfl | rfl <;> simp [put5a, World.setCell, Array.getElem?_modify, hk, stA, stL]
theorem put5a_below {B : Nat} {w w' : World} (h : Below B w w') {N : Nat} (hN : B ≤ N) (o : Nat) : Below B w (put5a w' N o) :=
  bel_setCell (bel_setCell (bel_setCell (bel_setCell (bel_setCell h hN _ _) hN _ _) hN _ _) hN _ _) hN _ _
theorem put5a_size (w : World) (N o : Nat) : (put5a w N o).heap.size = w.heap.size := by simp [put5a]
/-- what the walk reads of a state in its block -/
theorem st_facts {w : World} {N : Nat} {k : Int} {t : TypeId} (h : w.heap[N]? = some (.cells (stA k) t (0, 0))) :
    (w.cell? ⟨N, 3, none⟩ = some (.string ⟨#[]⟩) ∧ w.cell? ⟨N, 4, none⟩ = some (.string ⟨#[]⟩) ∧ w.cell? ⟨N, 5, none⟩ = some (.int .i64 0) ∧ w.cell? ⟨N, 6, none⟩ = some (.int .u64 0) ∧ w.cell? ⟨N, 7, none⟩ = some (.string ⟨#[]⟩) ∧ w.cell? ⟨N, 8, none⟩ = some (.slice none 0 0) ∧ w.cell? ⟨N, 9, none⟩ = some (.int .i64 0)) ∧
    (w.cell? ⟨N, 12, none⟩ = some (.int .i64 0) ∧ w.cell? ⟨N, 13, none⟩ = some (.int .u64 0) ∧ w.cell? ⟨N, 14, none⟩ = some (.string ⟨#[]⟩) ∧ w.cell? ⟨N, 15, none⟩ = some (.slice none 0 0) ∧ w.cell? ⟨N, 16, none⟩ = some (.int .i64 0)) ∧ w.cell? ⟨N, 18, none⟩ = some (.slice none 0 0) ∧ N < w.heap.size ∧ ∀ o, w.frozen? ⟨N, o, none⟩ = false :=
  ⟨⟨cellOf h 3 _ rfl, cellOf h 4 _ rfl, cellOf h 5 _ rfl, cellOf h 6 _ rfl, cellOf h 7 _ rfl, cellOf h 8 _ rfl, cellOf h 9 _ rfl⟩, ⟨cellOf h 12 _ rfl, cellOf h 13 _ rfl, cellOf h 14 _ rfl, cellOf h 15 _ rfl, cellOf h 16 _ rfl⟩, cellOf h 18 _ rfl, (Array.getElem?_eq_some_iff.1 h).1, fun o => by simp [World.frozen?, h]⟩
def fl0 : Array Value := #[.string ⟨#[]⟩, .string ⟨#[]⟩, .int .i64 0, .int .u64 0, .string ⟨#[]⟩, .slice none 0 0, .int .i64 0]
def put7a (w : World) (N : Nat) : World := put5a ((w.setCell ⟨N, 3, none⟩ (.string ⟨#[]⟩)).setCell ⟨N, 4, none⟩ (.string ⟨#[]⟩)) N 5
theorem put7a_other (w : World) {N k : Nat} (h : k ≠ N) : (put7a w N).heap[k]? = w.heap[k]? := by
  unfold put7a
  rw [put5a_other _ _ h, blk_set_other _ _ _ _ h, blk_set_other _ _ _ _ h]
theorem put7a_at {w : World} {N : Nat} {k : Int} {t : TypeId} {fr : Nat × Nat} (hk : w.heap[N]? = some (.cells (stA k) t fr)) : (put7a w N).heap[N]? = some (.cells (stA k) t fr) := by
  refine put5a_at 5 (.inl rfl) ?_
  simp [World.setCell, Array.getElem?_modify, hk, stA, stL]
theorem put7a_below {B : Nat} {w w' : World} (h : Below B w w') {N : Nat} (hN : B ≤ N) : Below B w (put7a w' N) := put5a_below (bel_setCell (bel_setCell h hN _ _) hN _ _) hN _
theorem put7a_size (w : World) (N : Nat) : (put7a w N).heap.size = w.heap.size := by unfold put7a; rw [put5a_size]; simp
set_option maxRecDepth 100000 in
set_option maxHeartbeats 1000000 in
theorem fault0 (w : World) :
    Calls Try.prog 50 #[.agg fl0] w fun e w' => e = .returned (.agg fl0) ∧ Below w.heap.size w w' := by
  unfold fl0
  go_enter Try.func50, Try.ntmps50
  go_wp2_with fail
  refine (value0 _).mono ?_
  rintro e w1 ⟨rfl, hb⟩
  have hsz : w.heap.size + 2 ≤ w1.heap.size := by have := hb.size; simpa using this
  have hz : w1.heap[w.heap.size]? = some (.cells fl0 50 (0, 0)) := (hb.block _ (by simp; omega)).trans (heap_past (heap_alloc_last w _) _)
  have hy : w1.heap[w.heap.size + 1]? = some (.cells fl0 50 (0, 0)) := (hb.block _ (by simp)).trans (heap_last1 w _ _)
  have HB : Hid (Below w.heap.size w w1) := belOn (bel1 (bel1 (Below.refl _ _) (Nat.le_refl _) _) (by simp) _) (by simp; omega) hb
  have x2 := cellOf hz 2 (.int .i64 0) rfl
  have x3 := cellOf hz 3 (.int .u64 0) rfl
  have x4 := cellOf hz 4 (.string ⟨#[]⟩) rfl
  have x5 := cellOf hz 5 (.slice none 0 0) rfl
  have x6 := cellOf hz 6 (.int .i64 0) rfl
  have xf : ∀ o, w1.frozen? ⟨w.heap.size, o, none⟩ = false := fun o => by simp [World.frozen?, hz]
  have hl0 : w.heap.size < w1.heap.size := by omega
  obtain ⟨w3, hw3⟩ : ∃ w3, put5a w1 w.heap.size 2 = w3 := ⟨_, rfl⟩
  have H3 : Hid (w3.heap[w.heap.size]? = some (.cells fl0 50 (0, 0))) := by
    rw [← hw3]
    show _ = _
    simp [put5a, World.setCell, Array.getElem?_modify, hz, fl0]
  have H4 : Hid (w3.heap[w.heap.size + 1]? = some (.cells fl0 50 (0, 0))) := by
    rw [← hw3]
    exact (put5a_other w1 2 (by omega)).trans hy
  have HB3 : Hid (Below w.heap.size w w3) := by
    rw [← hw3]
    exact put5a_below HB.out (Nat.le_refl _) 2
  have HW3 : Hid (((((w1.setCell ⟨w.heap.size, 2, none⟩ (.int .i64 0)).setCell ⟨w.heap.size, 3, none⟩ (.int .u64 0)).setCell ⟨w.heap.size, 4, none⟩ (.string ⟨#[]⟩)).setCell ⟨w.heap.size, 5, none⟩ (.slice none 0 0)).setCell ⟨w.heap.size, 6, none⟩ (.int .i64 0) = w3) := hw3
  clear hz hy hb hsz hw3 HB
  unfold v0
  go_wp2_with (rw [HW3.out]; refine Shut.out ?_)
  unfold Shut
  clear HW3 x2 x3 x4 x5 x6 xf hl0
  go_wp2_with (first | (refine wpList_load_row rfl 50 (.tmp 1) rfl w.heap.size rfl 50 fl0 (0, 0) _ H3.out Try.underlying50 rfl (by kernel_rfl) ?_) | (refine wpList_store_row rfl 50 (.tmp 2) (.tmp 7) rfl (w.heap.size + 1) fl0 rfl rfl 50 _ H4.out (by kernel_rfl) rfl (by kernel_rfl) ?_))
  exact bodyPost_ret (v := .agg fl0) (results_cell_row Try.results50 _ _ (w.heap.size + 1) 50 fl0 (0, 0) _ rfl (setRow_same H4.out _) Try.underlying50 rfl (by kernel_rfl)) rfl ⟨rfl, bel_setRow HB3.out (by omega) _⟩
set_option maxRecDepth 100000 in
set_option maxHeartbeats 1000000 in
theorem ownState (k : Int) (w : World) :
    Calls Try.prog 29 #[.agg (stA k)] w fun e w' => e = .returned (.agg (stA k)) ∧ Below w.heap.size w w' := by
  obtain ⟨V, hV⟩ : ∃ V, (w.alloc (.cells (stA k) 53)).alloc (.cells (stA 0) 53) = V := ⟨_, rfl⟩
  have h0 : V.heap[w.heap.size]? = some (.cells (stA k) 53 (0, 0)) := hV ▸ heap_past (heap_alloc_last w _) _
  have h1 : V.heap[w.heap.size + 1]? = some (.cells (stA 0) 53 (0, 0)) := hV ▸ heap_last1 w _ _
  have HB0 : Hid (Below w.heap.size w V) := hV ▸ bel1 (bel1 (Below.refl _ _) (Nat.le_refl _) _) (by simp) _
  obtain ⟨⟨a3, a4, a5, a6, a7, a8, a9⟩, ⟨a12, a13, a14, a15, a16⟩, a18, al, af⟩ := st_facts h0
  have H0 := hide h0
  have H1 := hide h1
  have HV : Hid ((w.alloc (.cells (stA k) 53)).alloc (.cells #[.int .i64 0, .int .i64 0, .int .i64 0, .string ⟨#[]⟩, .string ⟨#[]⟩, .int .i64 0, .int .u64 0, .string ⟨#[]⟩, .slice none 0 0, .int .i64 0, .bool false, .bool false, .int .i64 0, .int .u64 0, .string ⟨#[]⟩, .slice none 0 0, .int .i64 0, .string ⟨#[]⟩, .slice none 0 0] 53) = V) := hV
  clear hV h0 h1
  go_enter Try.func29, Try.ntmps29
  go_wp2_with (first | rw [HV.out] | fail)
  refine (fault0 V).mono ?_
  rintro e1 w1 ⟨rfl, hb1⟩
  have h0 := (hb1.block _ al).trans H0.out
  have HB1 : Hid (Below w.heap.size w w1) := HB0.out.trans (hb1.mono HB0.out.size)
  have h1 := (hb1.block _ (Array.getElem?_eq_some_iff.1 H1.out).1).trans H1.out
  clear H0 H1 HB0 a3 a4 a5 a6 a7 a8 a9 a12 a13 a14 a15 a16 a18 al af hb1 HV
  obtain ⟨⟨a3, a4, a5, a6, a7, a8, a9⟩, ⟨a12, a13, a14, a15, a16⟩, a18, al, af⟩ := st_facts h0
  have H0 := hide h0
  have H1 := hide h1
  clear h0 h1
  unfold fl0
  go_wp2_with fail
  refine (value0 (put7a w1 w.heap.size)).mono ?_
  rintro e2 w2 ⟨rfl, hb2⟩
  have h0 := (hb2.block _ (by rw [put7a_size]; exact al)).trans (put7a_at H0.out)
  have hs1 : w.heap.size + 1 < w1.heap.size := (Array.getElem?_eq_some_iff.1 H1.out).1
  have HB2 : Hid (Below w.heap.size w w2) := (put7a_below HB1.out (Nat.le_refl _)).trans (hb2.mono (by rw [put7a_size]; omega))
  have h1 := ((hb2.block _ (by rw [put7a_size]; omega)).trans (put7a_other w1 (by omega))).trans H1.out
  clear H0 H1 HB1 a3 a4 a5 a6 a7 a8 a9 a12 a13 a14 a15 a16 a18 al af hb2 hs1
  obtain ⟨⟨a3, a4, a5, a6, a7, a8, a9⟩, ⟨a12, a13, a14, a15, a16⟩, a18, al, af⟩ := st_facts h0
  obtain ⟨w3, hw3⟩ : ∃ w3, (put5a w2 w.heap.size 12).setCell ⟨w.heap.size, 18, none⟩ (.slice none 0 0) = w3 := ⟨_, rfl⟩
  have H3 : Hid (w3.heap[w.heap.size]? = some (.cells (stA k) 53 (0, 0))) := by
    have := put5a_at 12 (.inr rfl) h0
    rw [← hw3]
    show _ = _
    simp [World.setCell, Array.getElem?_modify, this, stA, stL]
  have H4 : Hid (w3.heap[w.heap.size + 1]? = some (.cells (stA 0) 53 (0, 0))) := by
    rw [← hw3]
    exact (blk_set_other _ _ _ _ (by simp)).trans ((put5a_other w2 12 (by omega)).trans h1)
  have HB3 : Hid (Below w.heap.size w w3) := by
    rw [← hw3]
    exact bel_setCell (put5a_below HB2.out (Nat.le_refl _) 12) (Nat.le_refl _) _ _
  have HW3 : Hid ((((((w2.setCell ⟨w.heap.size, 12, none⟩ (.int .i64 0)).setCell ⟨w.heap.size, 13, none⟩ (.int .u64 0)).setCell ⟨w.heap.size, 14, none⟩ (.string ⟨#[]⟩)).setCell ⟨w.heap.size, 15, none⟩ (.slice none 0 0)).setCell ⟨w.heap.size, 16, none⟩ (.int .i64 0)).setCell ⟨w.heap.size, 18, none⟩ (.slice none 0 0) = w3) := hw3
  clear h0 h1 hw3
  unfold v0
  go_wp2_with (first | (go_at_call 52; refine (states_none _ _ _).mono ?_; rintro e3 w3' ⟨rfl, rfl⟩) | (rw [HW3.out]; refine Shut.out ?_))
  unfold Shut
  clear HW3 a3 a4 a5 a6 a7 a8 a9 a12 a13 a14 a15 a16 a18 al af HB2
  go_wp2_with (first | (refine wpList_load_row rfl 53 (.tmp 1) rfl w.heap.size rfl 53 (stA k) (0, 0) _ H3.out Try.underlying53 rfl Try.infoSt ?_) | (refine wpList_store_row rfl 53 (.tmp 2) (.tmp 15) rfl (w.heap.size + 1) (stA k) rfl rfl 53 _ H4.out Try.infoSt rfl (by kernel_rfl) ?_))
  exact bodyPost_ret (v := .agg (stA k)) (results_cell_row Try.results29 _ _ (w.heap.size + 1) 53 (stA k) (0, 0) _ rfl (setRow_same H4.out _) Try.underlying53 rfl Try.infoSt) rfl ⟨rfl, bel_setRow HB3.out (by omega) _⟩
end Go.Proofs.Ytknkmamjdmadcaa
