import Derived.Test.YtondbhdlccpklaaQFldM9

/- Stage 13: begin. -/
namespace Go.Proofs.Ytondbhdlccpklaa
open Go.RowKit Go.Maps
set_option linter.unusedVariables false
set_option linter.unusedSimpArgs false

/-- a step -/
structure Opd where
  k : Int
  a : Int
  b : Int
  c : Int
  d : Int
  e : Int
  t : ByteArray
  f : Bool
def Opd.cells (o : Opd) : Array Value := #[.int .i64 o.k, .int .i64 o.a, .int .i64 o.b, .int .i64 o.c, .int .i64 o.d, .int .i64 o.e, .string o.t, .bool o.f]
def Opd.bk (o : Opd) : Int := if o.e = 0 then 17 else o.e
def Opd.begin (o : Opd) : Array Value := pfA o.bk o.e 0 o.b o.a o.c o.d 0 0 0 0 false
theorem pfI (ki re ni iw no ow hm hd co cr av : Int) (dr : Bool) : (Try.prog.info? 39).map (·.size) = some (pfA ki re ni iw no ow hm hd co cr av dr).size := by kernel_rfl
theorem pfZ (ki re ni iw no ow hm hd co cr av : Int) (dr : Bool) : Try.zeroCells39.size = (pfA ki re ni iw no ow hm hd co cr av dr).size := by kernel_rfl
theorem heap_b1 (w : World) (o p : Obj) : ((w.alloc o).alloc p).heap[w.heap.size + 1]? = some p := by
  have := heap_alloc_last (w.alloc o) p
  rwa [World.size_alloc] at this
theorem heap_b2 (w : World) (o p q : Obj) : (((w.alloc o).alloc p).alloc q).heap[w.heap.size + 1 + 1]? = some q := by
  have := heap_alloc_last ((w.alloc o).alloc p) q
  rwa [World.size_alloc, World.size_alloc] at this
theorem heap_b12 (w : World) (o p q : Obj) : (((w.alloc o).alloc p).alloc q).heap[w.heap.size + 1]? = some p := heap_past (heap_b1 w o p) q
theorem setRow_b2 (w : World) (o p : Obj) (c c' : Array Value) (t : TypeId) : (((w.alloc o).alloc p).alloc (.cells c t)).setRow (w.heap.size + 1 + 1) c' = ((w.alloc o).alloc p).alloc (.cells c' t) := by
  have := World.setRow_alloc_new ((w.alloc o).alloc p) c c' t
  rwa [World.size_alloc, World.size_alloc] at this
theorem setRow_under {w : World} {g : Nat} (hg : g < w.heap.size) (c : Array Value) (o : Obj) : (w.alloc o).setRow g c = (w.setRow g c).alloc o := by
  simp only [World.setRow, World.alloc]
  congr 1
  apply Array.ext_getElem?
  intro i
  rw [Array.getElem?_modify, Array.getElem?_push, Array.getElem?_push, Array.getElem?_modify, Array.size_modify]
  by_cases h : g = i
  · subst h
    simp [Nat.ne_of_lt hg]
  · simp [h]
theorem setRow_b1 (w : World) (o q : Obj) (c c' : Array Value) (t : TypeId) : (((w.alloc o).alloc (.cells c t)).alloc q).setRow (w.heap.size + 1) c' = ((w.alloc o).alloc (.cells c' t)).alloc q := by
  rw [setRow_under (by simp)]
  congr 1
  have := World.setRow_alloc_new (w.alloc o) c c' t
  rwa [World.size_alloc] at this
theorem bel3 (w : World) (o p q : Obj) : Below w.heap.size w (((w.alloc o).alloc p).alloc q) := bel1 (bel1 (bel1 (Below.refl _ _) (Nat.le_refl _) o) (by simp) p) (by simp; omega) q
set_option maxRecDepth 100000 in
set_option maxHeartbeats 4000000 in
theorem begin_any (o : Opd) (w : World) : Calls Try.prog 10 #[.agg o.cells] w fun e w' => e = .returned (.agg o.begin) ∧ Below w.heap.size w w' := by
  unfold Opd.cells Opd.begin Opd.bk
  obtain ⟨k, a, b, c, d, e, t, f⟩ := o
  dsimp only
  by_cases he : e = 0
  · subst he
    rw [if_pos rfl]
    obtain ⟨V, hV⟩ : ∃ V, ((w.alloc (.cells #[.int .i64 k, .int .i64 a, .int .i64 b, .int .i64 c, .int .i64 d, .int .i64 0, .string t, .bool f] 24)).alloc (.cells Try.zeroCells39 39)).alloc (.cells (pfA 17 0 0 b a c d 0 0 0 0 false) 39) = V := ⟨_, rfl⟩
    have HV := hide hV
    have v5 : V.cell? ⟨w.heap.size, 5, none⟩ = some (.int .i64 0) := by
      rw [← hV]
      exact cellOf (heap_past (heap_past (heap_alloc_last w _) _) _) 5 _ rfl
    have hsz : w.heap.size + 1 + 1 < V.heap.size := by rw [← hV]; simp
    have hsz1 : w.heap.size + 1 < V.heap.size := by omega
    have hsz0 : w.heap.size < V.heap.size := by omega
    have HN2 : Hid (V.heap[w.heap.size + 1 + 1]? = some (.cells (pfA 17 0 0 b a c d 0 0 0 0 false) 39 (0, 0))) := hV ▸ heap_b2 w _ _ _
    have HN1 : Hid (V.heap[w.heap.size + 1]? = some (.cells Try.zeroCells39 39 (0, 0))) := hV ▸ heap_b12 w _ _ _
    have HB : Hid (Below w.heap.size w V) := hV ▸ bel3 w _ _ _
    clear hV
    go_enter Try.func10, Try.ntmps10
    go_wp2_with (first | (refine wpList_buildTo rfl 39 _ rfl (some 14) rfl (pfA 17 0 0 b a c d 0 0 0 0 false) (by kernel_rfl) ?_) | (refine wpList_store_row rfl 39 (.tmp 3) (.tmp 14) rfl (w.heap.size + 1 + 1) (pfA 17 0 0 b a c d 0 0 0 0 false) rfl rfl 39 _ (heap_b2 w _ _ _) (pfI ..) (pfZ ..) (pfA_one ..) ?_; rw [setRow_b2, HV.out]) | (refine wpList_load_row rfl 39 (.tmp 3) rfl (w.heap.size + 1 + 1) rfl 39 (pfA 17 0 0 b a c d 0 0 0 0 false) (0, 0) _ HN2.out Try.underlying39 rfl (pfI ..) ?_) | (refine wpList_store_row rfl 39 (.tmp 2) (.tmp 21) rfl (w.heap.size + 1) (pfA 17 0 0 b a c d 0 0 0 0 false) rfl rfl 39 _ HN1.out (pfI ..) (pfZ ..) (pfA_one ..) ?_))
    exact bodyPost_ret (v := .agg (pfA 17 0 0 b a c d 0 0 0 0 false)) (results_cell_row Try.results10 _ _ (w.heap.size + 1) 39 _ (0, 0) _ rfl (setRow_same HN1.out _) Try.underlying39 rfl (pfI ..)) rfl ⟨rfl, bel_setRow HB.out (by omega) _⟩
  · rw [if_neg he]
    have heb : (e == 0) = false := by simp [he]
    clear he
    obtain ⟨V, hV⟩ : ∃ V, ((w.alloc (.cells #[.int .i64 k, .int .i64 a, .int .i64 b, .int .i64 c, .int .i64 d, .int .i64 e, .string t, .bool f] 24)).alloc (.cells Try.zeroCells39 39)).alloc (.cells (pfA 17 e 0 b a c d 0 0 0 0 false) 39) = V := ⟨_, rfl⟩
    have HV := hide hV
    have v5 : V.cell? ⟨w.heap.size, 5, none⟩ = some (.int .i64 e) := by
      rw [← hV]
      exact cellOf (heap_past (heap_past (heap_alloc_last w _) _) _) 5 _ rfl
    have hsz : w.heap.size + 1 + 1 < V.heap.size := by rw [← hV]; simp
    have hsz1 : w.heap.size + 1 < V.heap.size := by omega
    have hsz0 : w.heap.size < V.heap.size := by omega
    have HN2 : Hid (V.heap[w.heap.size + 1 + 1]? = some (.cells (pfA 17 e 0 b a c d 0 0 0 0 false) 39 (0, 0))) := hV ▸ heap_b2 w _ _ _
    have HN1 : Hid (V.heap[w.heap.size + 1]? = some (.cells Try.zeroCells39 39 (0, 0))) := hV ▸ heap_b12 w _ _ _
    have HB : Hid (Below w.heap.size w V) := hV ▸ bel3 w _ _ _
    clear hV
    obtain ⟨V2, hV2⟩ : ∃ V2, V.setCell ⟨w.heap.size + 1 + 1, 0, none⟩ (.int .i64 e) = V2 := ⟨_, rfl⟩
    have HV2 := hide hV2
    have c0 : V.cell? ⟨w.heap.size + 1 + 1, 0, none⟩ = some (.int .i64 17) := cellOf HN2.out 0 _ (by kernel_rfl)
    have f0 : V.frozen? ⟨w.heap.size + 1 + 1, 0, none⟩ = false := by simp [World.frozen?, HN2.out]
    have HM2 : Hid (V2.heap[w.heap.size + 1 + 1]? = some (.cells (pfA e e 0 b a c d 0 0 0 0 false) 39 (0, 0))) := by
      show _ = _
      rw [← hV2]
      simp only [World.setCell, Array.getElem?_modify, if_pos, HN2.out]
      kernel_rfl
    have HM1 : Hid (V2.heap[w.heap.size + 1]? = some (.cells Try.zeroCells39 39 (0, 0))) := by
      show _ = _
      rw [← hV2, blk_set_other _ _ _ _ (by simp)]
      exact HN1.out
    have HB2 : Hid (Below w.heap.size w V2) := by
      show Below _ _ _
      rw [← hV2]
      exact HB.out.setCell (p := ⟨w.heap.size + 1 + 1, 0, none⟩) (by simp; omega) _
    clear hV2
    go_enter Try.func10, Try.ntmps10
    go_wp2_with (first | (refine wpList_buildTo rfl 39 _ rfl (some 14) rfl (pfA 17 e 0 b a c d 0 0 0 0 false) (by kernel_rfl) ?_) | (refine wpList_store_row rfl 39 (.tmp 3) (.tmp 14) rfl (w.heap.size + 1 + 1) (pfA 17 e 0 b a c d 0 0 0 0 false) rfl rfl 39 _ (heap_b2 w _ _ _) (pfI ..) (pfZ ..) (pfA_one ..) ?_; rw [setRow_b2, HV.out]) | (rw [HV2.out]; refine wpList_load_row rfl 39 (.tmp 3) rfl (w.heap.size + 1 + 1) rfl 39 (pfA e e 0 b a c d 0 0 0 0 false) (0, 0) _ HM2.out Try.underlying39 rfl (pfI ..) ?_) | (refine wpList_store_row rfl 39 (.tmp 2) (.tmp 21) rfl (w.heap.size + 1) (pfA e e 0 b a c d 0 0 0 0 false) rfl rfl 39 _ HM1.out (pfI ..) (pfZ ..) (pfA_one ..) ?_))
    exact bodyPost_ret (v := .agg (pfA e e 0 b a c d 0 0 0 0 false)) (results_cell_row Try.results10 _ _ (w.heap.size + 1) 39 _ (0, 0) _ rfl (setRow_same HM1.out _) Try.underlying39 rfl (pfI ..)) rfl ⟨rfl, bel_setRow HB2.out (by omega) _⟩
end Go.Proofs.Ytondbhdlccpklaa
