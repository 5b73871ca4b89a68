import Derived.Test.YtondbhdlccpklaaQWnd2M9

/- Stage 13: the law's step: Deliver, Arrive, Forget, Handle, Free, Remote, Local. -/
namespace Go.Proofs.Ytondbhdlccpklaa
open Go.RowKit Go.Maps
set_option linter.unusedVariables false
set_option linter.unusedSimpArgs false

section
variable {w : World} {g g' : Nat} {B : Nat → Prop}
set_option maxRecDepth 100000 in
set_option maxHeartbeats 4000000 in
theorem step_handle (bk : Value) (o : Opd) (h : Std w g g' B) (hk : o.k = 12) :
    Calls Try.prog 18 #[bk, .pointer (some ⟨g, 0, none⟩), .pointer (some ⟨g', 0, none⟩), .agg o.cells] w fun e w' => e = .returned (.bool true) ∧ StdOn w g g' B w' := by
  unfold Opd.cells
  obtain ⟨k, a, b, c, d, e, t, f⟩ := o
  dsimp only at *
  subst hk
  obtain ⟨V, hV⟩ : ∃ V, w.alloc (.cells #[.int .i64 12, .int .i64 a, .int .i64 b, .int .i64 c, .int .i64 d, .int .i64 e, .string t, .bool f] 24) = V := ⟨_, rfl⟩
  have HB : Hid (Below w.heap.size w V) := hV ▸ bel1 (Below.refl _ _) (Nat.le_refl _) _
  have HV := hide hV
  have hlt : w.heap.size < V.heap.size := by rw [← hV]; show w.heap.size < (w.alloc _).heap.size; simp
  have hnB : Hid (¬ B w.heap.size) := fun e => by have := h.out e; omega
  obtain ⟨v, ⟨i, j, rfl⟩, M, hP, hQ⟩ := handle_both (h.below HB.out)
  have HP : Hid (Calls Try.prog 27 #[.pointer (some ⟨g, 0, none⟩)] V fun e w1 => e = .returned (.tuple #[.int .i64 i, .int .i64 j]) ∧ Hid (M w1) ∧ (True)) := hP.mono fun e w1 h => ⟨h.1, h.2.1, by have H := h.2.2; exact trivial⟩
  have HQ : Hid (∀ w1, Hid (M w1) → Calls Try.prog 44 #[.pointer (some ⟨g', 0, none⟩)] w1 fun e w2 => e = .returned (.tuple #[.int .i64 i, .int .i64 j]) ∧ Hid (StdOn V g g' B w2) ∧ (True)) := fun w1 hM => (hQ w1 hM.out).mono fun e w2 h => ⟨h.1, h.2, by
    obtain ⟨B', _, H, _⟩ := h.2
    exact trivial⟩
  have hszs := hlt
  clear hP hQ hV h hnB hlt
  go_enter Try.func18, Try.ntmps18
  go_wp2_with fail
  rw [HV.out]
  refine HP.out.mono ?_
  rintro e1 w1 ⟨rfl, hM, hs1⟩
  go_wp2_with fail
  refine (HQ.out w1 hM).mono ?_
  rintro e2 w2 ⟨rfl, hS, hs2⟩
  clear hs2
  go_wp2
  go_ret
  exact ⟨rfl, StdOn.from HB.out hS.out⟩
set_option maxRecDepth 100000 in
set_option maxHeartbeats 4000000 in
theorem step_free (bk : Value) (o : Opd) (h : Std w g g' B) (hk : o.k = 13) (ha : wf64 o.a) :
    Calls Try.prog 18 #[bk, .pointer (some ⟨g, 0, none⟩), .pointer (some ⟨g', 0, none⟩), .agg o.cells] w fun e w' => e = .returned (.bool true) ∧ StdOn w g g' B w' := by
  unfold Opd.cells
  obtain ⟨k, a, b, c, d, e, t, f⟩ := o
  dsimp only at *
  subst hk
  obtain ⟨V, hV⟩ : ∃ V, (w.alloc (.cells #[.int .i64 13, .int .i64 a, .int .i64 b, .int .i64 c, .int .i64 d, .int .i64 e, .string t, .bool f] 24)).drew = V := ⟨_, rfl⟩
  have HB : Hid (Below w.heap.size w V) := hV ▸ (bel1 (Below.refl _ _) (Nat.le_refl _) _).trans ((bel_drew _).mono (by simp))
  have HV := hide hV
  have hlt : w.heap.size < V.heap.size := by rw [← hV]; show w.heap.size < (w.alloc _).heap.size; simp
  have hnB : Hid (¬ B w.heap.size) := fun e => by have := h.out e; omega
  have ca : V.cell? ⟨w.heap.size, 1, none⟩ = some (.int .i64 a) := by rw [← hV]; exact cellOf (heap_alloc_last w _) 1 _ rfl
  obtain ⟨v, ⟨i, rfl⟩, M, hP, hQ⟩ := free_both a ha (h.below HB.out)
  have HP : Hid (Calls Try.prog 32 #[.pointer (some ⟨g, 0, none⟩), .int .i64 a] V fun e w1 => e = .returned (.int .i64 i) ∧ Hid (M w1) ∧ (w1.cell? ⟨w.heap.size, 1, none⟩ = some (.int .i64 a))) := hP.mono fun e w1 h => ⟨h.1, h.2.1, by have H := h.2.2; exact (H.cell hlt hnB.out).trans ca⟩
  have HQ : Hid (∀ w1, Hid (M w1) → Calls Try.prog 45 #[.pointer (some ⟨g', 0, none⟩), .int .i64 a] w1 fun e w2 => e = .returned (.int .i64 i) ∧ Hid (StdOn V g g' B w2) ∧ (w2.cell? ⟨w.heap.size, 1, none⟩ = some (.int .i64 a))) := fun w1 hM => (hQ w1 hM.out).mono fun e w2 h => ⟨h.1, h.2, by
    obtain ⟨B', _, H, _⟩ := h.2
    exact (H.cell hlt hnB.out).trans ca⟩
  have hszs := hlt
  clear hP hQ hV h hnB hlt ca
  go_enter Try.func18, Try.ntmps18
  go_wp2
  go_region_held (fun W => W.cell? ⟨w.heap.size, 1, none⟩ = some (.int .i64 a)) (first | assumption | go_keep) (first | (go_at_call 32; rw [HV.out]; refine Calls.mono HP.out ?_; rintro e1 w1 ⟨rfl, hM, hs1⟩) | (go_at_call 45; refine Calls.mono (HQ.out _ hM) ?_; rintro e2 w2 ⟨rfl, hS, hs2⟩))
  go_wp2
  go_ret
  exact ⟨rfl, StdOn.from HB.out hS.out⟩
set_option maxRecDepth 100000 in
set_option maxHeartbeats 4000000 in
theorem step_remote (bk : Value) (o : Opd) (h : Std w g g' B) (hk : o.k = 14) (ha : wf64 o.a) (hb : wf64 o.b) :
    Calls Try.prog 18 #[bk, .pointer (some ⟨g, 0, none⟩), .pointer (some ⟨g', 0, none⟩), .agg o.cells] w fun e w' => e = .returned (.bool true) ∧ StdOn w g g' B w' := by
  unfold Opd.cells
  obtain ⟨k, a, b, c, d, e, t, f⟩ := o
  dsimp only at *
  subst hk
  obtain ⟨V, hV⟩ : ∃ V, (w.alloc (.cells #[.int .i64 14, .int .i64 a, .int .i64 b, .int .i64 c, .int .i64 d, .int .i64 e, .string t, .bool f] 24)).drew = V := ⟨_, rfl⟩
  have HB : Hid (Below w.heap.size w V) := hV ▸ (bel1 (Below.refl _ _) (Nat.le_refl _) _).trans ((bel_drew _).mono (by simp))
  have HV := hide hV
  have hlt : w.heap.size < V.heap.size := by rw [← hV]; show w.heap.size < (w.alloc _).heap.size; simp
  have hnB : Hid (¬ B w.heap.size) := fun e => by have := h.out e; omega
  have ca : V.cell? ⟨w.heap.size, 1, none⟩ = some (.int .i64 a) := by rw [← hV]; exact cellOf (heap_alloc_last w _) 1 _ rfl
  have cb : V.cell? ⟨w.heap.size, 2, none⟩ = some (.int .i64 b) := by rw [← hV]; exact cellOf (heap_alloc_last w _) 2 _ rfl
  obtain ⟨v, ⟨i, rfl⟩, M, hP, hQ⟩ := remote_both a b ha hb (h.below HB.out)
  have HP : Hid (Calls Try.prog 34 #[.pointer (some ⟨g, 0, none⟩), .int .i64 a, .int .i64 b] V fun e w1 => e = .returned (.int .i64 i) ∧ Hid (M w1) ∧ (w1.cell? ⟨w.heap.size, 1, none⟩ = some (.int .i64 a) ∧ w1.cell? ⟨w.heap.size, 2, none⟩ = some (.int .i64 b))) := hP.mono fun e w1 h => ⟨h.1, h.2.1, by have H := h.2.2; exact ⟨(H.cell hlt hnB.out).trans ca, (H.cell hlt hnB.out).trans cb⟩⟩
  have HQ : Hid (∀ w1, Hid (M w1) → Calls Try.prog 46 #[.pointer (some ⟨g', 0, none⟩), .int .i64 a, .int .i64 b] w1 fun e w2 => e = .returned (.int .i64 i) ∧ Hid (StdOn V g g' B w2) ∧ (w2.cell? ⟨w.heap.size, 1, none⟩ = some (.int .i64 a) ∧ w2.cell? ⟨w.heap.size, 2, none⟩ = some (.int .i64 b))) := fun w1 hM => (hQ w1 hM.out).mono fun e w2 h => ⟨h.1, h.2, by
    obtain ⟨B', _, H, _⟩ := h.2
    exact ⟨(H.cell hlt hnB.out).trans ca, (H.cell hlt hnB.out).trans cb⟩⟩
  have hszs := hlt
  clear hP hQ hV h hnB hlt ca cb
  go_enter Try.func18, Try.ntmps18
  go_wp2
  go_region_held (fun W => W.cell? ⟨w.heap.size, 1, none⟩ = some (.int .i64 a) ∧ W.cell? ⟨w.heap.size, 2, none⟩ = some (.int .i64 b)) (first | assumption | go_keep) (first | (go_at_call 34; rw [HV.out]; refine Calls.mono HP.out ?_; rintro e1 w1 ⟨rfl, hM, hs1⟩) | (go_at_call 46; refine Calls.mono (HQ.out _ hM) ?_; rintro e2 w2 ⟨rfl, hS, hs2⟩))
  go_wp2
  go_ret
  exact ⟨rfl, StdOn.from HB.out hS.out⟩
set_option maxRecDepth 100000 in
set_option maxHeartbeats 4000000 in
theorem step_forget (bk : Value) (o : Opd) (h : Std w g g' B) (hk : o.k = 11) (ha : wf64 o.a) :
    Calls Try.prog 18 #[bk, .pointer (some ⟨g, 0, none⟩), .pointer (some ⟨g', 0, none⟩), .agg o.cells] w fun e w' => e = .returned (.bool true) ∧ StdOn w g g' B w' := by
  unfold Opd.cells
  obtain ⟨k, a, b, c, d, e, t, f⟩ := o
  dsimp only at *
  subst hk
  obtain ⟨V, hV⟩ : ∃ V, (w.alloc (.cells #[.int .i64 11, .int .i64 a, .int .i64 b, .int .i64 c, .int .i64 d, .int .i64 e, .string t, .bool f] 24)).drew = V := ⟨_, rfl⟩
  have HB : Hid (Below w.heap.size w V) := hV ▸ (bel1 (Below.refl _ _) (Nat.le_refl _) _).trans ((bel_drew _).mono (by simp))
  have HV := hide hV
  have hlt : w.heap.size < V.heap.size := by rw [← hV]; show w.heap.size < (w.alloc _).heap.size; simp
  have hnB : Hid (¬ B w.heap.size) := fun e => by have := h.out e; omega
  have cf : V.cell? ⟨w.heap.size, 7, none⟩ = some (.bool f) := by rw [← hV]; exact cellOf (heap_alloc_last w _) 7 _ rfl
  have ca : V.cell? ⟨w.heap.size, 1, none⟩ = some (.int .i64 a) := by rw [← hV]; exact cellOf (heap_alloc_last w _) 1 _ rfl
  obtain ⟨v, ⟨i, rfl⟩, M, hP, hQ⟩ := forget_both f a ha (h.below HB.out)
  have HP : Hid (Calls Try.prog 31 #[.pointer (some ⟨g, 0, none⟩), .bool f, .int .i64 a] V fun e w1 => e = .returned (.int .i64 i) ∧ Hid (M w1) ∧ (w1.cell? ⟨w.heap.size, 7, none⟩ = some (.bool f) ∧ w1.cell? ⟨w.heap.size, 1, none⟩ = some (.int .i64 a))) := hP.mono fun e w1 h => ⟨h.1, h.2.1, by have H := h.2.2; exact ⟨(H.cell hlt hnB.out).trans cf, (H.cell hlt hnB.out).trans ca⟩⟩
  have HQ : Hid (∀ w1, Hid (M w1) → Calls Try.prog 43 #[.pointer (some ⟨g', 0, none⟩), .bool f, .int .i64 a] w1 fun e w2 => e = .returned (.int .i64 i) ∧ Hid (StdOn V g g' B w2) ∧ (w2.cell? ⟨w.heap.size, 7, none⟩ = some (.bool f) ∧ w2.cell? ⟨w.heap.size, 1, none⟩ = some (.int .i64 a))) := fun w1 hM => (hQ w1 hM.out).mono fun e w2 h => ⟨h.1, h.2, by
    obtain ⟨B', _, H, _⟩ := h.2
    exact ⟨(H.cell hlt hnB.out).trans cf, (H.cell hlt hnB.out).trans ca⟩⟩
  have hszs := hlt
  clear hP hQ hV h hnB hlt cf ca
  go_enter Try.func18, Try.ntmps18
  go_wp2
  go_region_held (fun W => W.cell? ⟨w.heap.size, 7, none⟩ = some (.bool f) ∧ W.cell? ⟨w.heap.size, 1, none⟩ = some (.int .i64 a)) (first | assumption | go_keep) (first | (go_at_call 31; rw [HV.out]; refine Calls.mono HP.out ?_; rintro e1 w1 ⟨rfl, hM, hs1⟩) | (go_at_call 43; refine Calls.mono (HQ.out _ hM) ?_; rintro e2 w2 ⟨rfl, hS, hs2⟩))
  go_wp2
  go_ret
  exact ⟨rfl, StdOn.from HB.out hS.out⟩
set_option maxRecDepth 100000 in
set_option maxHeartbeats 4000000 in
theorem step_local (bk : Value) (o : Opd) (h : Std w g g' B) (hk : o.k = 15) (ha : wf64 o.a) :
    Calls Try.prog 18 #[bk, .pointer (some ⟨g, 0, none⟩), .pointer (some ⟨g', 0, none⟩), .agg o.cells] w fun e w' => e = .returned (.bool true) ∧ StdOn w g g' B w' := by
  unfold Opd.cells
  obtain ⟨k, a, b, c, d, e, t, f⟩ := o
  dsimp only at *
  subst hk
  obtain ⟨V, hV⟩ : ∃ V, w.alloc (.cells #[.int .i64 15, .int .i64 a, .int .i64 b, .int .i64 c, .int .i64 d, .int .i64 e, .string t, .bool f] 24) = V := ⟨_, rfl⟩
  have HB : Hid (Below w.heap.size w V) := hV ▸ bel1 (Below.refl _ _) (Nat.le_refl _) _
  have HV := hide hV
  have hlt : w.heap.size < V.heap.size := by rw [← hV]; show w.heap.size < (w.alloc _).heap.size; simp
  have hnB : Hid (¬ B w.heap.size) := fun e => by have := h.out e; omega
  have ca : V.cell? ⟨w.heap.size, 1, none⟩ = some (.int .i64 a) := by rw [← hV]; exact cellOf (heap_alloc_last w _) 1 _ rfl
  obtain ⟨v, ⟨i, j, rfl⟩, M, hP, hQ⟩ := local_both a ha (h.below HB.out)
  have HP : Hid (Calls Try.prog 33 #[.pointer (some ⟨g, 0, none⟩), .int .i64 a] V fun e w1 => e = .returned (.tuple #[.int .i64 i, .bool j]) ∧ Hid (M w1) ∧ (w1.cell? ⟨w.heap.size, 1, none⟩ = some (.int .i64 a))) := hP.mono fun e w1 h => ⟨h.1, h.2.1, by have H := h.2.2; exact (H.cell hlt hnB.out).trans ca⟩
  have HQ : Hid (∀ w1, Hid (M w1) → Calls Try.prog 47 #[.pointer (some ⟨g', 0, none⟩), .int .i64 a] w1 fun e w2 => e = .returned (.tuple #[.int .i64 i, .bool j]) ∧ Hid (StdOn V g g' B w2) ∧ (w2.cell? ⟨w.heap.size, 1, none⟩ = some (.int .i64 a))) := fun w1 hM => (hQ w1 hM.out).mono fun e w2 h => ⟨h.1, h.2, by
    obtain ⟨B', _, H, _⟩ := h.2
    exact (H.cell hlt hnB.out).trans ca⟩
  have hszs := hlt
  clear hP hQ hV h hnB hlt
  go_enter Try.func18, Try.ntmps18
  go_wp2_with fail
  rw [HV.out]
  refine HP.out.mono ?_
  rintro e1 w1 ⟨rfl, hM, hs1⟩
  have dA := hs1
  have hl1 : w.heap.size < w1.heap.size := block_lt_of_cell (dA)
  go_wp2_with fail
  refine (HQ.out w1 hM).mono ?_
  rintro e2 w2 ⟨rfl, hS, hs2⟩
  clear hs2
  go_wp2
  go_ret
  exact ⟨rfl, StdOn.from HB.out hS.out⟩
set_option maxRecDepth 100000 in
set_option maxHeartbeats 4000000 in
theorem step_deliver (bk : Value) (o : Opd) (h : Std w g g' B) (hk : o.k = 8) (ha : wf64 o.a) :
    Calls Try.prog 18 #[bk, .pointer (some ⟨g, 0, none⟩), .pointer (some ⟨g', 0, none⟩), .agg o.cells] w fun e w' => e = .returned (.bool true) ∧ StdOn w g g' B w' := by
  unfold Opd.cells
  obtain ⟨k, a, b, c, d, e, t, f⟩ := o
  dsimp only at *
  subst hk
  obtain ⟨V, hV⟩ : ∃ V, w.alloc (.cells #[.int .i64 8, .int .i64 a, .int .i64 b, .int .i64 c, .int .i64 d, .int .i64 e, .string t, .bool f] 24) = V := ⟨_, rfl⟩
  have HB : Hid (Below w.heap.size w V) := hV ▸ bel1 (Below.refl _ _) (Nat.le_refl _) _
  have HV := hide hV
  have hlt : w.heap.size < V.heap.size := by rw [← hV]; show w.heap.size < (w.alloc _).heap.size; simp
  have hnB : Hid (¬ B w.heap.size) := fun e => by have := h.out e; omega
  have ca : V.cell? ⟨w.heap.size, 1, none⟩ = some (.int .i64 a) := by rw [← hV]; exact cellOf (heap_alloc_last w _) 1 _ rfl
  have ct : V.cell? ⟨w.heap.size, 6, none⟩ = some (.string t) := by rw [← hV]; exact cellOf (heap_alloc_last w _) 6 _ rfl
  have cf : V.cell? ⟨w.heap.size, 7, none⟩ = some (.bool f) := by rw [← hV]; exact cellOf (heap_alloc_last w _) 7 _ rfl
  obtain ⟨v, ⟨i, j, rfl⟩, M, hP, hQ⟩ := deliver_both a t f ha (h.below HB.out)
  have HP : Hid (Calls Try.prog 35 #[.pointer (some ⟨g, 0, none⟩), .int .i64 a, .string t, .bool f] V fun e w1 => e = .returned (.tuple #[.int .i64 i, .int .i64 j]) ∧ Hid (M w1) ∧ (w1.cell? ⟨w.heap.size, 1, none⟩ = some (.int .i64 a) ∧ w1.cell? ⟨w.heap.size, 6, none⟩ = some (.string t) ∧ w1.cell? ⟨w.heap.size, 7, none⟩ = some (.bool f))) := hP.mono fun e w1 h => ⟨h.1, h.2.1, by have H := h.2.2; exact ⟨(H.cell hlt hnB.out).trans ca, (H.cell hlt hnB.out).trans ct, (H.cell hlt hnB.out).trans cf⟩⟩
  have HQ : Hid (∀ w1, Hid (M w1) → Calls Try.prog 39 #[.pointer (some ⟨g', 0, none⟩), .int .i64 a, .string t, .bool f] w1 fun e w2 => e = .returned (.tuple #[.int .i64 i, .int .i64 j]) ∧ Hid (StdOn V g g' B w2) ∧ (w2.cell? ⟨w.heap.size, 1, none⟩ = some (.int .i64 a) ∧ w2.cell? ⟨w.heap.size, 6, none⟩ = some (.string t) ∧ w2.cell? ⟨w.heap.size, 7, none⟩ = some (.bool f))) := fun w1 hM => (hQ w1 hM.out).mono fun e w2 h => ⟨h.1, h.2, by
    obtain ⟨B', _, H, _⟩ := h.2
    exact ⟨(H.cell hlt hnB.out).trans ca, (H.cell hlt hnB.out).trans ct, (H.cell hlt hnB.out).trans cf⟩⟩
  have hszs := hlt
  clear hP hQ hV h hnB hlt
  go_enter Try.func18, Try.ntmps18
  go_wp2_with fail
  rw [HV.out]
  refine HP.out.mono ?_
  rintro e1 w1 ⟨rfl, hM, hs1⟩
  obtain ⟨da, dt, df⟩ := hs1
  have hl1 : w.heap.size < w1.heap.size := block_lt_of_cell (da)
  go_wp2_with fail
  refine (HQ.out w1 hM).mono ?_
  rintro e2 w2 ⟨rfl, hS, hs2⟩
  clear hs2
  go_wp2
  go_ret
  exact ⟨rfl, StdOn.from HB.out hS.out⟩
set_option maxRecDepth 100000 in
set_option maxHeartbeats 4000000 in
theorem step_arrive (bk : Value) (o : Opd) (h : Std w g g' B) (hk : o.k = 9) (hb : wf64 o.b) :
    Calls Try.prog 18 #[bk, .pointer (some ⟨g, 0, none⟩), .pointer (some ⟨g', 0, none⟩), .agg o.cells] w fun e w' => e = .returned (.bool true) ∧ StdOn w g g' B w' := by
  unfold Opd.cells
  obtain ⟨k, a, b, c, d, e, t, f⟩ := o
  dsimp only at *
  subst hk
  obtain ⟨V, hV⟩ : ∃ V, (w.alloc (.cells #[.int .i64 9, .int .i64 a, .int .i64 b, .int .i64 c, .int .i64 d, .int .i64 e, .string t, .bool f] 24)).drew = V := ⟨_, rfl⟩
  have HB : Hid (Below w.heap.size w V) := hV ▸ (bel1 (Below.refl _ _) (Nat.le_refl _) _).trans ((bel_drew _).mono (by simp))
  have HV := hide hV
  have hlt : w.heap.size < V.heap.size := by rw [← hV]; show w.heap.size < (w.alloc _).heap.size; simp
  have hnB : Hid (¬ B w.heap.size) := fun e => by have := h.out e; omega
  have ca : V.cell? ⟨w.heap.size, 1, none⟩ = some (.int .i64 a) := by rw [← hV]; exact cellOf (heap_alloc_last w _) 1 _ rfl
  have cb : V.cell? ⟨w.heap.size, 2, none⟩ = some (.int .i64 b) := by rw [← hV]; exact cellOf (heap_alloc_last w _) 2 _ rfl
  have ct : V.cell? ⟨w.heap.size, 6, none⟩ = some (.string t) := by rw [← hV]; exact cellOf (heap_alloc_last w _) 6 _ rfl
  have cf : V.cell? ⟨w.heap.size, 7, none⟩ = some (.bool f) := by rw [← hV]; exact cellOf (heap_alloc_last w _) 7 _ rfl
  obtain ⟨v, ⟨i, rfl⟩, M, hP, hQ⟩ := arrive_both a b t f hb (h.below HB.out)
  have HP : Hid (Calls Try.prog 28 #[.pointer (some ⟨g, 0, none⟩), .int .i64 a, .int .i64 b, .string t, .bool f] V fun e w1 => e = .returned (.int .i64 i) ∧ Hid (M w1) ∧ (w1.cell? ⟨w.heap.size, 1, none⟩ = some (.int .i64 a) ∧ w1.cell? ⟨w.heap.size, 2, none⟩ = some (.int .i64 b) ∧ w1.cell? ⟨w.heap.size, 6, none⟩ = some (.string t) ∧ w1.cell? ⟨w.heap.size, 7, none⟩ = some (.bool f))) := hP.mono fun e w1 h => ⟨h.1, h.2.1, by have H := h.2.2; exact ⟨(H.cell hlt hnB.out).trans ca, (H.cell hlt hnB.out).trans cb, (H.cell hlt hnB.out).trans ct, (H.cell hlt hnB.out).trans cf⟩⟩
  have HQ : Hid (∀ w1, Hid (M w1) → Calls Try.prog 40 #[.pointer (some ⟨g', 0, none⟩), .int .i64 a, .int .i64 b, .string t, .bool f] w1 fun e w2 => e = .returned (.int .i64 i) ∧ Hid (StdOn V g g' B w2) ∧ (w2.cell? ⟨w.heap.size, 1, none⟩ = some (.int .i64 a) ∧ w2.cell? ⟨w.heap.size, 2, none⟩ = some (.int .i64 b) ∧ w2.cell? ⟨w.heap.size, 6, none⟩ = some (.string t) ∧ w2.cell? ⟨w.heap.size, 7, none⟩ = some (.bool f))) := fun w1 hM => (hQ w1 hM.out).mono fun e w2 h => ⟨h.1, h.2, by
    obtain ⟨B', _, H, _⟩ := h.2
    exact ⟨(H.cell hlt hnB.out).trans ca, (H.cell hlt hnB.out).trans cb, (H.cell hlt hnB.out).trans ct, (H.cell hlt hnB.out).trans cf⟩⟩
  have hszs := hlt
  clear hP hQ hV h hnB hlt ca cb ct cf
  go_enter Try.func18, Try.ntmps18
  go_wp2
  go_region_held (fun W => W.cell? ⟨w.heap.size, 1, none⟩ = some (.int .i64 a) ∧ W.cell? ⟨w.heap.size, 2, none⟩ = some (.int .i64 b) ∧ W.cell? ⟨w.heap.size, 6, none⟩ = some (.string t) ∧ W.cell? ⟨w.heap.size, 7, none⟩ = some (.bool f)) (first | assumption | go_keep) (first | (go_at_call 28; rw [HV.out]; refine Calls.mono HP.out ?_; rintro e1 w1 ⟨rfl, hM, hs1⟩) | (go_at_call 40; refine Calls.mono (HQ.out _ hM) ?_; rintro e2 w2 ⟨rfl, hS, hs2⟩))
  go_wp2
  go_ret
  exact ⟨rfl, StdOn.from HB.out hS.out⟩
end
end Go.Proofs.Ytondbhdlccpklaa
