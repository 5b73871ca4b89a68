/- HGFill -/
import Derived.Test.YtgldcchleoklcaaGreatDoorP20
import Derived.Deep.RegionHeld
namespace Go.Proofs.YtgldcchleoklcaaGreatDoor
open Go.RowKit
set_option linter.unusedVariables false
set_option linter.unusedSimpArgs false
set_option maxRecDepth 100000 in
set_option maxHeartbeats 2000000 in
theorem filled_must (f : Fd) (v : V) (hk : v.k = 0) (hm : f.must = true) (w : World) : Calls Tryz.prog 106 #[f.val, v.val] w fun e w' => e = VN nul 72 ∧ Below w.heap.size w w' := by
  obtain ⟨W0, hW0⟩ : ∃ W0, ((w.alloc (Obj.cells f.cs 66)).alloc (Obj.cells #[.int .i64 v.k, .int .u64 v.n, .string v.s, .slice v.a v.l.length v.c, .int .i64 v.e] 42)).alloc (Obj.cells #[.int .i64 0, .int .u64 0, .string ⟨#[]⟩, .slice none 0 0, .int .i64 0] 42) = W0 := ⟨_, rfl⟩
  have hs0 : W0.heap.size = w.heap.size + 3 := by rw [← hW0]; simp
  have hb0 : Below w.heap.size w W0 := by rw [← hW0]; exact bel1 (bel2 (Below.refl _ _) (Nat.le_refl _) _ _) (by simp; omega) _
  have xf : BoxF W0 w.heap.size f := by rw [← hW0]; exact heap_past (heap_past (World.alloc_heap_new _ _) _) _
  have xv : BoxV W0 (w.heap.size + 1) v := by rw [← hW0]; exact heap_past (heap_at1 _ _ _) _
  have xz : BoxV W0 (w.heap.size + 1 + 1) nul := by rw [← hW0]; exact heap_at2 _ _ _ _
  have HL := hide (fun W => lacks_any f v W)
  rw [hm, hk] at HL
  have HK0 := hide hk
  clear hk hm
  rw [Fd.val_eq, V.val_eq] at HL ⊢
  have HW0 := hide hW0
  unfold Fd.cs at HW0
  clear hW0
  rw [VN_nul]
  go_enter Tryz.func106, Tryz.ntmps106
  go_wp2_with fail
  rw [HW0.out]
  refine (HL.out _).mono ?_
  rintro e1 w1 ⟨rfl, hb1⟩
  have hs1 := hb1.size
  have xz1 := xz.below hb1 (by omega)
  obtain ⟨z0, z1, z2, z3, z4⟩ := xz1.cells
  have fz := (show Blk w1 (w.heap.size + 1 + 1) 42 5 from ⟨_, xz1, rfl⟩).free
  have hz2 : w.heap.size + 1 + 1 < w1.heap.size := by omega
  have hbw : Below w.heap.size w w1 := belOn hb0 (by omega) hb1
  have hbz : Below w.heap.size w _ := put5_below (y := nul) (o := 0) (b := w.heap.size + 1 + 1) hbw (by omega)
  rw [← put5_eq] at hbz
  have HBZ := hide hbz
  clear xz1 hbz
  simp only [decide_true, Bool.and_true]
  go_wp2
  exact bodyPost_ret (v := .tuple #[.agg #[.int .i64 0, .int .u64 0, .string ⟨#[]⟩, .slice none 0 0, .int .i64 0], .int .i64 72]) (by simp [results, Tryz.results106, go_sem, z0, z1, z2, z3, z4]) rfl ⟨rfl, HBZ.out⟩
set_option maxRecDepth 100000 in
set_option maxHeartbeats 4000000 in
theorem filled_hund (f : Fd) (v : V) (n₀ : Nat) (R : T × Int) (h0 : v.k ≠ 0) (w : World) (hn : n₀ ≤ w.heap.size)
    (hR : ∀ W, Calls Tryz.prog 126 #[f.val] W fun e w' => e = .returned (.func (.func 134) #[] #[]) ∧ Below W.heap.size W w')
    (hX : ∀ (P : Nat) (W : World), Below w.heap.size w W →  Calls Tryz.prog 134 #[v.val] W (ValPost n₀ R W)) :
    Calls Tryz.prog 106 #[f.val, v.val] w (ValPost n₀ R w) := by
  obtain ⟨W0, hW0⟩ : ∃ W0, ((w.alloc (Obj.cells f.cs 66)).alloc (Obj.cells #[.int .i64 v.k, .int .u64 v.n, .string v.s, .slice v.a v.l.length v.c, .int .i64 v.e] 42)).alloc (Obj.cells #[.int .i64 0, .int .u64 0, .string ⟨#[]⟩, .slice none 0 0, .int .i64 0] 42) = W0 := ⟨_, rfl⟩
  have hs0 : W0.heap.size = w.heap.size + 3 := by rw [← hW0]; simp
  have hb0 : Below w.heap.size w W0 := by rw [← hW0]; exact bel1 (bel2 (Below.refl _ _) (Nat.le_refl _) _ _) (by simp; omega) _
  have xf : BoxF W0 w.heap.size f := by rw [← hW0]; exact heap_past (heap_past (World.alloc_heap_new _ _) _) _
  have xv : BoxV W0 (w.heap.size + 1) v := by rw [← hW0]; exact heap_past (heap_at1 _ _ _) _
  have xz : BoxV W0 (w.heap.size + 1 + 1) nul := by rw [← hW0]; exact heap_at2 _ _ _ _
  have HL := hide (fun W => lacks_any f v W)
  rw [Fd.val_eq, V.val_eq] at HL ⊢
  have HW0 := hide hW0
  unfold Fd.cs at HW0
  have HR := hide hR
  have HX := hide hX
  rw [Fd.val_eq] at HR
  rw [V.val_eq] at HX
  have hlk : (f.must && decide (v.k = 0)) = false := by rw [decide_eq_false h0, Bool.and_false]
  rw [hlk] at HL
  have hv0 : (v.k == 0) = false := by simpa using h0
  have h0' : ¬ v.k = 0 := h0
  clear hW0 hlk h0 hR hX
  go_enter Tryz.func106, Tryz.ntmps106
  go_wp2_with fail
  rw [HW0.out]
  refine (HL.out _).mono ?_
  rintro e1 w1 ⟨rfl, hb1⟩
  have hs1 := hb1.size
  obtain ⟨f0, f1, f2, f3, f4, f5, f6, f7, f8⟩ := (xf.below hb1 (by omega)).cells
  obtain ⟨v0, v1, v2, v3, v4⟩ := (xv.below hb1 (by omega)).cells
  have hz2 : w.heap.size + 1 + 1 < w1.heap.size := by omega
  have hz3 : w.heap.size + 1 < w1.heap.size := by omega
  have hz4 : w.heap.size < w1.heap.size := by omega
  have HB1 := hide hb1
  have hmx : Tryz.prog.follows .mixedOrders = true := by kernel_rfl
  clear hb1
  go_wp2_with fail
  go_region_with (first | (go_at_call 126; refine Calls.mono (HR.out _) ?_; rintro e2 w2 ⟨rfl, hb2⟩; have HB2 : Hid (Below W0.heap.size W0 w2) := HB1.out.drew.trans (hb2.mono HB1.out.drew.size); have hs2 := HB2.out.size; have hs3 := hb2.size; obtain ⟨g0, g1, g2, g3, g4⟩ := (xv.below HB2.out (by omega)).cells; clear hb2) | (go_at_call 134; have HB3 := HB2; refine Calls.mono (HX.out 0 _ (belOn hb0 (by omega) HB2.out)) ?_; rintro e3 w3 ⟨y, rfl, HY, hb3⟩; have HS3 := hide hb3.size; have HB4 : Hid (Below W0.heap.size W0 w3) := belOn HB3.out HB3.out.size hb3; clear hb3; have hs5 := HB4.out.size; have xz1 := xz.below HB4.out (by omega); obtain ⟨z0, z1, z2, z3, z4⟩ := xz1.cells; have fz := (show Blk w3 (w.heap.size + 1 + 1) 42 5 from ⟨_, xz1, rfl⟩).free; have hz5 : w.heap.size + 1 + 1 < w3.heap.size := (by omega); clear xz1; unfold VN))
  all_goals
    have hend : ValPost n₀ R w (VN y R.2) (put5 w3 (w.heap.size + 1 + 1) 0 y) := ⟨y, rfl, ⟨HY.out.1, HY.out.2.wider (fun b hb => put5_same _ _ _ _ _ (by omega)) (by omega) (by rw [put5_size]; exact Nat.le_refl _)⟩, put5_below (belOn hb0 (by omega) HB4.out) (by omega)⟩
    rw [← put5_eq] at hend
    have HEND := hide hend
    unfold VN at HEND
    clear hend
    go_wp2
    exact bodyPost_ret (v := .tuple #[.agg #[.int .i64 y.k, .int .u64 y.n, .string y.s, .slice y.a y.l.length y.c, .int .i64 y.e], .int .i64 R.2]) (by simp [results, Tryz.results106, go_sem, z0, z1, z2, z3, z4]) rfl HEND.out
set_option maxRecDepth 100000 in
set_option maxHeartbeats 4000000 in
theorem filled_syms (f : Fd) (v : V) (n₀ : Nat) (R : T × Int) (h0 : v.k ≠ 0) (w : World) (hn : n₀ ≤ w.heap.size)
    (hR : ∀ W, Calls Tryz.prog 126 #[f.val] W fun e w' => e = .returned (.func (.func 135) #[] #[]) ∧ Below W.heap.size W w')
    (hX : ∀ (P : Nat) (W : World), Below w.heap.size w W →  Calls Tryz.prog 135 #[v.val] W (ValPost n₀ R W)) :
    Calls Tryz.prog 106 #[f.val, v.val] w (ValPost n₀ R w) := by
  obtain ⟨W0, hW0⟩ : ∃ W0, ((w.alloc (Obj.cells f.cs 66)).alloc (Obj.cells #[.int .i64 v.k, .int .u64 v.n, .string v.s, .slice v.a v.l.length v.c, .int .i64 v.e] 42)).alloc (Obj.cells #[.int .i64 0, .int .u64 0, .string ⟨#[]⟩, .slice none 0 0, .int .i64 0] 42) = W0 := ⟨_, rfl⟩
  have hs0 : W0.heap.size = w.heap.size + 3 := by rw [← hW0]; simp
  have hb0 : Below w.heap.size w W0 := by rw [← hW0]; exact bel1 (bel2 (Below.refl _ _) (Nat.le_refl _) _ _) (by simp; omega) _
  have xf : BoxF W0 w.heap.size f := by rw [← hW0]; exact heap_past (heap_past (World.alloc_heap_new _ _) _) _
  have xv : BoxV W0 (w.heap.size + 1) v := by rw [← hW0]; exact heap_past (heap_at1 _ _ _) _
  have xz : BoxV W0 (w.heap.size + 1 + 1) nul := by rw [← hW0]; exact heap_at2 _ _ _ _
  have HL := hide (fun W => lacks_any f v W)
  rw [Fd.val_eq, V.val_eq] at HL ⊢
  have HW0 := hide hW0
  unfold Fd.cs at HW0
  have HR := hide hR
  have HX := hide hX
  rw [Fd.val_eq] at HR
  rw [V.val_eq] at HX
  have hlk : (f.must && decide (v.k = 0)) = false := by rw [decide_eq_false h0, Bool.and_false]
  rw [hlk] at HL
  have hv0 : (v.k == 0) = false := by simpa using h0
  have h0' : ¬ v.k = 0 := h0
  clear hW0 hlk h0 hR hX
  go_enter Tryz.func106, Tryz.ntmps106
  go_wp2_with fail
  rw [HW0.out]
  refine (HL.out _).mono ?_
  rintro e1 w1 ⟨rfl, hb1⟩
  have hs1 := hb1.size
  obtain ⟨f0, f1, f2, f3, f4, f5, f6, f7, f8⟩ := (xf.below hb1 (by omega)).cells
  obtain ⟨v0, v1, v2, v3, v4⟩ := (xv.below hb1 (by omega)).cells
  have hz2 : w.heap.size + 1 + 1 < w1.heap.size := by omega
  have hz3 : w.heap.size + 1 < w1.heap.size := by omega
  have hz4 : w.heap.size < w1.heap.size := by omega
  have HB1 := hide hb1
  have hmx : Tryz.prog.follows .mixedOrders = true := by kernel_rfl
  clear hb1
  go_wp2_with fail
  go_region_with (first | (go_at_call 126; refine Calls.mono (HR.out _) ?_; rintro e2 w2 ⟨rfl, hb2⟩; have HB2 : Hid (Below W0.heap.size W0 w2) := HB1.out.drew.trans (hb2.mono HB1.out.drew.size); have hs2 := HB2.out.size; have hs3 := hb2.size; obtain ⟨g0, g1, g2, g3, g4⟩ := (xv.below HB2.out (by omega)).cells; clear hb2) | (go_at_call 135; have HB3 := HB2; refine Calls.mono (HX.out 0 _ (belOn hb0 (by omega) HB2.out)) ?_; rintro e3 w3 ⟨y, rfl, HY, hb3⟩; have HS3 := hide hb3.size; have HB4 : Hid (Below W0.heap.size W0 w3) := belOn HB3.out HB3.out.size hb3; clear hb3; have hs5 := HB4.out.size; have xz1 := xz.below HB4.out (by omega); obtain ⟨z0, z1, z2, z3, z4⟩ := xz1.cells; have fz := (show Blk w3 (w.heap.size + 1 + 1) 42 5 from ⟨_, xz1, rfl⟩).free; have hz5 : w.heap.size + 1 + 1 < w3.heap.size := (by omega); clear xz1; unfold VN))
  all_goals
    have hend : ValPost n₀ R w (VN y R.2) (put5 w3 (w.heap.size + 1 + 1) 0 y) := ⟨y, rfl, ⟨HY.out.1, HY.out.2.wider (fun b hb => put5_same _ _ _ _ _ (by omega)) (by omega) (by rw [put5_size]; exact Nat.le_refl _)⟩, put5_below (belOn hb0 (by omega) HB4.out) (by omega)⟩
    rw [← put5_eq] at hend
    have HEND := hide hend
    unfold VN at HEND
    clear hend
    go_wp2
    exact bodyPost_ret (v := .tuple #[.agg #[.int .i64 y.k, .int .u64 y.n, .string y.s, .slice y.a y.l.length y.c, .int .i64 y.e], .int .i64 R.2]) (by simp [results, Tryz.results106, go_sem, z0, z1, z2, z3, z4]) rfl HEND.out
set_option maxRecDepth 100000 in
set_option maxHeartbeats 4000000 in
theorem filled_comp (f : Fd) (v : V) (n₀ : Nat) (R : T × Int) (h0 : v.k ≠ 0) (w : World) (hn : n₀ ≤ w.heap.size)
    (hR : ∀ W, Calls Tryz.prog 126 #[f.val] W fun e w' => e = .returned (.func (.func 136) #[] #[.pointer (some ⟨W.heap.size, 0, none⟩)]) ∧ Below W.heap.size W w' ∧ w'.cell? ⟨W.heap.size, 2, none⟩ = some (.slice f.ka f.kl f.kc))
    (hX : ∀ (P : Nat) (W : World), Below w.heap.size w W → P < W.heap.size → W.cell? ⟨P, 2, none⟩ = some (.slice f.ka f.kl f.kc) → Calls Tryz.prog 136 #[v.val, .pointer (some ⟨P, 0, none⟩)] W (ValPost n₀ R W)) :
    Calls Tryz.prog 106 #[f.val, v.val] w (ValPost n₀ R w) := by
  obtain ⟨W0, hW0⟩ : ∃ W0, ((w.alloc (Obj.cells f.cs 66)).alloc (Obj.cells #[.int .i64 v.k, .int .u64 v.n, .string v.s, .slice v.a v.l.length v.c, .int .i64 v.e] 42)).alloc (Obj.cells #[.int .i64 0, .int .u64 0, .string ⟨#[]⟩, .slice none 0 0, .int .i64 0] 42) = W0 := ⟨_, rfl⟩
  have hs0 : W0.heap.size = w.heap.size + 3 := by rw [← hW0]; simp
  have hb0 : Below w.heap.size w W0 := by rw [← hW0]; exact bel1 (bel2 (Below.refl _ _) (Nat.le_refl _) _ _) (by simp; omega) _
  have xf : BoxF W0 w.heap.size f := by rw [← hW0]; exact heap_past (heap_past (World.alloc_heap_new _ _) _) _
  have xv : BoxV W0 (w.heap.size + 1) v := by rw [← hW0]; exact heap_past (heap_at1 _ _ _) _
  have xz : BoxV W0 (w.heap.size + 1 + 1) nul := by rw [← hW0]; exact heap_at2 _ _ _ _
  have HL := hide (fun W => lacks_any f v W)
  rw [Fd.val_eq, V.val_eq] at HL ⊢
  have HW0 := hide hW0
  unfold Fd.cs at HW0
  have HR := hide hR
  have HX := hide hX
  rw [Fd.val_eq] at HR
  rw [V.val_eq] at HX
  have hlk : (f.must && decide (v.k = 0)) = false := by rw [decide_eq_false h0, Bool.and_false]
  rw [hlk] at HL
  have hv0 : (v.k == 0) = false := by simpa using h0
  have h0' : ¬ v.k = 0 := h0
  clear hW0 hlk h0 hR hX
  go_enter Tryz.func106, Tryz.ntmps106
  go_wp2_with fail
  rw [HW0.out]
  refine (HL.out _).mono ?_
  rintro e1 w1 ⟨rfl, hb1⟩
  have hs1 := hb1.size
  obtain ⟨f0, f1, f2, f3, f4, f5, f6, f7, f8⟩ := (xf.below hb1 (by omega)).cells
  obtain ⟨v0, v1, v2, v3, v4⟩ := (xv.below hb1 (by omega)).cells
  have hz2 : w.heap.size + 1 + 1 < w1.heap.size := by omega
  have hz3 : w.heap.size + 1 < w1.heap.size := by omega
  have hz4 : w.heap.size < w1.heap.size := by omega
  have HB1 := hide hb1
  have hmx : Tryz.prog.follows .mixedOrders = true := by kernel_rfl
  clear hb1
  go_wp2_with fail
  go_region_with (first | (go_at_call 126; refine Calls.mono (HR.out _) ?_; rintro e2 w2 ⟨rfl, hb2, hcx⟩; have HB2 : Hid (Below W0.heap.size W0 w2) := HB1.out.drew.trans (hb2.mono HB1.out.drew.size); have hs2 := HB2.out.size; have hs3 := hb2.size; obtain ⟨g0, g1, g2, g3, g4⟩ := (xv.below HB2.out (by omega)).cells; have HC := hide hcx; clear hb2 hcx) | (go_at_call 136; have HB3 := HB2; refine Calls.mono (HX.out _ _ (belOn hb0 (by omega) HB2.out) (World.block_lt_of_cell? _ _ HC.out) HC.out) ?_; rintro e3 w3 ⟨y, rfl, HY, hb3⟩; have HS3 := hide hb3.size; have HB4 : Hid (Below W0.heap.size W0 w3) := belOn HB3.out HB3.out.size hb3; clear hb3; have hs5 := HB4.out.size; have xz1 := xz.below HB4.out (by omega); obtain ⟨z0, z1, z2, z3, z4⟩ := xz1.cells; have fz := (show Blk w3 (w.heap.size + 1 + 1) 42 5 from ⟨_, xz1, rfl⟩).free; have hz5 : w.heap.size + 1 + 1 < w3.heap.size := (by omega); clear xz1; unfold VN))
  all_goals
    have hend : ValPost n₀ R w (VN y R.2) (put5 w3 (w.heap.size + 1 + 1) 0 y) := ⟨y, rfl, ⟨HY.out.1, HY.out.2.wider (fun b hb => put5_same _ _ _ _ _ (by omega)) (by omega) (by rw [put5_size]; exact Nat.le_refl _)⟩, put5_below (belOn hb0 (by omega) HB4.out) (by omega)⟩
    rw [← put5_eq] at hend
    have HEND := hide hend
    unfold VN at HEND
    clear hend
    go_wp2
    exact bodyPost_ret (v := .tuple #[.agg #[.int .i64 y.k, .int .u64 y.n, .string y.s, .slice y.a y.l.length y.c, .int .i64 y.e], .int .i64 R.2]) (by simp [results, Tryz.results106, go_sem, z0, z1, z2, z3, z4]) rfl HEND.out
set_option maxRecDepth 100000 in
set_option maxHeartbeats 4000000 in
theorem filled_flat3 (f : Fd) (v : V) (n₀ : Nat) (R : T × Int) (h0 : v.k ≠ 0) (w : World) (hn : n₀ ≤ w.heap.size)
    (hR : ∀ W, Calls Tryz.prog 126 #[f.val] W fun e w' => e = .returned (.func (.func 139) #[] #[.pointer (some ⟨W.heap.size, 0, none⟩)]) ∧ Below W.heap.size W w' ∧ w'.cell? ⟨W.heap.size, 1, none⟩ = some (.int .i64 f.ty))
    (hX : ∀ (P : Nat) (W : World), Below w.heap.size w W → P < W.heap.size → W.cell? ⟨P, 1, none⟩ = some (.int .i64 f.ty) → Calls Tryz.prog 139 #[v.val, .pointer (some ⟨P, 0, none⟩)] W (ValPost n₀ R W)) :
    Calls Tryz.prog 106 #[f.val, v.val] w (ValPost n₀ R w) := by
  obtain ⟨W0, hW0⟩ : ∃ W0, ((w.alloc (Obj.cells f.cs 66)).alloc (Obj.cells #[.int .i64 v.k, .int .u64 v.n, .string v.s, .slice v.a v.l.length v.c, .int .i64 v.e] 42)).alloc (Obj.cells #[.int .i64 0, .int .u64 0, .string ⟨#[]⟩, .slice none 0 0, .int .i64 0] 42) = W0 := ⟨_, rfl⟩
  have hs0 : W0.heap.size = w.heap.size + 3 := by rw [← hW0]; simp
  have hb0 : Below w.heap.size w W0 := by rw [← hW0]; exact bel1 (bel2 (Below.refl _ _) (Nat.le_refl _) _ _) (by simp; omega) _
  have xf : BoxF W0 w.heap.size f := by rw [← hW0]; exact heap_past (heap_past (World.alloc_heap_new _ _) _) _
  have xv : BoxV W0 (w.heap.size + 1) v := by rw [← hW0]; exact heap_past (heap_at1 _ _ _) _
  have xz : BoxV W0 (w.heap.size + 1 + 1) nul := by rw [← hW0]; exact heap_at2 _ _ _ _
  have HL := hide (fun W => lacks_any f v W)
  rw [Fd.val_eq, V.val_eq] at HL ⊢
  have HW0 := hide hW0
  unfold Fd.cs at HW0
  have HR := hide hR
  have HX := hide hX
  rw [Fd.val_eq] at HR
  rw [V.val_eq] at HX
  have hlk : (f.must && decide (v.k = 0)) = false := by rw [decide_eq_false h0, Bool.and_false]
  rw [hlk] at HL
  have hv0 : (v.k == 0) = false := by simpa using h0
  have h0' : ¬ v.k = 0 := h0
  clear hW0 hlk h0 hR hX
  go_enter Tryz.func106, Tryz.ntmps106
  go_wp2_with fail
  rw [HW0.out]
  refine (HL.out _).mono ?_
  rintro e1 w1 ⟨rfl, hb1⟩
  have hs1 := hb1.size
  obtain ⟨f0, f1, f2, f3, f4, f5, f6, f7, f8⟩ := (xf.below hb1 (by omega)).cells
  obtain ⟨v0, v1, v2, v3, v4⟩ := (xv.below hb1 (by omega)).cells
  have hz2 : w.heap.size + 1 + 1 < w1.heap.size := by omega
  have hz3 : w.heap.size + 1 < w1.heap.size := by omega
  have hz4 : w.heap.size < w1.heap.size := by omega
  have HB1 := hide hb1
  have hmx : Tryz.prog.follows .mixedOrders = true := by kernel_rfl
  clear hb1
  go_wp2_with fail
  go_region_with (first | (go_at_call 126; refine Calls.mono (HR.out _) ?_; rintro e2 w2 ⟨rfl, hb2, hcx⟩; have HB2 : Hid (Below W0.heap.size W0 w2) := HB1.out.drew.trans (hb2.mono HB1.out.drew.size); have hs2 := HB2.out.size; have hs3 := hb2.size; obtain ⟨g0, g1, g2, g3, g4⟩ := (xv.below HB2.out (by omega)).cells; have HC := hide hcx; clear hb2 hcx) | (go_at_call 139; have HB3 := HB2; refine Calls.mono (HX.out _ _ (belOn hb0 (by omega) HB2.out) (World.block_lt_of_cell? _ _ HC.out) HC.out) ?_; rintro e3 w3 ⟨y, rfl, HY, hb3⟩; have HS3 := hide hb3.size; have HB4 : Hid (Below W0.heap.size W0 w3) := belOn HB3.out HB3.out.size hb3; clear hb3; have hs5 := HB4.out.size; have xz1 := xz.below HB4.out (by omega); obtain ⟨z0, z1, z2, z3, z4⟩ := xz1.cells; have fz := (show Blk w3 (w.heap.size + 1 + 1) 42 5 from ⟨_, xz1, rfl⟩).free; have hz5 : w.heap.size + 1 + 1 < w3.heap.size := (by omega); clear xz1; unfold VN))
  all_goals
    have hend : ValPost n₀ R w (VN y R.2) (put5 w3 (w.heap.size + 1 + 1) 0 y) := ⟨y, rfl, ⟨HY.out.1, HY.out.2.wider (fun b hb => put5_same _ _ _ _ _ (by omega)) (by omega) (by rw [put5_size]; exact Nat.le_refl _)⟩, put5_below (belOn hb0 (by omega) HB4.out) (by omega)⟩
    rw [← put5_eq] at hend
    have HEND := hide hend
    unfold VN at HEND
    clear hend
    go_wp2
    exact bodyPost_ret (v := .tuple #[.agg #[.int .i64 y.k, .int .u64 y.n, .string y.s, .slice y.a y.l.length y.c, .int .i64 y.e], .int .i64 R.2]) (by simp [results, Tryz.results106, go_sem, z0, z1, z2, z3, z4]) rfl HEND.out
theorem filled_all (re : T → T × Int) (f : Fd) (s : FS) (v : V) (n₀ : Nat) (w : World) (hn : n₀ ≤ w.heap.size) (hl : Lies n₀ w v) (hf : FdIn 0 w f s) (hok : okFS s = true) (hre : s.ty = 102 → v.k ≠ 0 → RepOk re v) :
    Calls Tryz.prog 106 #[f.val, v.val] w (ValPost n₀ (fillT re s v.t) w) := by
  obtain ⟨hfn, hft, hfm, hfd, hkl, hkc, hka⟩ := hf
  unfold fillT
  by_cases hk : v.k = 0
  · rw [if_pos (by rw [k_t]; exact hk)]
    cases hm : s.must
    · rw [if_neg (by simp)]
      refine (filled_null f v hk (hfm.trans hm) w).mono ?_
      rintro e w' ⟨rfl, hb⟩
      exact ⟨f.d, rfl, ⟨by rw [hfd]; exact fs_d_t s, by rw [hfd]; exact (okFS_lies hok n₀ w').wide⟩, hb⟩
    · rw [if_pos rfl]
      refine (filled_must f v hk (hfm.trans hm) w).mono ?_
      rintro e w' ⟨rfl, hb⟩
      exact valpost_nul hb
  · rw [if_neg (by rw [k_t]; exact hk)]
    by_cases h100 : s.ty = 100
    · rw [if_pos h100]
      refine filled_hund f v n₀ _ hk w hn (fun W => reader_hund f (hft.trans h100) W) (fun _ W hW => ?_)
      refine (reader1_any v W).mono ?_
      rintro e w' ⟨rfl, hb⟩
      exact valpost_self (hl.keep hW hn) (by have := hW.size; omega) hb
    rw [if_neg h100]
    by_cases h101 : s.ty = 101
    · rw [if_pos h101]
      exact filled_syms f v n₀ _ hk w hn (fun W => reader_syms f (hft.trans h101) W) (fun _ W hW => symbols_any v n₀ W (by have := hW.size; omega) (hl.keep hW hn))
    rw [if_neg h101]
    by_cases h102 : s.ty = 102
    · rw [if_pos h102]
      have hks : s.ks.length ≤ 1000 := by
        unfold okFS at hok
        simp only [Bool.and_eq_true, decide_eq_true_eq] at hok
        omega
      refine filled_comp f v n₀ _ hk w hn (fun W => reader_comp f (hft.trans h102) W) (fun P W hW hP hc => ?_)
      rw [hkl, hkc] at hc
      refine reader2_any re s.ks hks P f.ka v (hre h102 hk) n₀ W (by have := hW.size; omega) (hl.keep hW hn) hP hc (fun h0 => ?_)
      obtain ⟨b, e, _, h2, h3⟩ := hka h0
      exact ⟨b, e, by have := hW.size; omega, (hW.block b h2).trans h3⟩
    rw [if_neg h102]
    have hr := fun W => reader_flat f (by rw [hft]; exact h100) (by rw [hft]; exact h101) (by rw [hft]; exact h102) W
    by_cases hty : v.k = s.ty
    · rw [if_pos (by rw [k_t]; exact hty)]
      refine filled_flat3 f v n₀ _ hk w hn hr (fun P W hW hP hc => ?_)
      refine (reader3_any P f.ty v W hP hc (hty.trans hft.symm)).mono ?_
      rintro e w' ⟨rfl, hb⟩
      exact valpost_self (hl.keep hW hn) (by have := hW.size; omega) hb
    · rw [if_neg (by rw [k_t]; exact hty)]
      refine filled_flat3 f v n₀ _ hk w hn hr (fun P W hW hP hc => ?_)
      refine (reader3_bad P f.ty v W hP hc (fun h => hty (h.trans hft))).mono ?_
      rintro e w' ⟨rfl, hb⟩
      exact valpost_nul hb
end Go.Proofs.YtgldcchleoklcaaGreatDoor
