/- HGFill, HGLaid, HPack, HFoD, HRDep -/
import Derived.Test.YtgldcchleoklcaaGreatDoorK16
import Derived.Test.YtgldcchleoklcaaGreatDoorK15
import Derived.Test.YtgldcchleoklcaaGreatDoorK12
import Derived.Test.YtgldcchleoklcaaGreatDoorK14
import Derived.Deep.RegionHeld
namespace Go.Proofs.YtgldcchleoklcaaGreatDoor

open Go.RowKit
set_option linter.unusedVariables false
set_option linter.unusedSimpArgs false
set_option maxRecDepth 100000 in
set_option maxHeartbeats 2000000 in
/-- a Null where it may not be -/
theorem filled_must (f : Fd) (v : V) (hk : v.k = 0) (hm : f.must = true) (w : World) : Calls Tryz.prog 106 #[f.val, v.val] w fun e w' => e = VN nul 72 ∧ Below w.heap.size w w' := by
  obtain ⟨W0, hW0⟩ : ∃ W0, ((w.alloc (Obj.cells f.cs 66)).alloc (Obj.cells #[.int .i64 v.k, .int .u64 v.n, .string v.s, .slice v.a v.l.length v.c, .int .i64 v.e] 42)).alloc (Obj.cells #[.int .i64 0, .int .u64 0, .string ⟨#[]⟩, .slice none 0 0, .int .i64 0] 42) = W0 := ⟨_, rfl⟩
  have hs0 : W0.heap.size = w.heap.size + 3 := by rw [← hW0]; simp
  have hb0 : Below w.heap.size w W0 := by rw [← hW0]; exact bel1 (bel2 (Below.refl _ _) (Nat.le_refl _) _ _) (by simp; omega) _
  have xf : BoxF W0 w.heap.size f := by rw [← hW0]; exact heap_past (heap_past (World.alloc_heap_new _ _) _) _
  have xv : BoxV W0 (w.heap.size + 1) v := by rw [← hW0]; exact heap_past (heap_at1 _ _ _) _
  have xz : BoxV W0 (w.heap.size + 1 + 1) nul := by rw [← hW0]; exact heap_at2 _ _ _ _
  have HL := hide (fun W => lacks_any f v W)
  rw [hm, hk] at HL
  have HK0 := hide hk
  clear hk hm
  rw [Fd.val_eq, V.val_eq] at HL ⊢
  have HW0 := hide hW0
  unfold Fd.cs at HW0
  clear hW0
  rw [VN_nul]
  go_enter Tryz.func106, Tryz.ntmps106
  go_wp2_with fail
  rw [HW0.out]
  refine (HL.out _).mono ?_
  rintro e1 w1 ⟨rfl, hb1⟩
  have hs1 := hb1.size
  have xz1 := xz.below hb1 (by omega)
  obtain ⟨z0, z1, z2, z3, z4⟩ := xz1.cells
  have fz := (show Blk w1 (w.heap.size + 1 + 1) 42 5 from ⟨_, xz1, rfl⟩).free
  have hz2 : w.heap.size + 1 + 1 < w1.heap.size := by omega
  have hbw : Below w.heap.size w w1 := belOn hb0 (by omega) hb1
  have hbz : Below w.heap.size w _ := put5_below (y := nul) (o := 0) (b := w.heap.size + 1 + 1) hbw (by omega)
  rw [← put5_eq] at hbz
  have HBZ := hide hbz
  clear xz1 hbz
  simp only [decide_true, Bool.and_true]
  go_wp2
  exact bodyPost_ret (v := .tuple #[.agg #[.int .i64 0, .int .u64 0, .string ⟨#[]⟩, .slice none 0 0, .int .i64 0], .int .i64 72]) (by simp [results, Tryz.results106, go_sem, z0, z1, z2, z3, z4]) rfl ⟨rfl, HBZ.out⟩
set_option maxRecDepth 100000 in
set_option maxHeartbeats 4000000 in
/-- a value that is read so -/
theorem filled_hund (f : Fd) (v : V) (n₀ : Nat) (R : T × Int) (h0 : v.k ≠ 0) (w : World) (hn : n₀ ≤ w.heap.size)
    (hR : ∀ W, Calls Tryz.prog 126 #[f.val] W fun e w' => e = .returned (.func (.func 134) #[] #[]) ∧ Below W.heap.size W w')
    (hX : ∀ (P : Nat) (W : World), Below w.heap.size w W →  Calls Tryz.prog 134 #[v.val] W (ValPost n₀ R W)) :
    Calls Tryz.prog 106 #[f.val, v.val] w (ValPost n₀ R w) := by
  obtain ⟨W0, hW0⟩ : ∃ W0, ((w.alloc (Obj.cells f.cs 66)).alloc (Obj.cells #[.int .i64 v.k, .int .u64 v.n, .string v.s, .slice v.a v.l.length v.c, .int .i64 v.e] 42)).alloc (Obj.cells #[.int .i64 0, .int .u64 0, .string ⟨#[]⟩, .slice none 0 0, .int .i64 0] 42) = W0 := ⟨_, rfl⟩
  have hs0 : W0.heap.size = w.heap.size + 3 := by rw [← hW0]; simp
  have hb0 : Below w.heap.size w W0 := by rw [← hW0]; exact bel1 (bel2 (Below.refl _ _) (Nat.le_refl _) _ _) (by simp; omega) _
  have xf : BoxF W0 w.heap.size f := by rw [← hW0]; exact heap_past (heap_past (World.alloc_heap_new _ _) _) _
  have xv : BoxV W0 (w.heap.size + 1) v := by rw [← hW0]; exact heap_past (heap_at1 _ _ _) _
  have xz : BoxV W0 (w.heap.size + 1 + 1) nul := by rw [← hW0]; exact heap_at2 _ _ _ _
  have HL := hide (fun W => lacks_any f v W)
  rw [Fd.val_eq, V.val_eq] at HL ⊢
  have HW0 := hide hW0
  unfold Fd.cs at HW0
  have HR := hide hR
  have HX := hide hX
  rw [Fd.val_eq] at HR
  rw [V.val_eq] at HX
  have hlk : (f.must && decide (v.k = 0)) = false := by rw [decide_eq_false h0, Bool.and_false]
  rw [hlk] at HL
  have hv0 : (v.k == 0) = false := by simpa using h0
  have h0' : ¬ v.k = 0 := h0
  clear hW0 hlk h0 hR hX
  go_enter Tryz.func106, Tryz.ntmps106
  go_wp2_with fail
  rw [HW0.out]
  refine (HL.out _).mono ?_
  rintro e1 w1 ⟨rfl, hb1⟩
  have hs1 := hb1.size
  obtain ⟨f0, f1, f2, f3, f4, f5, f6, f7, f8⟩ := (xf.below hb1 (by omega)).cells
  obtain ⟨v0, v1, v2, v3, v4⟩ := (xv.below hb1 (by omega)).cells
  have hz2 : w.heap.size + 1 + 1 < w1.heap.size := by omega
  have hz3 : w.heap.size + 1 < w1.heap.size := by omega
  have hz4 : w.heap.size < w1.heap.size := by omega
  have HB1 := hide hb1
  have hmx : Tryz.prog.follows .mixedOrders = true := by kernel_rfl
  clear hb1
  go_wp2_with fail
  go_region_with (first | (go_at_call 126; refine Calls.mono (HR.out _) ?_; rintro e2 w2 ⟨rfl, hb2⟩; have HB2 : Hid (Below W0.heap.size W0 w2) := HB1.out.drew.trans (hb2.mono HB1.out.drew.size); have hs2 := HB2.out.size; have hs3 := hb2.size; obtain ⟨g0, g1, g2, g3, g4⟩ := (xv.below HB2.out (by omega)).cells; clear hb2) | (go_at_call 134; have HB3 := HB2; refine Calls.mono (HX.out 0 _ (belOn hb0 (by omega) HB2.out)) ?_; rintro e3 w3 ⟨y, rfl, HY, hb3⟩; have HS3 := hide hb3.size; have HB4 : Hid (Below W0.heap.size W0 w3) := belOn HB3.out HB3.out.size hb3; clear hb3; have hs5 := HB4.out.size; have xz1 := xz.below HB4.out (by omega); obtain ⟨z0, z1, z2, z3, z4⟩ := xz1.cells; have fz := (show Blk w3 (w.heap.size + 1 + 1) 42 5 from ⟨_, xz1, rfl⟩).free; have hz5 : w.heap.size + 1 + 1 < w3.heap.size := (by omega); clear xz1; unfold VN))
  all_goals
    have hend : ValPost n₀ R w (VN y R.2) (put5 w3 (w.heap.size + 1 + 1) 0 y) := ⟨y, rfl, ⟨HY.out.1, HY.out.2.wider (fun b hb => put5_same _ _ _ _ _ (by omega)) (by omega) (by rw [put5_size]; exact Nat.le_refl _)⟩, put5_below (belOn hb0 (by omega) HB4.out) (by omega)⟩
    rw [← put5_eq] at hend
    have HEND := hide hend
    unfold VN at HEND
    clear hend
    go_wp2
    exact bodyPost_ret (v := .tuple #[.agg #[.int .i64 y.k, .int .u64 y.n, .string y.s, .slice y.a y.l.length y.c, .int .i64 y.e], .int .i64 R.2]) (by simp [results, Tryz.results106, go_sem, z0, z1, z2, z3, z4]) rfl HEND.out
set_option maxRecDepth 100000 in
set_option maxHeartbeats 4000000 in
/-- a value that is read so -/
theorem filled_syms (f : Fd) (v : V) (n₀ : Nat) (R : T × Int) (h0 : v.k ≠ 0) (w : World) (hn : n₀ ≤ w.heap.size)
    (hR : ∀ W, Calls Tryz.prog 126 #[f.val] W fun e w' => e = .returned (.func (.func 135) #[] #[]) ∧ Below W.heap.size W w')
    (hX : ∀ (P : Nat) (W : World), Below w.heap.size w W →  Calls Tryz.prog 135 #[v.val] W (ValPost n₀ R W)) :
    Calls Tryz.prog 106 #[f.val, v.val] w (ValPost n₀ R w) := by
  obtain ⟨W0, hW0⟩ : ∃ W0, ((w.alloc (Obj.cells f.cs 66)).alloc (Obj.cells #[.int .i64 v.k, .int .u64 v.n, .string v.s, .slice v.a v.l.length v.c, .int .i64 v.e] 42)).alloc (Obj.cells #[.int .i64 0, .int .u64 0, .string ⟨#[]⟩, .slice none 0 0, .int .i64 0] 42) = W0 := ⟨_, rfl⟩
  have hs0 : W0.heap.size = w.heap.size + 3 := by rw [← hW0]; simp
  have hb0 : Below w.heap.size w W0 := by rw [← hW0]; exact bel1 (bel2 (Below.refl _ _) (Nat.le_refl _) _ _) (by simp; omega) _
  have xf : BoxF W0 w.heap.size f := by rw [← hW0]; exact heap_past (heap_past (World.alloc_heap_new _ _) _) _
  have xv : BoxV W0 (w.heap.size + 1) v := by rw [← hW0]; exact heap_past (heap_at1 _ _ _) _
  have xz : BoxV W0 (w.heap.size + 1 + 1) nul := by rw [← hW0]; exact heap_at2 _ _ _ _
  have HL := hide (fun W => lacks_any f v W)
  rw [Fd.val_eq, V.val_eq] at HL ⊢
  have HW0 := hide hW0
  unfold Fd.cs at HW0
  have HR := hide hR
  have HX := hide hX
  rw [Fd.val_eq] at HR
  rw [V.val_eq] at HX
  have hlk : (f.must && decide (v.k = 0)) = false := by rw [decide_eq_false h0, Bool.and_false]
  rw [hlk] at HL
  have hv0 : (v.k == 0) = false := by simpa using h0
  have h0' : ¬ v.k = 0 := h0
  clear hW0 hlk h0 hR hX
  go_enter Tryz.func106, Tryz.ntmps106
  go_wp2_with fail
  rw [HW0.out]
  refine (HL.out _).mono ?_
  rintro e1 w1 ⟨rfl, hb1⟩
  have hs1 := hb1.size
  obtain ⟨f0, f1, f2, f3, f4, f5, f6, f7, f8⟩ := (xf.below hb1 (by omega)).cells
  obtain ⟨v0, v1, v2, v3, v4⟩ := (xv.below hb1 (by omega)).cells
  have hz2 : w.heap.size + 1 + 1 < w1.heap.size := by omega
  have hz3 : w.heap.size + 1 < w1.heap.size := by omega
  have hz4 : w.heap.size < w1.heap.size := by omega
  have HB1 := hide hb1
  have hmx : Tryz.prog.follows .mixedOrders = true := by kernel_rfl
  clear hb1
  go_wp2_with fail
  go_region_with (first | (go_at_call 126; refine Calls.mono (HR.out _) ?_; rintro e2 w2 ⟨rfl, hb2⟩; have HB2 : Hid (Below W0.heap.size W0 w2) := HB1.out.drew.trans (hb2.mono HB1.out.drew.size); have hs2 := HB2.out.size; have hs3 := hb2.size; obtain ⟨g0, g1, g2, g3, g4⟩ := (xv.below HB2.out (by omega)).cells; clear hb2) | (go_at_call 135; have HB3 := HB2; refine Calls.mono (HX.out 0 _ (belOn hb0 (by omega) HB2.out)) ?_; rintro e3 w3 ⟨y, rfl, HY, hb3⟩; have HS3 := hide hb3.size; have HB4 : Hid (Below W0.heap.size W0 w3) := belOn HB3.out HB3.out.size hb3; clear hb3; have hs5 := HB4.out.size; have xz1 := xz.below HB4.out (by omega); obtain ⟨z0, z1, z2, z3, z4⟩ := xz1.cells; have fz := (show Blk w3 (w.heap.size + 1 + 1) 42 5 from ⟨_, xz1, rfl⟩).free; have hz5 : w.heap.size + 1 + 1 < w3.heap.size := (by omega); clear xz1; unfold VN))
  all_goals
    have hend : ValPost n₀ R w (VN y R.2) (put5 w3 (w.heap.size + 1 + 1) 0 y) := ⟨y, rfl, ⟨HY.out.1, HY.out.2.wider (fun b hb => put5_same _ _ _ _ _ (by omega)) (by omega) (by rw [put5_size]; exact Nat.le_refl _)⟩, put5_below (belOn hb0 (by omega) HB4.out) (by omega)⟩
    rw [← put5_eq] at hend
    have HEND := hide hend
    unfold VN at HEND
    clear hend
    go_wp2
    exact bodyPost_ret (v := .tuple #[.agg #[.int .i64 y.k, .int .u64 y.n, .string y.s, .slice y.a y.l.length y.c, .int .i64 y.e], .int .i64 R.2]) (by simp [results, Tryz.results106, go_sem, z0, z1, z2, z3, z4]) rfl HEND.out
set_option maxRecDepth 100000 in
set_option maxHeartbeats 4000000 in
/-- a value that is read so -/
theorem filled_comp (f : Fd) (v : V) (n₀ : Nat) (R : T × Int) (h0 : v.k ≠ 0) (w : World) (hn : n₀ ≤ w.heap.size)
    (hR : ∀ W, Calls Tryz.prog 126 #[f.val] W fun e w' => e = .returned (.func (.func 136) #[] #[.pointer (some ⟨W.heap.size, 0, none⟩)]) ∧ Below W.heap.size W w' ∧ w'.cell? ⟨W.heap.size, 2, none⟩ = some (.slice f.ka f.kl f.kc))
    (hX : ∀ (P : Nat) (W : World), Below w.heap.size w W → P < W.heap.size → W.cell? ⟨P, 2, none⟩ = some (.slice f.ka f.kl f.kc) → Calls Tryz.prog 136 #[v.val, .pointer (some ⟨P, 0, none⟩)] W (ValPost n₀ R W)) :
    Calls Tryz.prog 106 #[f.val, v.val] w (ValPost n₀ R w) := by
  obtain ⟨W0, hW0⟩ : ∃ W0, ((w.alloc (Obj.cells f.cs 66)).alloc (Obj.cells #[.int .i64 v.k, .int .u64 v.n, .string v.s, .slice v.a v.l.length v.c, .int .i64 v.e] 42)).alloc (Obj.cells #[.int .i64 0, .int .u64 0, .string ⟨#[]⟩, .slice none 0 0, .int .i64 0] 42) = W0 := ⟨_, rfl⟩
  have hs0 : W0.heap.size = w.heap.size + 3 := by rw [← hW0]; simp
  have hb0 : Below w.heap.size w W0 := by rw [← hW0]; exact bel1 (bel2 (Below.refl _ _) (Nat.le_refl _) _ _) (by simp; omega) _
  have xf : BoxF W0 w.heap.size f := by rw [← hW0]; exact heap_past (heap_past (World.alloc_heap_new _ _) _) _
  have xv : BoxV W0 (w.heap.size + 1) v := by rw [← hW0]; exact heap_past (heap_at1 _ _ _) _
  have xz : BoxV W0 (w.heap.size + 1 + 1) nul := by rw [← hW0]; exact heap_at2 _ _ _ _
  have HL := hide (fun W => lacks_any f v W)
  rw [Fd.val_eq, V.val_eq] at HL ⊢
  have HW0 := hide hW0
  unfold Fd.cs at HW0
  have HR := hide hR
  have HX := hide hX
  rw [Fd.val_eq] at HR
  rw [V.val_eq] at HX
  have hlk : (f.must && decide (v.k = 0)) = false := by rw [decide_eq_false h0, Bool.and_false]
  rw [hlk] at HL
  have hv0 : (v.k == 0) = false := by simpa using h0
  have h0' : ¬ v.k = 0 := h0
  clear hW0 hlk h0 hR hX
  go_enter Tryz.func106, Tryz.ntmps106
  go_wp2_with fail
  rw [HW0.out]
  refine (HL.out _).mono ?_
  rintro e1 w1 ⟨rfl, hb1⟩
  have hs1 := hb1.size
  obtain ⟨f0, f1, f2, f3, f4, f5, f6, f7, f8⟩ := (xf.below hb1 (by omega)).cells
  obtain ⟨v0, v1, v2, v3, v4⟩ := (xv.below hb1 (by omega)).cells
  have hz2 : w.heap.size + 1 + 1 < w1.heap.size := by omega
  have hz3 : w.heap.size + 1 < w1.heap.size := by omega
  have hz4 : w.heap.size < w1.heap.size := by omega
  have HB1 := hide hb1
  have hmx : Tryz.prog.follows .mixedOrders = true := by kernel_rfl
  clear hb1
  go_wp2_with fail
  go_region_with (first | (go_at_call 126; refine Calls.mono (HR.out _) ?_; rintro e2 w2 ⟨rfl, hb2, hcx⟩; have HB2 : Hid (Below W0.heap.size W0 w2) := HB1.out.drew.trans (hb2.mono HB1.out.drew.size); have hs2 := HB2.out.size; have hs3 := hb2.size; obtain ⟨g0, g1, g2, g3, g4⟩ := (xv.below HB2.out (by omega)).cells; have HC := hide hcx; clear hb2 hcx) | (go_at_call 136; have HB3 := HB2; refine Calls.mono (HX.out _ _ (belOn hb0 (by omega) HB2.out) (World.block_lt_of_cell? _ _ HC.out) HC.out) ?_; rintro e3 w3 ⟨y, rfl, HY, hb3⟩; have HS3 := hide hb3.size; have HB4 : Hid (Below W0.heap.size W0 w3) := belOn HB3.out HB3.out.size hb3; clear hb3; have hs5 := HB4.out.size; have xz1 := xz.below HB4.out (by omega); obtain ⟨z0, z1, z2, z3, z4⟩ := xz1.cells; have fz := (show Blk w3 (w.heap.size + 1 + 1) 42 5 from ⟨_, xz1, rfl⟩).free; have hz5 : w.heap.size + 1 + 1 < w3.heap.size := (by omega); clear xz1; unfold VN))
  all_goals
    have hend : ValPost n₀ R w (VN y R.2) (put5 w3 (w.heap.size + 1 + 1) 0 y) := ⟨y, rfl, ⟨HY.out.1, HY.out.2.wider (fun b hb => put5_same _ _ _ _ _ (by omega)) (by omega) (by rw [put5_size]; exact Nat.le_refl _)⟩, put5_below (belOn hb0 (by omega) HB4.out) (by omega)⟩
    rw [← put5_eq] at hend
    have HEND := hide hend
    unfold VN at HEND
    clear hend
    go_wp2
    exact bodyPost_ret (v := .tuple #[.agg #[.int .i64 y.k, .int .u64 y.n, .string y.s, .slice y.a y.l.length y.c, .int .i64 y.e], .int .i64 R.2]) (by simp [results, Tryz.results106, go_sem, z0, z1, z2, z3, z4]) rfl HEND.out
set_option maxRecDepth 100000 in
set_option maxHeartbeats 4000000 in
/-- a value that is read so -/
theorem filled_flat3 (f : Fd) (v : V) (n₀ : Nat) (R : T × Int) (h0 : v.k ≠ 0) (w : World) (hn : n₀ ≤ w.heap.size)
    (hR : ∀ W, Calls Tryz.prog 126 #[f.val] W fun e w' => e = .returned (.func (.func 139) #[] #[.pointer (some ⟨W.heap.size, 0, none⟩)]) ∧ Below W.heap.size W w' ∧ w'.cell? ⟨W.heap.size, 1, none⟩ = some (.int .i64 f.ty))
    (hX : ∀ (P : Nat) (W : World), Below w.heap.size w W → P < W.heap.size → W.cell? ⟨P, 1, none⟩ = some (.int .i64 f.ty) → Calls Tryz.prog 139 #[v.val, .pointer (some ⟨P, 0, none⟩)] W (ValPost n₀ R W)) :
    Calls Tryz.prog 106 #[f.val, v.val] w (ValPost n₀ R w) := by
  obtain ⟨W0, hW0⟩ : ∃ W0, ((w.alloc (Obj.cells f.cs 66)).alloc (Obj.cells #[.int .i64 v.k, .int .u64 v.n, .string v.s, .slice v.a v.l.length v.c, .int .i64 v.e] 42)).alloc (Obj.cells #[.int .i64 0, .int .u64 0, .string ⟨#[]⟩, .slice none 0 0, .int .i64 0] 42) = W0 := ⟨_, rfl⟩
  have hs0 : W0.heap.size = w.heap.size + 3 := by rw [← hW0]; simp
  have hb0 : Below w.heap.size w W0 := by rw [← hW0]; exact bel1 (bel2 (Below.refl _ _) (Nat.le_refl _) _ _) (by simp; omega) _
  have xf : BoxF W0 w.heap.size f := by rw [← hW0]; exact heap_past (heap_past (World.alloc_heap_new _ _) _) _
  have xv : BoxV W0 (w.heap.size + 1) v := by rw [← hW0]; exact heap_past (heap_at1 _ _ _) _
  have xz : BoxV W0 (w.heap.size + 1 + 1) nul := by rw [← hW0]; exact heap_at2 _ _ _ _
  have HL := hide (fun W => lacks_any f v W)
  rw [Fd.val_eq, V.val_eq] at HL ⊢
  have HW0 := hide hW0
  unfold Fd.cs at HW0
  have HR := hide hR
  have HX := hide hX
  rw [Fd.val_eq] at HR
  rw [V.val_eq] at HX
  have hlk : (f.must && decide (v.k = 0)) = false := by rw [decide_eq_false h0, Bool.and_false]
  rw [hlk] at HL
  have hv0 : (v.k == 0) = false := by simpa using h0
  have h0' : ¬ v.k = 0 := h0
  clear hW0 hlk h0 hR hX
  go_enter Tryz.func106, Tryz.ntmps106
  go_wp2_with fail
  rw [HW0.out]
  refine (HL.out _).mono ?_
  rintro e1 w1 ⟨rfl, hb1⟩
  have hs1 := hb1.size
  obtain ⟨f0, f1, f2, f3, f4, f5, f6, f7, f8⟩ := (xf.below hb1 (by omega)).cells
  obtain ⟨v0, v1, v2, v3, v4⟩ := (xv.below hb1 (by omega)).cells
  have hz2 : w.heap.size + 1 + 1 < w1.heap.size := by omega
  have hz3 : w.heap.size + 1 < w1.heap.size := by omega
  have hz4 : w.heap.size < w1.heap.size := by omega
  have HB1 := hide hb1
  have hmx : Tryz.prog.follows .mixedOrders = true := by kernel_rfl
  clear hb1
  go_wp2_with fail
  go_region_with (first | (go_at_call 126; refine Calls.mono (HR.out _) ?_; rintro e2 w2 ⟨rfl, hb2, hcx⟩; have HB2 : Hid (Below W0.heap.size W0 w2) := HB1.out.drew.trans (hb2.mono HB1.out.drew.size); have hs2 := HB2.out.size; have hs3 := hb2.size; obtain ⟨g0, g1, g2, g3, g4⟩ := (xv.below HB2.out (by omega)).cells; have HC := hide hcx; clear hb2 hcx) | (go_at_call 139; have HB3 := HB2; refine Calls.mono (HX.out _ _ (belOn hb0 (by omega) HB2.out) (World.block_lt_of_cell? _ _ HC.out) HC.out) ?_; rintro e3 w3 ⟨y, rfl, HY, hb3⟩; have HS3 := hide hb3.size; have HB4 : Hid (Below W0.heap.size W0 w3) := belOn HB3.out HB3.out.size hb3; clear hb3; have hs5 := HB4.out.size; have xz1 := xz.below HB4.out (by omega); obtain ⟨z0, z1, z2, z3, z4⟩ := xz1.cells; have fz := (show Blk w3 (w.heap.size + 1 + 1) 42 5 from ⟨_, xz1, rfl⟩).free; have hz5 : w.heap.size + 1 + 1 < w3.heap.size := (by omega); clear xz1; unfold VN))
  all_goals
    have hend : ValPost n₀ R w (VN y R.2) (put5 w3 (w.heap.size + 1 + 1) 0 y) := ⟨y, rfl, ⟨HY.out.1, HY.out.2.wider (fun b hb => put5_same _ _ _ _ _ (by omega)) (by omega) (by rw [put5_size]; exact Nat.le_refl _)⟩, put5_below (belOn hb0 (by omega) HB4.out) (by omega)⟩
    rw [← put5_eq] at hend
    have HEND := hide hend
    unfold VN at HEND
    clear hend
    go_wp2
    exact bodyPost_ret (v := .tuple #[.agg #[.int .i64 y.k, .int .u64 y.n, .string y.s, .slice y.a y.l.length y.c, .int .i64 y.e], .int .i64 R.2]) (by simp [results, Tryz.results106, go_sem, z0, z1, z2, z3, z4]) rfl HEND.out
/-- filled: any field, any value -/
theorem filled_all (re : T → T × Int) (f : Fd) (s : FS) (v : V) (n₀ : Nat) (w : World) (hn : n₀ ≤ w.heap.size) (hl : Lies n₀ w v) (hf : FdIn 0 w f s) (hok : okFS s = true) (hre : s.ty = 102 → v.k ≠ 0 → RepOk re v) :
    Calls Tryz.prog 106 #[f.val, v.val] w (ValPost n₀ (fillT re s v.t) w) := by
  obtain ⟨hfn, hft, hfm, hfd, hkl, hkc, hka⟩ := hf
  unfold fillT
  by_cases hk : v.k = 0
  · rw [if_pos (by rw [k_t]; exact hk)]
    cases hm : s.must
    · rw [if_neg (by simp)]
      refine (filled_null f v hk (hfm.trans hm) w).mono ?_
      rintro e w' ⟨rfl, hb⟩
      exact ⟨f.d, rfl, ⟨by rw [hfd]; exact fs_d_t s, by rw [hfd]; exact (okFS_lies hok n₀ w').wide⟩, hb⟩
    · rw [if_pos rfl]
      refine (filled_must f v hk (hfm.trans hm) w).mono ?_
      rintro e w' ⟨rfl, hb⟩
      exact valpost_nul hb
  · rw [if_neg (by rw [k_t]; exact hk)]
    by_cases h100 : s.ty = 100
    · rw [if_pos h100]
      refine filled_hund f v n₀ _ hk w hn (fun W => reader_hund f (hft.trans h100) W) (fun _ W hW => ?_)
      refine (reader1_any v W).mono ?_
      rintro e w' ⟨rfl, hb⟩
      exact valpost_self (hl.keep hW hn) (by have := hW.size; omega) hb
    rw [if_neg h100]
    by_cases h101 : s.ty = 101
    · rw [if_pos h101]
      exact filled_syms f v n₀ _ hk w hn (fun W => reader_syms f (hft.trans h101) W) (fun _ W hW => symbols_any v n₀ W (by have := hW.size; omega) (hl.keep hW hn))
    rw [if_neg h101]
    by_cases h102 : s.ty = 102
    · rw [if_pos h102]
      have hks : s.ks.length ≤ 1000 := by
        unfold okFS at hok
        simp only [Bool.and_eq_true, decide_eq_true_eq] at hok
        omega
      refine filled_comp f v n₀ _ hk w hn (fun W => reader_comp f (hft.trans h102) W) (fun P W hW hP hc => ?_)
      rw [hkl, hkc] at hc
      refine reader2_any re s.ks hks P f.ka v (hre h102 hk) n₀ W (by have := hW.size; omega) (hl.keep hW hn) hP hc (fun h0 => ?_)
      obtain ⟨b, e, _, h2, h3⟩ := hka h0
      exact ⟨b, e, by have := hW.size; omega, (hW.block b h2).trans h3⟩
    rw [if_neg h102]
    have hr := fun W => reader_flat f (by rw [hft]; exact h100) (by rw [hft]; exact h101) (by rw [hft]; exact h102) W
    by_cases hty : v.k = s.ty
    · rw [if_pos (by rw [k_t]; exact hty)]
      refine filled_flat3 f v n₀ _ hk w hn hr (fun P W hW hP hc => ?_)
      refine (reader3_any P f.ty v W hP hc (hty.trans hft.symm)).mono ?_
      rintro e w' ⟨rfl, hb⟩
      exact valpost_self (hl.keep hW hn) (by have := hW.size; omega) hb
    · rw [if_neg (by rw [k_t]; exact hty)]
      refine filled_flat3 f v n₀ _ hk w hn hr (fun P W hW hP hc => ?_)
      refine (reader3_bad P f.ty v W hP hc (fun h => hty (h.trans hft))).mono ?_
      rintro e w' ⟨rfl, hb⟩
      exact valpost_nul hb
end Go.Proofs.YtgldcchleoklcaaGreatDoor
namespace Go.Proofs.YtgldcchleoklcaaGreatDoor

open Go.RowKit
set_option linter.unusedVariables false
set_option linter.unusedSimpArgs false
/-- what laid hands back -/
def LaidQ (Q : Nat → Prop) (kind : Int) (l ds : List V) (w : World) (e : Ending) (w' : World) : Prop := ∃ (a2 a3 : Option Addr) (c2 c3 : Nat), e = .returned (.agg #[.int .i64 24, .int .u64 0, .string ⟨#[]⟩, .slice a2 2 c2, .int .i64 0]) ∧
  Hid (LiesIn (fun q => Q q ∨ (w.heap.size ≤ q ∧ q < w'.heap.size)) w' (.of 24 0 ⟨#[]⟩ a2 c2 0 [leaf 5 kind ⟨#[]⟩, .of 21 0 ⟨#[]⟩ a3 c3 0 ((outs l ds).take (saidN l ds l.length))])) ∧ Below w.heap.size w w'
set_option maxRecDepth 100000 in
set_option maxHeartbeats 8000000 in
theorem laid_all (Q0 : Nat → Prop) (kind : Int) (fs0 : List FS) (hft : ftab kind = some fs0) (l : List V) (hd0 : fs0.length = l.length) (b c : Nat) (hc : l.length ≤ c) (w : World) (hn : ∀ q, Q0 q → q < w.heap.size) (hlt : b < w.heap.size) (hr : Row w b 0 l)
    (hls : ∀ x ∈ l, LiesIn Q0 w x) :
    Calls Tryz.prog 99 #[.agg #[.int .i64 kind, .slice (some ⟨b, 0, none⟩) l.length c]] w (LaidQ Q0 kind l (fs0.map FS.d) w) := by
  have hok := ftab_ok hft
  have hkp := ftab_pos hft
  have hcc : l.length ≤ 1000 := by omega
  have hk0 : 0 ≤ kind := by omega
  have hk1 : kind ≤ 9223372036854775807 := by omega
  have hF : ∀ W, Below w.heap.size w W → Calls Tryz.prog 8 #[.int .i64 kind] W fun e w' => ∃ (a : Option Addr) (fs : List Fd), e = .returned (.tuple #[.slice a l.length l.length, .bool true]) ∧ Hid (FieldsIn fs0 W a fs w') ∧ Below W.heap.size W w' := fun W _ => fields_some hft hd0 W
  obtain ⟨ds, hds0⟩ : ∃ ds, fs0.map FS.d = ds := ⟨_, rfl⟩
  have hd : ds.length = l.length := by rw [← hds0, List.length_map]; exact hd0
  have hds : ∀ d ∈ ds, ∀ W, Lies w.heap.size W d := fun d hd W => by
    rw [← hds0] at hd
    obtain ⟨f, hf, rfl⟩ := List.mem_map.1 hd
    exact okFS_lies (hok.2 f hf) _ _
  have HD0 := hide hds0
  have HL0 := hide hd0
  rw [hds0]
  clear hds0 hd0 hok hkp hft
  obtain ⟨W0, hW0⟩ : ∃ W0, (w.alloc (Obj.cells #[.int .i64 kind, .slice (some ⟨b, 0, none⟩) l.length c] 33)).alloc (Obj.cells #[.int .i64 0, .int .u64 0, .string ⟨#[]⟩, .slice none 0 0, .int .i64 0] 42) = W0 := ⟨_, rfl⟩
  have hs0 : W0.heap.size = w.heap.size + 2 := by rw [← hW0]; simp
  have hb0 : Below w.heap.size w W0 := by rw [← hW0]; exact bel2 (Below.refl _ _) (Nat.le_refl _) _ _
  have xr : BoxR W0 w.heap.size kind (some ⟨b, 0, none⟩) l.length c := by rw [← hW0]; exact heap_past (World.alloc_heap_new _ _) _
  have xz : BoxV W0 (w.heap.size + 1) (.of 0 0 ⟨#[]⟩ none 0 0 []) := by
    rw [← hW0]
    unfold BoxV
    rw [V.k_of, V.n_of, V.s_of, V.a_of, V.l_of, V.c_of, V.e_of]
    exact heap_at1 _ _ _
  have HF := hide hF
  have HR := hide hr
  have HLS := hide hls
  have HDS := hide hds
  have HW0 := hide hW0
  have HD := hide hd
  clear hW0 hF hr hls hds hd
  go_enter Tryz.func99, Tryz.ntmps99
  go_wp2_with fail
  rw [HW0.out]
  clear HW0
  refine (HF.out _ hb0).mono ?_
  rintro e1 w1 ⟨af, fs, rfl, HFS, hb1⟩
  have hs1 := hb1.size
  have hbw1 : Below w.heap.size w w1 := belOn hb0 (by omega) hb1
  have hfl : fs.length = l.length := HFS.out.1.trans HL0.out
  have hfra : FRA w1 af fs 0 w1.heap.size := fun h0 => by
    obtain ⟨b', e', _, h2, h3⟩ := HFS.out.2.1 h0
    exact ⟨b', e', Nat.zero_le _, h2, h3⟩
  have hfd : ∀ i (h : i < fs.length) (h' : i < ds.length), fs[i].d = ds[i] := fun i h h' => by
    have hi0 : i < fs0.length := by rw [HL0.out, ← hfl]; exact h
    have h4 := (HFS.out.2.2 i h hi0).2.2.2.1
    have h5 : ds[i] = (fs0.map FS.d)[i]'(by rw [List.length_map]; exact hi0) := by simp only [HD0.out]
    rw [h4, h5, List.getElem_map]
  have HFR := hide hfra
  have HFD := hide hfd
  have HFL := hide hfl
  clear hfra hfd hfl HFS
  have hmk := run_makeV l.length l.length (Nat.le_refl _) (by omega)
  go_wp2
  obtain ⟨W1, hW1⟩ : ∃ W1, w1.alloc (Obj.cells (madeCells zeroV (l.length * 5)) 42) = W1 := ⟨_, rfl⟩
  have hsW1 : W1.heap.size = w1.heap.size + 1 := by rw [← hW1]; simp
  have hbW1 : Below w.heap.size w W1 := by rw [← hW1]; exact bel1 hbw1 (by omega) _
  have hb01 : Below W0.heap.size W0 W1 := by rw [← hW1]; exact bel1 hb1 (by omega) _
  have hk1' : Blk W1 w1.heap.size 42 (l.length * 5) := by rw [← hW1]; exact Blk.made _ _ _ _
  have hrf1 : RowF W1 w1.heap.size l.length (gOuts l ds 0) := by
    rw [← hW1]
    exact (RowF.made w1 l.length).eq (fun j hj => by simp [gOuts])
  have hfr1 : FRA W1 af fs 0 w1.heap.size := by rw [← hW1]; exact HFR.out.below (bel1 (Below.refl _ _) (Nat.le_refl _) _) (Nat.le_refl _)
  rw [hW1]
  have HFR1 := hide hfr1
  have HK1 := hide hk1'
  have HRF1 := hide hrf1
  clear hW1 hmk hfr1 hk1' hrf1 HFR
  go_loopw [20, 6] (fun u s wr => ∃ (i : Nat), u = .int .i64 i ∧ s = .int .i64 (saidN l ds i : Nat) ∧ i ≤ l.length ∧ Below W0.heap.size W0 wr ∧ W1.heap.size ≤ wr.heap.size ∧ Hid (FRA wr af fs 0 w1.heap.size) ∧ Hid (Blk wr w1.heap.size 42 (l.length * 5)) ∧ Hid (RowF wr w1.heap.size l.length (gOuts l ds i))) (fun u _ _ => l.length + 1 - (intOf u).toNat)
  case atStart => exact ⟨0, rfl, rfl, Nat.zero_le _, hb01, Nat.le_refl _, HFR1, HK1, HRF1⟩
  case round =>
    obtain ⟨i, rfl, rfl, hi, hb, hsz, HFRr, HKr, HRFr⟩ := hrel
    have hsb := hb.size
    have hbw : Below w.heap.size w wr := belOn hb0 (by omega) hb
    have hsd := saidN_le l ds i
    by_cases hil : i < l.length
    · have hfi : i < fs.length := by rw [HFL.out]; exact hil
      have hdi : i < ds.length := by rw [HD.out]; exact hil
      have hF0 : (fs[i]'hfi).d = ds[i]'hdi := HFD.out i hfi hdi
      obtain ⟨bf, rfl, _, hbf2, hfrr⟩ := HFRr.out (by omega)
      obtain ⟨c0, c1, c2, c3, c4, c5, c6, c7, c8⟩ := hfrr.cells i hfi
      clear hfrr
      generalize (fs[i]'hfi) = F at c0 c1 c2 c3 c4 c5 c6 c7 c8 hF0
      obtain ⟨WR, hWR⟩ : ∃ WR, wr.alloc (.cells F.cs 66) = WR := ⟨_, rfl⟩
      have hsR : WR.heap.size = wr.heap.size + 1 := by rw [← hWR]; simp
      have hbR : Below w.heap.size w WR := by rw [← hWR]; exact bel1 hbw (by omega) _
      have hbR0 : Below W0.heap.size W0 WR := by rw [← hWR]; exact bel1 hb (by omega) _
      have hbRr : Below wr.heap.size wr WR := by rw [← hWR]; exact bel1 (Below.refl _ _) (Nat.le_refl _) _
      have xF : BoxF WR wr.heap.size F := by rw [← hWR]; exact World.alloc_heap_new _ _
      have HS : Hid (∀ W', Below WR.heap.size WR W' → (fun W' => W'.cell? ⟨w.heap.size, 1, none⟩ = some (.slice (some ⟨b, 0, none⟩) l.length c) ∧ W'.cell? ⟨b, i * 5, none⟩ = some (.int .i64 l[i].k) ∧ W'.cell? ⟨b, i * 5 + 1, none⟩ = some (.int .u64 l[i].n) ∧ W'.cell? ⟨b, i * 5 + 2, none⟩ = some (.string l[i].s) ∧ W'.cell? ⟨b, i * 5 + 3, none⟩ = some (.slice l[i].a l[i].l.length l[i].c) ∧ W'.cell? ⟨b, i * 5 + 4, none⟩ = some (.int .i64 l[i].e) ∧ W'.cell? ⟨wr.heap.size, 4, none⟩ = some (.int .i64 F.d.k) ∧ W'.cell? ⟨wr.heap.size, 5, none⟩ = some (.int .u64 F.d.n) ∧ W'.cell? ⟨wr.heap.size, 6, none⟩ = some (.string F.d.s) ∧ W'.cell? ⟨wr.heap.size, 7, none⟩ = some (.slice F.d.a F.d.l.length F.d.c) ∧ W'.cell? ⟨wr.heap.size, 8, none⟩ = some (.int .i64 F.d.e)) W') := by
        intro W' hb'
        have hbW := belOn hbR (by omega) hb'
        have hbW0 := belOn hbR0 (by omega) hb'
        obtain ⟨q0, q1, q2, q3, q4⟩ := (HR.out.below hbW hlt) i hil
        simp only [Nat.zero_add] at q0 q1 q2 q3 q4
        obtain ⟨g0, g1, g2, g3, g4, g5, g6, g7, g8⟩ := (xF.below hb' (by omega)).cells
        exact ⟨(xr.below hbW0 (by omega)).cells.2, q0, q1, q2, q3, q4, g4, g5, g6, g7, g8⟩
      have HB0 : Hid (Below WR.heap.size WR WR.drew) := (Below.refl _ _).drew
      have he := equal_any l[i] F.d w.heap.size WR.drew (by show _ ≤ WR.heap.size; omega) (LiesIn.keep (HLS.out _ (List.getElem_mem hil)) (fun b' hb' o' => hbR.drew.cell (p := ⟨b', o', none⟩) (hn b' hb')) hn) (by rw [hF0]; exact HDS.out _ (List.getElem_mem hdi) _)
      rw [V.val_eq, V.val_eq] at he
      have hst := saidN_step l ds i hil hdi
      have hge := gOuts_eq l ds i HD.out hil
      have hgn := gOuts_ne l ds i HD.out hil
      rw [← hF0] at hst hge hgn
      have HE := hide he
      have HST := hide hst
      have HGE := hide hge
      have HGN := hide hgn
      have HWR := hide hWR
      unfold Fd.cs at HWR
      have hbfr : bf < wr.heap.size := by omega
      clear he hst hge hgn hWR hF0
      generalize hg : eqT l[i].t F.d.t = r at HE HST HGE HGN
      clear hg
      go_wp2_with fail
      rw [HWR.out]
      go_region_held (fun W' => W'.cell? ⟨w.heap.size, 1, none⟩ = some (.slice (some ⟨b, 0, none⟩) l.length c) ∧ W'.cell? ⟨b, i * 5, none⟩ = some (.int .i64 l[i].k) ∧ W'.cell? ⟨b, i * 5 + 1, none⟩ = some (.int .u64 l[i].n) ∧ W'.cell? ⟨b, i * 5 + 2, none⟩ = some (.string l[i].s) ∧ W'.cell? ⟨b, i * 5 + 3, none⟩ = some (.slice l[i].a l[i].l.length l[i].c) ∧ W'.cell? ⟨b, i * 5 + 4, none⟩ = some (.int .i64 l[i].e) ∧ W'.cell? ⟨wr.heap.size, 4, none⟩ = some (.int .i64 F.d.k) ∧ W'.cell? ⟨wr.heap.size, 5, none⟩ = some (.int .u64 F.d.n) ∧ W'.cell? ⟨wr.heap.size, 6, none⟩ = some (.string F.d.s) ∧ W'.cell? ⟨wr.heap.size, 7, none⟩ = some (.slice F.d.a F.d.l.length F.d.c) ∧ W'.cell? ⟨wr.heap.size, 8, none⟩ = some (.int .i64 F.d.e)) (first | exact HS.out _ HB2.out | exact HS.out _ HB0.out) ((go_at_call 114; refine Calls.mono HE.out ?_; rintro e2 w2 ⟨rfl, hb2⟩; have HB2 : Hid (Below WR.heap.size WR w2) := belOn HB0.out HB0.out.size hb2; clear hb2))
      have hs2 := HB2.out.size
      have hbr2 : Below wr.heap.size wr w2 := belOn hbRr (by omega) HB2.out
      have hk2 : Blk w2 w1.heap.size 42 (l.length * 5) := HKr.out.below hbr2 (by omega)
      have hrf2 : RowF w2 w1.heap.size l.length (gOuts l ds i) := HRFr.out.below hbr2 (by omega)
      have hfr2 : FRA w2 (some ⟨bf, 0, none⟩) fs 0 w1.heap.size := HFRr.out.below hbr2 (by omega)
      have hb02 : Below W0.heap.size W0 w2 := belOn hbR0 (by omega) HB2.out
      cases r
      · obtain ⟨p0, p1, p2, p3, p4, p5, p6, p7, p8, p9, p10⟩ := HS.out _ HB2.out
        obtain ⟨z0, y0⟩ := hk2.some (i * 5) (by omega)
        obtain ⟨z1, y1⟩ := hk2.some (i * 5 + 1) (by omega)
        obtain ⟨z2, y2⟩ := hk2.some (i * 5 + 2) (by omega)
        obtain ⟨z3, y3⟩ := hk2.some (i * 5 + 3) (by omega)
        obtain ⟨z4, y4⟩ := hk2.some (i * 5 + 4) (by omega)
        have fz := hk2.free
        have HK2 := hide hk2
        have HRF2 := hide hrf2
        have HFR2 := hide hfr2
        clear hk2 hrf2 hfr2 p6 p7 p8 p9 p10
        have hlw : w1.heap.size < w2.heap.size := by omega
        have hbw2 : b < w2.heap.size := by omega
        go_wp2
        go_roundw
        case rel =>
          have hpb := put5_below (y := l[i]) (o := i * 5) (b := w1.heap.size) hb02 (by omega)
          have hpk := put5_blk HK2.out (i * 5) l[i]
          have hpr := (RowF.put l[i] HK2.out HRF2.out hil (Nat.le_refl _)).eq (fun j _ => HGN.out rfl j)
          have hpf : FRA (put5 w2 w1.heap.size (i * 5) l[i]) (some ⟨bf, 0, none⟩) fs 0 w1.heap.size := HFR2.out.same (fun b' hb' => put5_same _ _ _ _ _ (by omega))
          have hps := put5_size w2 w1.heap.size (i * 5) l[i]
          rw [← put5_eq] at hpb hpk hpr hpf hps
          exact ⟨i + 1, by go_num, by rw [HST.out]; go_num, by omega, hpb, by omega, hpf, hpk, hpr⟩
        case measure => simp [intOf]; omega
      · have HK2 := hide hk2
        have HRF2 := hide hrf2
        have HFR2 := hide hfr2
        clear hk2 hrf2 hfr2
        go_wp2
        go_roundw
        case rel => exact ⟨i + 1, by go_num, by rw [HST.out]; go_num, by omega, hb02, by omega, HFR2.out, HK2.out, HRF2.out.eq (fun j _ => HGE.out rfl j)⟩
        case measure => simp [intOf]; omega
    · have hie : i = l.length := by omega
      subst hie
      have HN := hide (fun W => numbered_any kind hk0 hk1 W)
      rw [leaf_val] at HN
      obtain ⟨r0, r1⟩ := (xr.below hb (by omega)).cells
      have hmx : Tryz.prog.follows .mixedOrders = true := by kernel_rfl
      have hw0 : w.heap.size < wr.heap.size := by omega
      generalize hm : saidN l ds l.length = m at hsd
      have hwz : w.heap.size + 1 < wr.heap.size := by omega
      have HM := hide hm
      have hbr : Below wr.heap.size wr wr.drew := (Below.refl _ _).drew
      have HBR := hide hbr
      clear hm hbr
      go_wp2_with fail
      go_region_with ((go_at_call 115; refine Calls.mono (HN.out _) ?_; rintro e2 w2 ⟨rfl, hb2⟩; have HB2 : Hid (Below wr.heap.size wr w2) := belOn HBR.out HBR.out.size hb2; clear hb2; have hs5 := HB2.out.size; have hb02 := belOn hb hsb HB2.out; have xz1 := xz.below hb02 (by omega); obtain ⟨z0, z1, z2, z3, z4⟩ := xz1.cells; have fz := (show Blk w2 (w.heap.size + 1) 42 5 from ⟨_, xz1, rfl⟩).free; have hz5 : w.heap.size + 1 < w2.heap.size := (by omega); clear xz1))
      all_goals
        obtain ⟨P, hPe⟩ : ∃ P, put5 w2 (w.heap.size + 1) 0 (.of 24 0 ⟨#[]⟩ (some ⟨w2.heap.size, 0, none⟩) 2 0 [leaf 0 0 ⟨#[]⟩, leaf 0 0 ⟨#[]⟩]) = P := ⟨_, rfl⟩
        have hbw2 : Below w.heap.size w w2 := belOn hb0 (by omega) hb02
        have hPs : P.heap.size = w2.heap.size := by rw [← hPe]; exact put5_size _ _ _ _
        have hPb : Below w.heap.size w P := by rw [← hPe]; exact put5_below hbw2 (by omega)
        have hPm : ∀ b', b' ≠ w.heap.size + 1 → Same w2 P b' := fun b' hb' => by rw [← hPe]; exact put5_same _ _ _ _ _ hb'
        have hPz : BoxV P (w.heap.size + 1) (.of 24 0 ⟨#[]⟩ (some ⟨w2.heap.size, 0, none⟩) 2 0 [leaf 0 0 ⟨#[]⟩, leaf 0 0 ⟨#[]⟩]) → True := fun _ => trivial
        rw [← put5_of] at hPe
        have hPe' : ((((w2.setCell ⟨w.heap.size + 1, 0, none⟩ (.int .i64 24)).setCell ⟨w.heap.size + 1, 1, none⟩ (.int .u64 0)).setCell ⟨w.heap.size + 1, 2, none⟩ (.string ⟨#[]⟩)).setCell ⟨w.heap.size + 1, 3, none⟩ (.slice (some ⟨w2.heap.size, 0, none⟩) 2 2)).setCell ⟨w.heap.size + 1, 4, none⟩ (.int .i64 0) = P := hPe
        have HRFr2 := HRFr
        have HPE := hide hPe'
        have HPM := hide hPm
        clear hPe hPe' hPm hPz
        go_wp2
        have hq0 : ∀ q, q < 5 → P.cell? ⟨w.heap.size + 1, q, none⟩ = (words (.of 24 0 ⟨#[]⟩ (some ⟨w2.heap.size, 0, none⟩) 2 0 [leaf 0 0 ⟨#[]⟩, leaf 0 0 ⟨#[]⟩]))[q]? := fun q hq => by
          have := put5_cell (w := w2) (b := w.heap.size + 1) (o := 0) (y := .of 24 0 ⟨#[]⟩ (some ⟨w2.heap.size, 0, none⟩) 2 0 [leaf 0 0 ⟨#[]⟩, leaf 0 0 ⟨#[]⟩]) (t := 42) (m := 5) ⟨_, xz.below hb02 (by omega), rfl⟩ (by omega) q hq
          rw [← put5_of] at this
          simp only [Nat.zero_add] at this
          rw [← HPE.out]
          exact this
        rw [HPE.out]
        have hbf : Below w2.heap.size P (P.alloc (Obj.cells #[.int .i64 5, .int .u64 kind, .string ⟨#[]⟩, .slice none 0 0, .int .i64 0, .int .i64 21, .int .u64 0, .string ⟨#[]⟩, .slice (some ⟨w1.heap.size, 0, none⟩) m l.length, .int .i64 0] 42)) := bel1 (Below.refl _ _) (by omega) _
        have hbfw := bel1 hPb (by omega) (Obj.cells #[.int .i64 5, .int .u64 kind, .string ⟨#[]⟩, .slice none 0 0, .int .i64 0, .int .i64 21, .int .u64 0, .string ⟨#[]⟩, .slice (some ⟨w1.heap.size, 0, none⟩) m l.length, .int .i64 0] 42)
        have e0 : (P.alloc (Obj.cells #[.int .i64 5, .int .u64 kind, .string ⟨#[]⟩, .slice none 0 0, .int .i64 0, .int .i64 21, .int .u64 0, .string ⟨#[]⟩, .slice (some ⟨w1.heap.size, 0, none⟩) m l.length, .int .i64 0] 42)).heap[w2.heap.size]? = some (.cells #[.int .i64 5, .int .u64 kind, .string ⟨#[]⟩, .slice none 0 0, .int .i64 0, .int .i64 21, .int .u64 0, .string ⟨#[]⟩, .slice (some ⟨w1.heap.size, 0, none⟩) m l.length, .int .i64 0] 42 (0, 0)) := by
          rw [← hPs]
          exact World.alloc_heap_new _ _
        have e1 : RowF P w1.heap.size l.length (gOuts l ds l.length) := (HRFr2.out.below HB2.out (by omega)).same (HPM.out _ (by omega))
        generalize hQ : P.alloc (Obj.cells #[.int .i64 5, .int .u64 kind, .string ⟨#[]⟩, .slice none 0 0, .int .i64 0, .int .i64 21, .int .u64 0, .string ⟨#[]⟩, .slice (some ⟨w1.heap.size, 0, none⟩) m l.length, .int .i64 0] 42) = Q at hbf hbfw e0 ⊢
        have hQs : Q.heap.size = w2.heap.size + 1 := by rw [← hQ]; simp; omega
        have hcq : ∀ q, Q.cell? ⟨w.heap.size + 1, q, none⟩ = P.cell? ⟨w.heap.size + 1, q, none⟩ := fun q => hbf.cell (p := ⟨w.heap.size + 1, q, none⟩) (by show w.heap.size + 1 < _; omega)
        have j0 : Q.cell? ⟨w.heap.size + 1, 0, none⟩ = some (.int .i64 24) := (hcq 0).trans (hq0 0 (by omega))
        have j1 : Q.cell? ⟨w.heap.size + 1, 1, none⟩ = some (.int .u64 0) := (hcq 1).trans (hq0 1 (by omega))
        have j2 : Q.cell? ⟨w.heap.size + 1, 2, none⟩ = some (.string ⟨#[]⟩) := (hcq 2).trans (hq0 2 (by omega))
        have j3 : Q.cell? ⟨w.heap.size + 1, 3, none⟩ = some (.slice (some ⟨w2.heap.size, 0, none⟩) 2 2) := (hcq 3).trans (hq0 3 (by omega))
        have j4 : Q.cell? ⟨w.heap.size + 1, 4, none⟩ = some (.int .i64 0) := (hcq 4).trans (hq0 4 (by omega))
        refine bodyPost_ret (v := .agg #[.int .i64 24, .int .u64 0, .string ⟨#[]⟩, .slice (some ⟨w2.heap.size, 0, none⟩) 2 2, .int .i64 0]) (by simp [results, Tryz.results99, go_sem, j0, j1, j2, j3, j4]) rfl ⟨some ⟨w2.heap.size, 0, none⟩, some ⟨w1.heap.size, 0, none⟩, 2, l.length, rfl, ?_, hbfw⟩
        show LiesIn (fun q => Q0 q ∨ (w.heap.size ≤ q ∧ q < Q.heap.size)) Q _
        rw [HM.out]
        exact laid_lies _ kind hk0 hk1 l ds HD.out hcc m (by omega) Q w2.heap.size w1.heap.size (.inr ⟨by omega, by omega⟩) (.inr ⟨by omega, by omega⟩) e0 (e1.below hbf (by omega)) (fun x hx => LiesIn.keep (HLS.out x hx) (fun b' hb' o' => hbfw.cell (p := ⟨b', o', none⟩) (hn b' hb')) (fun _ h => .inl h))
end Go.Proofs.YtgldcchleoklcaaGreatDoor
namespace Go.Proofs.YtgldcchleoklcaaGreatDoor

open Go.RowKit
set_option linter.unusedVariables false
set_option linter.unusedSimpArgs false
set_option maxRecDepth 100000 in
theorem run_field3 (a0 a1 a2 a4 : Value) (p : Option Addr) (n c : Nat) (w : World) : (Instr.field 42 (.agg #[a0, a1, a2, .slice p n c, a4]) 3).run Tryz.prog w = .ok (.slice p n c) w := by
  first
  | kernel_rfl
  | rfl
set_option maxRecDepth 100000 in
set_option maxHeartbeats 2000000 in
theorem owned_list (l : List V) (a : Option Addr) (c n₀ : Nat) (w : World) (hn : n₀ ≤ w.heap.size) (hc : l.length ≤ c) (hcc : l.length ≤ 2199023255552) (hr : 0 < l.length → ∃ b o, a = some ⟨b, o, none⟩ ∧ b < n₀ ∧ Row w b o l) (ls : ∀ x ∈ l, Lies n₀ w x) :
    Calls Tryz.prog 39 #[.slice a l.length c] w fun e w' => ∃ y : V, e = .returned (.slice y.a y.l.length y.c) ∧
      Hid (V.ts y.l = V.ts l ∧ LiesIn (fun b => w.heap.size ≤ b ∧ b < w'.heap.size) w' y) ∧ Below w.heap.size w w' := by
  have HL := hide (listed_any l a c n₀ w hn hc hcc hr ls)
  clear hr ls
  go_enter Tryz.func39, Tryz.ntmps39
  go_wp2_with fail
  refine HL.out.mono ?_
  rintro e w1 ⟨y, rfl, HY, hb⟩
  go_wp2
  rw [run_field3]
  go_wp2
  refine bodyPost_ret (v := .slice y.a y.l.length y.c) (by simp [results, Tryz.results39, go_sem]) rfl ⟨y, rfl, ⟨?_, HY.out.2⟩, hb⟩
  have h := HY.out.1
  obtain ⟨k', n', s', a', c', e', l', rfl⟩ := V.ex y
  rw [V.t_of] at h
  rw [V.l_of]
  have := congrArg V.l h
  have e1 : V.l (T.of k' n' s' e' (V.ts l')) = V.ts l' := V.l_of _ _ _ _ _ _ _
  have e2 : V.l (T.of 21 0 ⟨#[]⟩ 0 (V.ts l)) = V.ts l := V.l_of _ _ _ _ _ _ _
  rw [e1, e2] at this
  exact this
set_option maxRecDepth 100000 in
set_option maxHeartbeats 4000000 in
theorem pack_gen (kind : Int) (a : Option Addr) (n c : Nat) (w : World) (Pv : V → Prop)
    (hp : ∀ W, Below w.heap.size w W → Calls Tryz.prog 35 #[.agg #[.int .i64 kind, .slice a n c]] W (fun e w' => ∃ v : V, e = VN v 0 ∧ Hid (Pv v ∧ Lies w'.heap.size w' v) ∧ Below W.heap.size W w')) :
    Calls Tryz.prog 19 #[.agg #[.int .i64 kind, .slice a n c]] w (fun e w' => ∃ y : V, e = VN y 0 ∧ Hid ((∃ v, Pv v ∧ y.t = v.t) ∧ Lies w'.heap.size w' y) ∧ Below w.heap.size w w') := by
  obtain ⟨W0, hW0⟩ : ∃ W0, (w.alloc (Obj.cells #[.int .i64 kind, .slice a n c] 33)).alloc (Obj.cells #[.int .i64 0, .int .u64 0, .string ⟨#[]⟩, .slice none 0 0, .int .i64 0] 42) = W0 := ⟨_, rfl⟩
  have hs0 : W0.heap.size = w.heap.size + 2 := by rw [← hW0]; simp
  have hb0 : Below w.heap.size w W0 := by rw [← hW0]; exact bel2 (Below.refl _ _) (Nat.le_refl _) _ _
  have xz : BoxV W0 (w.heap.size + 1) (.of 0 0 ⟨#[]⟩ none 0 0 []) := by
    rw [← hW0]
    unfold BoxV
    rw [V.k_of, V.n_of, V.s_of, V.a_of, V.l_of, V.c_of, V.e_of]
    exact heap_at1 _ _ _
  have HP := hide (hp W0 hb0)
  unfold VN at HP
  have HW0 := hide hW0
  clear hW0 hp
  go_enter Tryz.func19, Tryz.ntmps19
  go_wp2_with fail
  rw [HW0.out]
  refine HP.out.mono ?_
  rintro e1 w1 ⟨v, rfl, HV, hb1⟩
  have hs1 := hb1.size
  obtain ⟨W1, hW1⟩ : ∃ W1, (w1.alloc (Obj.cells #[.int .i64 v.k, .int .u64 v.n, .string v.s, .slice v.a v.l.length v.c, .int .i64 v.e] 42)).alloc (Obj.cells #[.int .i64 v.k, .int .u64 v.n, .string v.s, .slice v.a v.l.length v.c, .int .i64 v.e] 42) = W1 := ⟨_, rfl⟩
  have hsW1 : W1.heap.size = w1.heap.size + 2 := by rw [← hW1]; simp
  have hb11 : Below w1.heap.size w1 W1 := by rw [← hW1]; exact bel2 (Below.refl _ _) (Nat.le_refl _) _ _
  have hx1 : BoxV W1 (w1.heap.size + 1) v := by rw [← hW1]; exact heap_at1 _ _ _
  have ho := owned_list [v] (some ⟨w1.heap.size + 1, 0, none⟩) 1 W1.heap.size W1 (Nat.le_refl _) (by simp) (by simp) (fun _ => ⟨w1.heap.size + 1, 0, rfl, by omega, fun i hi => by
    obtain rfl : i = 0 := by simpa using hi
    obtain ⟨q0, q1, q2, q3, q4⟩ := hx1.cells
    exact ⟨q0, q1, q2, q3, q4⟩⟩) (fun x hx => by
    obtain rfl : x = v := by simpa using hx
    exact (HV.out.2.keep hb11 (Nat.le_refl _)).mono (by omega))
  have HO := hide ho
  have HW1 := hide hW1
  clear ho hW1 hx1
  go_wp2_with fail
  rw [HW1.out]
  refine Calls.mono HO.out ?_
  rintro e2 w2 ⟨y, rfl, HY, hb2⟩
  have hs2 := hb2.size
  have hb12 : Below w1.heap.size w1 w2 := hb11.trans (hb2.mono (by omega))
  have hb02 : Below W0.heap.size W0 w2 := belOn hb1 hs1 hb12
  have hbw2 : Below w.heap.size w w2 := belOn hb0 (by omega) hb02
  obtain ⟨k', n', s', a', c', e', l', rfl⟩ := V.ex y
  have hyt := HY.out.1
  rw [V.l_of] at hyt
  have hlen : l'.length = 1 := by have := congrArg List.length hyt; rwa [V.ts_length, V.ts_length] at this
  obtain ⟨x, rfl⟩ : ∃ x, l' = [x] := by
    match l', hlen with
    | [x], _ => exact ⟨x, rfl⟩
  have hxt : x.t = v.t := by
    have h := hyt
    simp only [V.ts] at h
    exact (List.cons.inj h).1
  obtain ⟨b, o, ha, hbq, hrow⟩ := HY.out.2.row (by simp)
  have hxl := HY.out.2.sub x (by simp)
  rw [V.a_of, V.l_of, V.c_of, ha]
  obtain ⟨q0, q1, q2, q3, q4⟩ := hrow 0 (by simp)
  have q0' : w2.cell? ⟨b, o, none⟩ = some (.int .i64 x.k) := q0
  have q1' : w2.cell? ⟨b, o + 1, none⟩ = some (.int .u64 x.n) := q1
  have q2' : w2.cell? ⟨b, o + 2, none⟩ = some (.string x.s) := q2
  have q3' : w2.cell? ⟨b, o + 3, none⟩ = some (.slice x.a x.l.length x.c) := q3
  have q4' : w2.cell? ⟨b, o + 4, none⟩ = some (.int .i64 x.e) := q4
  have xz1 := xz.below hb02 (by omega)
  obtain ⟨z0, z1, z2, z3, z4⟩ := xz1.cells
  have fz := (show Blk w2 (w.heap.size + 1) 42 5 from ⟨_, xz1, rfl⟩).free
  have hz5 : w.heap.size + 1 < w2.heap.size := by omega
  have hbl : b < w2.heap.size := by omega
  have HXL := hide hxl
  clear q0 q1 q2 q3 q4 xz1 hxl hrow hyt
  go_wp2
  have hbz : Below w.heap.size w _ := put5_below (y := x) (o := 0) (b := w.heap.size + 1) hbw2 (by omega)
  have hsm : ∀ b', b' ≠ w.heap.size + 1 → Same w2 (put5 w2 (w.heap.size + 1) 0 x) b' := fun b' hb' => put5_same _ _ _ _ _ hb'
  have hsz := put5_size w2 (w.heap.size + 1) 0 x
  rw [← put5_eq] at hbz hsm hsz
  refine bodyPost_ret (v := .tuple #[.agg #[.int .i64 x.k, .int .u64 x.n, .string x.s, .slice x.a x.l.length x.c, .int .i64 x.e], .int .i64 0]) (by simp [results, Tryz.results19, go_sem, z0, z1, z2, z3, z4]) rfl ⟨x, rfl, ⟨⟨v, HV.out.1, hxt⟩, ?_⟩, hbz⟩
  exact LiesIn.keep HXL.out (fun b' hq => hsm b' (by have h1 : W1.heap.size ≤ b' := hq.1; omega)) (fun b' hq => by
    have h2 : b' < w2.heap.size := hq.2
    rw [← hsz] at h2
    exact h2)
end Go.Proofs.YtgldcchleoklcaaGreatDoor
namespace Go.Proofs.YtgldcchleoklcaaGreatDoor

open Go.RowKit
/-- the law's list: defaults written out where a raw list says so -/
def longL (fs : List FS) (ol : List T) (raws : List Bool) : List T := fs.mapIdx fun i f => if (raws[i]?).getD false = true ∧ ((ol[i]?).getD nul).k = 0 then f.d else (ol[i]?).getD nul
end Go.Proofs.YtgldcchleoklcaaGreatDoor
namespace Go.Proofs.YtgldcchleoklcaaGreatDoor

open Go.RowKit
set_option linter.unusedVariables false
set_option linter.unusedSimpArgs false
theorem mxn_app (l : List Nat) (x : Nat) : mxn (l ++ [x]) = max (mxn l) x := by
  induction l with
  | nil => simp [mxn]
  | cons y l ih => rw [List.cons_append, mxn, mxn, ih]; omega
theorem mxn_snoc (l : List V) (j : Nat) (h : j < l.length) : mxn ((l.take (j + 1)).map T.dp) = max (mxn ((l.take j).map T.dp)) (T.dp l[j]) := by
  rw [List.take_succ_eq_append_getElem h, List.map_append]
  exact mxn_app _ _
def RDpOk (x : V) : Prop := T.dp x ≤ 100000 → ∀ (n₀ : Nat) (w : World), n₀ ≤ w.heap.size → Lies n₀ w x →
  Calls Tryz.prog 38 #[x.val] w fun e w' => e = .returned (.int .i64 (T.dp x : Int)) ∧ Below w.heap.size w w'
set_option maxRecDepth 100000 in
set_option maxHeartbeats 1000000 in
theorem rdp_any : ∀ x, RDpOk x := by
  refine V.ind ?_
  intro k n s a c e l ih hw n₀ w hn hx
  rw [dp_of] at hw
  have HX := hide hx
  have IH := hide ih
  have ok := hx.ok
  have o2 := ok.l
  have o3 := ok.c
  clear ok hx ih
  rw [V.val_of]
  go_enter Tryz.func38, Tryz.ntmps38
  go_wp2
  obtain ⟨W0, hW0⟩ : ∃ W0, w.alloc (Obj.cells #[.int .i64 k, .int .u64 n, .string s, .slice a l.length c, .int .i64 e] 42) = W0 := ⟨_, rfl⟩
  have c3 : W0.cell? ⟨w.heap.size, 3, none⟩ = some (.slice a l.length c) := by rw [← hW0]; simp [World.cell?_alloc_at]
  have hs0 : W0.heap.size = w.heap.size + 1 := by rw [← hW0]; simp
  have hb0 : Below w.heap.size w W0 := by rw [← hW0]; exact bel1 (Below.refl _ _) (Nat.le_refl _) _
  rw [hW0]
  clear hW0
  go_loopw [3, 4] (fun z i wr => ∃ (j d : Nat), i = .int .i64 j ∧ z = .int .i64 (d : Int) ∧ j ≤ l.length ∧ d ≤ 100000 ∧ Below W0.heap.size W0 wr ∧ Hid (d = mxn ((l.take j).map T.dp))) (fun _ i _ => l.length - (intOf i).toNat)
  case atStart => exact ⟨0, 0, rfl, rfl, Nat.zero_le _, by omega, Below.refl _ _, by rw [List.take_zero]; rfl⟩
  case round =>
    obtain ⟨j, d, rfl, rfl, hj, hd, hb, HD⟩ := hrel
    have cc := (hb.cell (p := ⟨w.heap.size, 3, none⟩) (by simp; omega)).trans c3
    have hsz := hb.size
    by_cases hjl : j < l.length
    · obtain ⟨b, o, rfl, hlt, hr⟩ := HX.out.row (by omega)
      obtain ⟨x0, x1, x2, x3, x4⟩ := (hr.below (belOn hb0 (by omega) hb) (by omega)) j hjl
      have hwj : T.dp l[j] ≤ 100000 := by have := mxn_mem (List.mem_map.2 ⟨l[j], List.getElem_mem hjl, rfl⟩ : T.dp l[j] ∈ l.map T.dp); omega
      have hx := IH.out l[j] (List.getElem_mem hjl) hwj n₀ wr (by omega) ((HX.out.sub _ (List.getElem_mem hjl)).keep (belOn hb0 (by omega) hb) hn)
      rw [V.val_eq] at hx
      have HH := hide hx
      clear hx
      have HS := hide (mxn_snoc l j hjl)
      obtain ⟨q, hq⟩ : ∃ q, T.dp l[j] = q := ⟨_, rfl⟩
      rw [hq] at hwj HH HS
      clear hq
      go_wp2_with fail
      refine Calls.mono HH.out ?_
      rintro e w1 ⟨rfl, hb1⟩
      have hbw := belOn hb (by omega) hb1
      clear hb1
      by_cases hqd : q ≤ d
      · go_wp2
        all_goals
          go_roundw
          case rel => exact ⟨j + 1, d, by go_num, by first | rfl | (congr 1; omega), hjl, hd, hbw, by rw [HS.out, ← HD.out]; show d = max d q; omega⟩
          case measure => simp [intOf]; omega
      · go_wp2
        all_goals
          go_roundw
          case rel => exact ⟨j + 1, q, by go_num, by first | rfl | (congr 1; omega), hjl, by omega, hbw, by rw [HS.out, ← HD.out]; show q = max d q; omega⟩
          case measure => simp [intOf]; omega
    · obtain rfl : j = l.length := by omega
      go_wp2
      go_ret
      refine ⟨ret_int ?_, belOn hb0 (by omega) hb⟩
      have := HD.out
      rw [List.take_length] at this
      rw [dp_of, ← this]
      simp
end Go.Proofs.YtgldcchleoklcaaGreatDoor
