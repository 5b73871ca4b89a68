
/- shape.filled and shape.checked, for fields that are no composites. -/
import Derived.Test.YtfoegajgnbdoiaaGreatDoorHSmall
import Derived.Test.YtfoegajgnbdoiaaGreatDoorVEq
import Derived.Deep.RegionHeld
import Derived.Laws.EntriesVeiled
namespace Go.Proofs.YtfoegajgnbdoiaaGreatDoor
open Go.RowKit
set_option linter.unusedVariables false
set_option linter.unusedSimpArgs false
/-- a field's value laid in a variable -/
def BoxF (W : World) (b : Nat) (f : Fd) : Prop := W.heap[b]? = some (.cells f.cs 68 (0, 0))
theorem BoxF.below {B : Nat} {W w : World} {b : Nat} {f : Fd} (h : BoxF W b f) (hb : Below B W w) (hlt : b < B) : BoxF w b f := (hb.block b hlt).trans h
theorem BoxF.cells {W : World} {b : Nat} {f : Fd} (h : BoxF W b f) : W.cell? ⟨b, 0, none⟩ = some (.string f.name) ∧ W.cell? ⟨b, 1, none⟩ = some (.int .i64 f.ty) ∧ W.cell? ⟨b, 2, none⟩ = some (.slice f.ka f.kl f.kc) ∧ W.cell? ⟨b, 3, none⟩ = some (.bool f.must) ∧
    W.cell? ⟨b, 4, none⟩ = some (.int .i64 f.d.k) ∧ W.cell? ⟨b, 5, none⟩ = some (.int .u64 f.d.n) ∧ W.cell? ⟨b, 6, none⟩ = some (.string f.d.s) ∧ W.cell? ⟨b, 7, none⟩ = some (.slice f.d.a f.d.l.length f.d.c) ∧ W.cell? ⟨b, 8, none⟩ = some (.int .i64 f.d.e) := by
  unfold BoxF Fd.cs at h
  refine ⟨?_, ?_, ?_, ?_, ?_, ?_, ?_, ?_, ?_⟩ <;> (unfold World.cell?; simp only [h]; rfl)
set_option maxRecDepth 100000 in
set_option maxHeartbeats 2000000 in
/-- a Null where it may be: the default -/
theorem filled_null (f : Fd) (v : V) (hk : v.k = 0) (hm : f.must = false) (w : World) : Calls Tryz.prog 112 #[f.val, v.val] w fun e w' => e = VN f.d 0 ∧ Below w.heap.size w w' := by
  obtain ⟨W0, hW0⟩ : ∃ W0, ((w.alloc (Obj.cells f.cs 68)).alloc (Obj.cells #[.int .i64 v.k, .int .u64 v.n, .string v.s, .slice v.a v.l.length v.c, .int .i64 v.e] 34)).alloc (Obj.cells #[.int .i64 0, .int .u64 0, .string ⟨#[]⟩, .slice none 0 0, .int .i64 0] 34) = W0 := ⟨_, rfl⟩
  have hs0 : W0.heap.size = w.heap.size + 3 := by rw [← hW0]; simp
  have hb0 : Below w.heap.size w W0 := by rw [← hW0]; exact bel1 (bel2 (Below.refl _ _) (Nat.le_refl _) _ _) (by simp; omega) _
  have xf : BoxF W0 w.heap.size f := by rw [← hW0]; exact heap_past (heap_past (World.alloc_heap_new _ _) _) _
  have xv : BoxV W0 (w.heap.size + 1) v := by rw [← hW0]; exact heap_past (heap_at1 _ _ _) _
  have xz : BoxV W0 (w.heap.size + 1 + 1) (.of 0 0 ⟨#[]⟩ none 0 0 []) := by
    rw [← hW0]
    unfold BoxV
    rw [V.k_of, V.n_of, V.s_of, V.a_of, V.l_of, V.c_of, V.e_of]
    exact heap_at2 _ _ _ _
  have HL := hide (fun W => lacks_any f v W)
  rw [Fd.val_eq, V.val_eq] at HL ⊢
  have HW0 := hide hW0
  unfold Fd.cs at HW0
  have HK := hide hk
  have HM := hide hm
  clear hW0 hk hm
  go_enter Tryz.func112, Tryz.ntmps112
  go_wp2_with fail
  rw [HW0.out]
  refine (HL.out _).mono ?_
  rintro e1 w1 ⟨rfl, hb1⟩
  rw [HM.out, HK.out]
  have hs1 := hb1.size
  obtain ⟨f0, f1, f2, f3, f4, f5, f6, f7, f8⟩ := (xf.below hb1 (by omega)).cells
  obtain ⟨v0, v1, v2, v3, v4⟩ := (xv.below hb1 (by omega)).cells
  have xz1 := xz.below hb1 (by omega)
  obtain ⟨z0, z1, z2, z3, z4⟩ := xz1.cells
  have fz := (show Blk w1 (w.heap.size + 1 + 1) 34 5 from ⟨_, xz1, rfl⟩).free
  have hz2 : w.heap.size + 1 + 1 < w1.heap.size := by omega
  rw [HK.out] at v0
  have hbw : Below w.heap.size w w1 := belOn hb0 (by omega) hb1
  clear xz1
  go_wp2
  have hbz : Below w.heap.size w _ := put5_below (y := f.d) (o := 0) (b := w.heap.size + 1 + 1) hbw (by omega)
  rw [← put5_eq] at hbz
  refine bodyPost_ret (v := .tuple #[.agg #[.int .i64 f.d.k, .int .u64 f.d.n, .string f.d.s, .slice f.d.a f.d.l.length f.d.c, .int .i64 f.d.e], .int .i64 0]) (by simp [results, Tryz.results112, go_sem, z0, z1, z2, z3, z4]) rfl ⟨rfl, hbz⟩
set_option maxRecDepth 100000 in
set_option maxHeartbeats 2000000 in
/-- a value of the field's own type: itself -/
theorem filled_flat (f : Fd) (v : V) (hk : v.k = f.ty) (h0 : v.k ≠ 0) (h1 : f.ty ≠ 100) (h2 : f.ty ≠ 101) (h3 : f.ty ≠ 102) (w : World) : Calls Tryz.prog 112 #[f.val, v.val] w fun e w' => e = VN v 0 ∧ Below w.heap.size w w' := by
  obtain ⟨W0, hW0⟩ : ∃ W0, ((w.alloc (Obj.cells f.cs 68)).alloc (Obj.cells #[.int .i64 v.k, .int .u64 v.n, .string v.s, .slice v.a v.l.length v.c, .int .i64 v.e] 34)).alloc (Obj.cells #[.int .i64 0, .int .u64 0, .string ⟨#[]⟩, .slice none 0 0, .int .i64 0] 34) = W0 := ⟨_, rfl⟩
  have hs0 : W0.heap.size = w.heap.size + 3 := by rw [← hW0]; simp
  have hb0 : Below w.heap.size w W0 := by rw [← hW0]; exact bel1 (bel2 (Below.refl _ _) (Nat.le_refl _) _ _) (by simp; omega) _
  have xf : BoxF W0 w.heap.size f := by rw [← hW0]; exact heap_past (heap_past (World.alloc_heap_new _ _) _) _
  have xv : BoxV W0 (w.heap.size + 1) v := by rw [← hW0]; exact heap_past (heap_at1 _ _ _) _
  have xz : BoxV W0 (w.heap.size + 1 + 1) (.of 0 0 ⟨#[]⟩ none 0 0 []) := by
    rw [← hW0]
    unfold BoxV
    rw [V.k_of, V.n_of, V.s_of, V.a_of, V.l_of, V.c_of, V.e_of]
    exact heap_at2 _ _ _ _
  have HL := hide (fun W => lacks_any f v W)
  rw [Fd.val_eq, V.val_eq] at HL ⊢
  have HW0 := hide hW0
  unfold Fd.cs at HW0
  have HK := hide hk
  have HR := hide (fun W => reader_flat f h1 h2 h3 W)
  have HX := hide (fun P W hP hc => reader3_any P f.ty v W hP hc hk)
  rw [Fd.val_eq] at HR
  rw [V.val_eq] at HX
  unfold VN at HX
  have hlk : (f.must && decide (v.k = 0)) = false := by rw [decide_eq_false h0, Bool.and_false]
  rw [hlk] at HL
  have hv0 : (v.k == 0) = false := by simpa using h0
  have h0' : ¬ v.k = 0 := h0
  clear hW0 hk hlk h0
  go_enter Tryz.func112, Tryz.ntmps112
  go_wp2_with fail
  rw [HW0.out]
  refine (HL.out _).mono ?_
  rintro e1 w1 ⟨rfl, hb1⟩
  have hs1 := hb1.size
  obtain ⟨f0, f1, f2, f3, f4, f5, f6, f7, f8⟩ := (xf.below hb1 (by omega)).cells
  obtain ⟨v0, v1, v2, v3, v4⟩ := (xv.below hb1 (by omega)).cells
  have hz2 : w.heap.size + 1 + 1 < w1.heap.size := by omega
  have hz3 : w.heap.size + 1 < w1.heap.size := by omega
  have hz4 : w.heap.size < w1.heap.size := by omega
  have hbw : Below w.heap.size w w1 := belOn hb0 (by omega) hb1
  have HB1 := hide hb1
  have hmx : Tryz.prog.follows .mixedOrders = true := by kernel_rfl
  clear hb1
  go_wp2_with fail
  go_region_with (first | (go_at_call 129; refine Calls.mono (HR.out _) ?_; rintro e2 w2 ⟨rfl, hb2, hcx⟩; have HB2 : Hid (Below W0.heap.size W0 w2) := HB1.out.drew.trans (hb2.mono HB1.out.drew.size); have hs2 := HB2.out.size; have hs3 := hb2.size; obtain ⟨g0, g1, g2, g3, g4⟩ := (xv.below HB2.out (by omega)).cells; have HC := hide hcx; clear hb2 hcx) | (go_at_call 141; have HB3 := HB2; refine Calls.mono (HX.out _ _ (World.block_lt_of_cell? _ _ HC.out) HC.out) ?_; rintro e3 w3 ⟨rfl, hb3⟩; have HB4 : Hid (Below W0.heap.size W0 w3) := belOn HB3.out HB3.out.size hb3; clear hb3; have hs5 := HB4.out.size; have xz1 := xz.below HB4.out (by omega); obtain ⟨z0, z1, z2, z3, z4⟩ := xz1.cells; have fz := (show Blk w3 (w.heap.size + 1 + 1) 34 5 from ⟨_, xz1, rfl⟩).free; have hz5 : w.heap.size + 1 + 1 < w3.heap.size := (by omega); clear xz1))
  all_goals
    have hbw3 : Below w.heap.size w w3 := belOn hb0 (by omega) HB4.out
    go_wp2
    have hbz : Below w.heap.size w _ := put5_below (y := v) (o := 0) (b := w.heap.size + 1 + 1) hbw3 (by omega)
    rw [← put5_eq] at hbz
    refine bodyPost_ret (v := .tuple #[.agg #[.int .i64 v.k, .int .u64 v.n, .string v.s, .slice v.a v.l.length v.c, .int .i64 v.e], .int .i64 0]) (by simp [results, Tryz.results112, go_sem, z0, z1, z2, z3, z4]) rfl ⟨rfl, hbz⟩
end Go.Proofs.YtfoegajgnbdoiaaGreatDoor
