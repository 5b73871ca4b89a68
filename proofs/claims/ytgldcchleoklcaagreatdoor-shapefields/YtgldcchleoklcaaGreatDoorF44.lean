/- HChk -/
import Derived.Test.YtgldcchleoklcaaGreatDoorF14
import Derived.Test.YtgldcchleoklcaaGreatDoorF43
namespace Go.Proofs.YtgldcchleoklcaaGreatDoor
open Go.RowKit
set_option linter.unusedVariables false
set_option linter.unusedSimpArgs false
set_option maxRecDepth 100000 in
set_option maxHeartbeats 2000000 in
theorem checked_gen (f : Fd) (v y : V) (w : World) (hl : (f.must && decide (v.k = 0)) = false) (hs : (f.ty == 101 && v.k == 20) = false)
    (hc : ∀ W, Below w.heap.size w W → Calls Tryz.prog 42 #[v.val] W fun e w' => e = .returned (.int .i64 0) ∧ Below W.heap.size W w')
    (hf : ∀ W, Below w.heap.size w W → Calls Tryz.prog 106 #[f.val, v.val] W fun e w' => e = VN y 0 ∧ Below W.heap.size W w') :
    Calls Tryz.prog 98 #[f.val, v.val] w fun e w' => e = VN y 0 ∧ Below w.heap.size w w' := by
  obtain ⟨W0, hW0⟩ : ∃ W0, ((w.alloc (Obj.cells f.cs 66)).alloc (Obj.cells #[.int .i64 v.k, .int .u64 v.n, .string v.s, .slice v.a v.l.length v.c, .int .i64 v.e] 42)).alloc (Obj.cells #[.int .i64 0, .int .u64 0, .string ⟨#[]⟩, .slice none 0 0, .int .i64 0] 42) = W0 := ⟨_, rfl⟩
  have hs0 : W0.heap.size = w.heap.size + 3 := by rw [← hW0]; simp
  have hb0 : Below w.heap.size w W0 := by rw [← hW0]; exact bel1 (bel2 (Below.refl _ _) (Nat.le_refl _) _ _) (by simp; omega) _
  have xf : BoxF W0 w.heap.size f := by rw [← hW0]; exact heap_past (heap_past (World.alloc_heap_new _ _) _) _
  have xv : BoxV W0 (w.heap.size + 1) v := by rw [← hW0]; exact heap_past (heap_at1 _ _ _) _
  have xz : BoxV W0 (w.heap.size + 1 + 1) (.of 0 0 ⟨#[]⟩ none 0 0 []) := by
    rw [← hW0]
    unfold BoxV
    rw [V.k_of, V.n_of, V.s_of, V.a_of, V.l_of, V.c_of, V.e_of]
    exact heap_at2 _ _ _ _
  have HL := hide (fun W => lacks_any f v W)
  have HC := hide hc
  have HF := hide hf
  rw [hl] at HL
  rw [Fd.val_eq, V.val_eq] at HL HF ⊢
  rw [V.val_eq] at HC
  unfold VN at HF
  have HS := hide hs
  have HW0 := hide hW0
  unfold Fd.cs at HW0
  clear hW0 hl hs hc hf
  go_enter Tryz.func98, Tryz.ntmps98
  go_wp2_with fail
  rw [HW0.out]
  refine (HL.out _).mono ?_
  rintro e1 w1 ⟨rfl, hb1⟩
  have hs1 := hb1.size
  have hbw : Below w.heap.size w w1 := belOn hb0 (by omega) hb1
  obtain ⟨v0, v1, v2, v3, v4⟩ := (xv.below hb1 (by omega)).cells
  have hz3 : w.heap.size + 1 < w1.heap.size := by omega
  go_wp2_with fail
  refine (HC.out _ hbw).mono ?_
  rintro e2 w2 ⟨rfl, hb2⟩
  have hb3 : Below W0.heap.size W0 w2 := belOn hb1 hs1 hb2
  have hs2 := hb3.size
  have hbw2 : Below w.heap.size w w2 := belOn hb0 (by omega) hb3
  obtain ⟨f0, f1, f2, f3, f4, f5, f6, f7, f8⟩ := (xf.below hb3 (by omega)).cells
  obtain ⟨u0, u1, u2, u3, u4⟩ := (xv.below hb3 (by omega)).cells
  have hz4 : w.heap.size + 1 < w2.heap.size := by omega
  have hz5 : w.heap.size < w2.heap.size := by omega
  have HB1 := hide hb1
  have HB2 := hide hb2
  clear v0 v1 v2 v3 v4 hb1 hb2
  have hcase : (f.ty == 101) = false ∨ ((f.ty == 101) = true ∧ (v.k == 20) = false) := by
    have := HS.out
    cases h1 : (f.ty == 101)
    · exact .inl rfl
    · rw [h1, Bool.true_and] at this; exact .inr ⟨rfl, this⟩
  have hfin : ∀ w3, Below w2.heap.size w2 w3 → True := fun _ _ => trivial
  rcases hcase with q1 | ⟨q1, q2⟩
  all_goals
    go_wp2_with fail
    refine (HF.out _ hbw2).mono ?_
    rintro e3 w3 ⟨rfl, hb4⟩
    have hb5 : Below W0.heap.size W0 w3 := belOn hb3 hs2 hb4
    have hs3 := hb5.size
    have xz1 := xz.below hb5 (by omega)
    obtain ⟨z0, z1, z2, z3, z4⟩ := xz1.cells
    have fz := (show Blk w3 (w.heap.size + 1 + 1) 42 5 from ⟨_, xz1, rfl⟩).free
    have hz6 : w.heap.size + 1 + 1 < w3.heap.size := by omega
    have hbw3 : Below w.heap.size w w3 := belOn hb0 (by omega) hb5
    clear xz1
    go_wp2
    have hbz : Below w.heap.size w _ := put5_below (y := y) (o := 0) (b := w.heap.size + 1 + 1) hbw3 (by omega)
    rw [← put5_eq] at hbz
    refine bodyPost_ret (v := .tuple #[.agg #[.int .i64 y.k, .int .u64 y.n, .string y.s, .slice y.a y.l.length y.c, .int .i64 y.e], .int .i64 0]) (by simp [results, Tryz.results98, go_sem, z0, z1, z2, z3, z4]) rfl ⟨rfl, hbz⟩
end Go.Proofs.YtgldcchleoklcaaGreatDoor
