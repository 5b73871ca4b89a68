
/- shape.Unpack. -/
import Derived.Test.YtfoegajgnbdoiaaGreatDoorHUnp
import Derived.Test.YtfoegajgnbdoiaaGreatDoorHPack
namespace Go.Proofs.YtfoegajgnbdoiaaGreatDoor
open Go.RowKit
set_option linter.unusedVariables false
set_option linter.unusedSimpArgs false
set_option maxRecDepth 100000 in
set_option maxHeartbeats 4000000 in
theorem unpack_gen (kind : Int) (v : V) (ys : List V) (N : Nat) (hy : ys.length = N) (hcc : N ≤ 1000) (w : World) (hls : ∀ x ∈ ys, Lies w.heap.size w x)
    (hc : ∀ W, Below w.heap.size w W → Calls Tryz.prog 49 #[v.val] W fun e w' => e = .returned (.int .i64 0) ∧ Below W.heap.size W w')
    (hu : ∀ W, Below w.heap.size w W → Calls Tryz.prog 50 #[v.val] W (fun e w' => ∃ L, e = .returned (.tuple #[.agg #[.int .i64 kind, .slice (some ⟨L, 0, none⟩) N N], .int .i64 0, .int .i64 0]) ∧ Hid (W.heap.size ≤ L ∧ L < w'.heap.size ∧ Row w' L 0 ys) ∧ Below W.heap.size W w')) :
    Calls Tryz.prog 30 #[v.val] w (fun e w' => ∃ y : V, e = .returned (.tuple #[.agg #[.int .i64 kind, .slice y.a y.l.length y.c], .int .i64 0, .int .i64 0]) ∧ Hid (V.ts y.l = V.ts ys ∧ LiesIn (fun b => w.heap.size + 2 ≤ b ∧ b < w'.heap.size) w' y) ∧ Below w.heap.size w w') := by
  obtain ⟨W0, hW0⟩ : ∃ W0, (w.alloc (Obj.cells #[.int .i64 v.k, .int .u64 v.n, .string v.s, .slice v.a v.l.length v.c, .int .i64 v.e] 34)).alloc (Obj.cells #[.int .i64 0, .slice none 0 0] 39) = W0 := ⟨_, rfl⟩
  have hs0 : W0.heap.size = w.heap.size + 2 := by rw [← hW0]; simp
  have hb0 : Below w.heap.size w W0 := by rw [← hW0]; exact bel2 (Below.refl _ _) (Nat.le_refl _) _ _
  have xv : BoxV W0 w.heap.size v := by rw [← hW0]; exact heap_past (World.alloc_heap_new _ _) _
  have xz : BoxR W0 (w.heap.size + 1) 0 none 0 0 := by rw [← hW0]; exact heap_at1 _ _ _
  have HC := hide hc
  have HU := hide hu
  rw [V.val_eq] at HC HU ⊢
  have HY := hide hy
  have HLS := hide hls
  have HW0 := hide hW0
  clear hW0 hc hu hy hls
  go_enter Tryz.func30, Tryz.ntmps30
  go_wp2_with fail
  rw [HW0.out]
  clear HW0
  refine (HC.out _ hb0).mono ?_
  rintro e1 w1 ⟨rfl, hb1⟩
  have hs1 := hb1.size
  have hbw1 : Below w.heap.size w w1 := belOn hb0 (by omega) hb1
  obtain ⟨v0, v1, v2, v3, v4⟩ := (xv.below hb1 (by omega)).cells
  have hz1 : w.heap.size < w1.heap.size := by omega
  go_wp2_with fail
  refine (HU.out _ hbw1).mono ?_
  rintro e2 w2 ⟨L, rfl, HL, hb2⟩
  have hs2 := hb2.size
  have hb02 : Below W0.heap.size W0 w2 := belOn hb1 hs1 hb2
  have hbw2 : Below w.heap.size w w2 := belOn hb0 (by omega) hb02
  obtain ⟨W2, hW2⟩ : ∃ W2, w2.alloc (Obj.cells #[.int .i64 kind, .slice (some ⟨L, 0, none⟩) N N] 39) = W2 := ⟨_, rfl⟩
  have hsW2 : W2.heap.size = w2.heap.size + 1 := by rw [← hW2]; simp
  have hb22 : Below w2.heap.size w2 W2 := by rw [← hW2]; exact bel1 (Below.refl _ _) (Nat.le_refl _) _
  have hx2 : BoxR W2 w2.heap.size kind (some ⟨L, 0, none⟩) N N := by rw [← hW2]; exact World.alloc_heap_new _ _
  have hbwW : Below w.heap.size w W2 := belOn hbw2 hbw2.size hb22
  have hLl := HL.out.2.1
  have ho := owned_list ys (some ⟨L, 0, none⟩) N W2.heap.size W2 (Nat.le_refl _) (by rw [HY.out]; exact Nat.le_refl _) (by rw [HY.out]; omega) (fun _ => ⟨L, 0, rfl, by omega, HL.out.2.2.below hb22 hLl⟩) (fun x hx => ((HLS.out x hx).keep hbwW (Nat.le_refl _)).mono hbwW.size)
  rw [HY.out] at ho
  have HO := hide ho
  have HW2 := hide hW2
  clear ho hW2
  go_wp2_with fail
  rw [HW2.out]
  refine Calls.mono HO.out ?_
  rintro e3 w3 ⟨y, rfl, HYY, hb3⟩
  have hs3 := hb3.size
  have hx3 := hx2.below hb3 (by omega)
  obtain ⟨r0, r1⟩ := hx3.cells
  have fr : ∀ j, w3.frozen? ⟨w2.heap.size, j, none⟩ = false := fun j => by
    unfold BoxR at hx3
    simp [World.frozen?, hx3]
  have hb23 : Below w2.heap.size w2 w3 := hb22.trans (hb3.mono (by omega))
  have hb03 : Below W0.heap.size W0 w3 := belOn hb02 (by omega) hb23
  have hbw3 : Below w.heap.size w w3 := belOn hb0 (by omega) hb03
  have xz1 := xz.below hb03 (by omega)
  obtain ⟨z0, z1⟩ := xz1.cells
  have fz : ∀ j, w3.frozen? ⟨w.heap.size + 1, j, none⟩ = false := fun j => by
    unfold BoxR at xz1
    simp [World.frozen?, xz1]
  have hz3 : w.heap.size + 1 < w3.heap.size := by omega
  have hz4 : w2.heap.size < w3.heap.size := by omega
  have hne : w2.heap.size ≠ w.heap.size + 1 := by omega
  have hne' : w.heap.size + 1 ≠ w2.heap.size := by omega
  clear hx3 xz1
  go_wp2
  have hsm : ∀ b', b' ≠ w2.heap.size → b' ≠ w.heap.size + 1 → Same w3 (((w3.setCell ⟨w2.heap.size, 1, none⟩ (.slice y.a y.l.length y.c)).setCell ⟨w.heap.size + 1, 0, none⟩ (.int .i64 kind)).setCell ⟨w.heap.size + 1, 1, none⟩ (.slice y.a y.l.length y.c)) b' := fun b' n1 n2 o' =>
    ((World.cell?_setCell_other _ _ _ _ (fun e => n2 (congrArg Addr.block e).symm)).trans (World.cell?_setCell_other _ _ _ _ (fun e => n2 (congrArg Addr.block e).symm))).trans (World.cell?_setCell_other _ _ _ _ (fun e => n1 (congrArg Addr.block e).symm))
  have hsz : (((w3.setCell ⟨w2.heap.size, 1, none⟩ (.slice y.a y.l.length y.c)).setCell ⟨w.heap.size + 1, 0, none⟩ (.int .i64 kind)).setCell ⟨w.heap.size + 1, 1, none⟩ (.slice y.a y.l.length y.c)).heap.size = w3.heap.size := by simp [World.setCell]
  have hbz := ((hbw3.setCell (p := ⟨w2.heap.size, 1, none⟩) (by show w.heap.size ≤ w2.heap.size; omega) (.slice y.a y.l.length y.c)).setCell (p := ⟨w.heap.size + 1, 0, none⟩) (Nat.le_succ _) (.int .i64 kind)).setCell (p := ⟨w.heap.size + 1, 1, none⟩) (Nat.le_succ _) (.slice y.a y.l.length y.c)
  refine bodyPost_ret (v := .tuple #[.agg #[.int .i64 kind, .slice y.a y.l.length y.c], .int .i64 0, .int .i64 0]) (by simp [results, Tryz.results30, go_sem, z0, z1, hne, hne']) rfl ⟨y, rfl, ⟨HYY.out.1, LiesIn.keep HYY.out.2 (fun b' hq => ?_) (fun b' hq => ?_)⟩, hbz⟩
  · have h1 : W2.heap.size ≤ b' := hq.1
    exact hsm b' (by omega) (by omega)
  · have h1 : W2.heap.size ≤ b' := hq.1
    have h2 : b' < w3.heap.size := hq.2
    exact ⟨by omega, by rw [hsz]; exact h2⟩
end Go.Proofs.YtfoegajgnbdoiaaGreatDoor
