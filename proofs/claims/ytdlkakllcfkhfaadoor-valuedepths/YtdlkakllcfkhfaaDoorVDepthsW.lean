/- ValueDepths: its walk. -/
import Derived.Test.YtdlkakllcfkhfaaDoorVAwake
import Derived.Test.YtdlkakllcfkhfaaDoorVDeepest
import Derived.Test.YtdlkakllcfkhfaaDoorVAsLentV
namespace Go.Proofs.YtdlkakllcfkhfaaDoor
open Go.RowKit
set_option linter.unusedVariables false
set_option linter.unusedSimpArgs false

set_option maxRecDepth 100000 in
set_option maxHeartbeats 2000000 in
theorem depths_walk (v : V) (w : World) (hv : Lies w.heap.size w v) :
    Calls Tryd.prog 7 #[v.val] w fun e w' => e = .returned (.bool true) ∧ Below w.heap.size w w' := by
  have HV := hide hv
  clear hv
  rw [V.val_eq]
  go_enter Tryd.func7, Tryd.ntmps7
  go_wp2_with fail
  obtain ⟨W0, hW0⟩ : ∃ W0, w.alloc (Obj.cells #[.int .i64 v.k, .int .u64 v.n, .string v.s, .slice v.a v.l.length v.c, .int .i64 v.e] 25) = W0 := ⟨_, rfl⟩
  have hs0 : W0.heap.size = w.heap.size + 1 := by rw [← hW0]; simp
  have hb0 : Below w.heap.size w W0 := by rw [← hW0]; exact bel1 (Below.refl _ _) (Nat.le_refl _) _
  have xa : BoxV W0 w.heap.size v := by rw [← hW0]; exact BoxV.new w v
  rw [hW0]
  clear hW0
  refine (awake_any W0).mono ?_
  rintro e w1 ⟨rfl, hb1⟩
  have hs1 := hb1.size
  obtain ⟨a0, a1, a2, a3, a4⟩ := (xa.below hb1 (by omega)).cells
  go_wp2_with fail
  have hbw1 : Below w.heap.size w w1 := belOn hb0 (by omega) hb1
  have q := great_any v w.heap.size w1 (by omega) (HV.out.keep hbw1 (Nat.le_refl _))
  rw [V.val_eq] at q
  refine q.mono ?_
  clear q
  rintro e w2 (⟨rfl, hb2⟩ | ⟨rfl, hwt, hb2⟩)
  · go_wp2
    go_ret
    exact ⟨rfl, belOn hbw1 (by omega) hb2⟩
  have hbW2 : Below W0.heap.size W0 w2 := belOn hb1 hs1 hb2
  have hbw2 : Below w.heap.size w w2 := belOn hbw1 (by omega) hb2
  have hs2 := hbW2.size
  clear a0 a1 a2 a3 a4 hb2
  obtain ⟨a0, a1, a2, a3, a4⟩ := (xa.below hbW2 (by omega)).cells
  go_wp2_with fail
  have q := long_any v w.heap.size w2 (by omega) (HV.out.keep hbw2 (Nat.le_refl _))
  rw [V.val_eq] at q
  refine q.mono ?_
  clear q a0 a1 a2 a3 a4
  rintro e w3 hlong
  obtain ⟨tt, rfl, hb3⟩ : ∃ tt : Bool, e = .returned (.bool tt) ∧ Below w2.heap.size w2 w3 := by
    rcases hlong with ⟨rfl, h⟩ | ⟨rfl, h⟩
    · exact ⟨true, rfl, h⟩
    · exact ⟨false, rfl, h⟩
  clear hlong
  have hbW3 : Below W0.heap.size W0 w3 := belOn hbW2 hs2 hb3
  have hbw3 : Below w.heap.size w w3 := belOn hbw2 (by omega) hb3
  have hs3 := hbW3.size
  clear hb3
  obtain ⟨a0, a1, a2, a3, a4⟩ := (xa.below hbW3 (by omega)).cells
  go_wp2_with fail
  have q := lent_any v hwt w.heap.size w3 (by omega) (HV.out.keep hbw3 (Nat.le_refl _))
  rw [V.val_eq] at q
  refine q.mono ?_
  clear q a0 a1 a2 a3 a4
  rintro e w4 ⟨y, rfl, HY, hb4⟩
  have hs4 := hb4.size
  have hbW4 : Below W0.heap.size W0 w4 := belOn hbW3 hs3 hb4
  have hbw4 : Below w.heap.size w w4 := belOn hbw3 (by omega) hb4
  clear hb4
  have hb5 := bel1 (Below.refl w4.heap.size w4) (Nat.le_refl _) (Obj.cells #[.int .i64 y.k, .int .u64 y.n, .string y.s, .slice y.a y.l.length y.c, .int .i64 y.e] 25)
  have xy : BoxV (w4.alloc (Obj.cells #[.int .i64 y.k, .int .u64 y.n, .string y.s, .slice y.a y.l.length y.c, .int .i64 y.e] 25)) w4.heap.size y := BoxV.new w4 y
  go_wp2_with fail
  obtain ⟨W5, hW5⟩ : ∃ W5, w4.alloc (Obj.cells #[.int .i64 y.k, .int .u64 y.n, .string y.s, .slice y.a y.l.length y.c, .int .i64 y.e] 25) = W5 := ⟨_, rfl⟩
  have hs5 : W5.heap.size = w4.heap.size + 1 := by rw [← hW5]; simp
  rw [hW5] at hb5 xy
  rw [hW5]
  clear hW5
  have hbw5 : Below w.heap.size w W5 := belOn hbw4 (by omega) hb5
  have hbW5 : Below W0.heap.size W0 W5 := belOn hbW4 (by omega) hb5
  obtain ⟨ht, hlent⟩ := HY.out
  have HLY : Hid (Lies w4.heap.size w4 y) := LiesIn.keep hlent.lies (fun _ _ _ => rfl) (fun b h => h.2)
  have HLE := hide hlent
  clear hlent HY
  have hwy : T.wt y.t ≤ 100000 := by rw [ht]; exact hwt
  have q := depth_any y w4.heap.size W5 (by omega) (HLY.out.keep hb5 (Nat.le_refl _))
  rw [V.val_eq, mx_all y 1 (by omega) (by omega), ht, show (1 : Int) + T.dep v.t - 1 = T.dep v.t by omega] at q
  refine q.mono ?_
  clear q
  rintro e w6 ⟨rfl, hb6⟩
  have hs6 := hb6.size
  have hbw6 : Below w.heap.size w w6 := belOn hbw5 (by omega) hb6
  have hbW6 : Below W0.heap.size W0 w6 := belOn hbW5 (by omega) hb6
  obtain ⟨a0, a1, a2, a3, a4⟩ := (xa.below hbW6 (by omega)).cells
  go_wp2_with fail
  have q := rdepth_any v hwt w.heap.size w6 (by omega) (HV.out.keep hbw6 (Nat.le_refl _))
  rw [V.val_eq] at q
  refine q.mono ?_
  clear q a0 a1 a2 a3 a4
  rintro e w7 ⟨rfl, hb7⟩
  have hs7 := hb7.size
  have hbw7 : Below w.heap.size w w7 := belOn hbw6 (by omega) hb7
  have hbW7 : Below W0.heap.size W0 w7 := belOn hbW6 (by omega) hb7
  have hb57 : Below W5.heap.size W5 w7 := hb6.trans (hb7.mono hs6)
  generalize hdep : (T.dep v.t : Int) = dp
  obtain ⟨y0, y1, y2, y3, y4⟩ := (xy.below hb57 (by omega)).cells
  obtain ⟨a0, a1, a2, a3, a4⟩ := (xa.below hbW7 (by omega)).cells
  -- the end, whatever the way to it
  have fin : ∀ w8, Below w7.heap.size w7 w8 → Calls Tryd.prog 16 #[.agg #[.int .i64 y.k, .int .u64 y.n, .string y.s, .slice y.a y.l.length y.c, .int .i64 y.e], .agg #[.int .i64 v.k, .int .u64 v.n, .string v.s, .slice v.a v.l.length v.c, .int .i64 v.e]] w8 fun e w' => e = .returned (.bool true) ∧ Below w.heap.size w w' := by
    intro w8 hb8
    have hs8 := hb8.size
    have hb48 : Below w4.heap.size w4 w8 := (hb5.trans (hb57.mono (by omega))).trans (hb8.mono (by omega))
    have hbw8 : Below w.heap.size w w8 := belOn hbw7 (by omega) hb8
    have q := asLent_any y v w3.heap.size w4.heap.size (fun b => b < w.heap.size) w8 (HLE.out.keep (fun b o q1 q2 q3 => (hb48.block b q2).trans q3)) (by omega) (HV.out.keep hbw8 (Nat.le_refl _)) (fun b hb => ⟨by omega, by omega⟩) ht
    rw [V.val_eq, V.val_eq] at q
    refine q.mono (fun e w' h => ⟨h.1, hbw8.trans (h.2.below (by omega) (by omega))⟩)
  have FIN := hide fin
  clear fin
  cases tt with
  | true =>
    go_wp2_with fail
    refine (FIN.out _ (Below.refl _ _)).mono ?_
    rintro e w9 ⟨rfl, hb9⟩
    go_wp2
    go_ret
    exact ⟨by simp, hb9⟩
  | false =>
    go_wp2_with fail
    have q := deepest_any y w4.heap.size w7 (by omega) ((HLY.out.keep hb5 (Nat.le_refl _)).keep hb57 (by omega)) hwy
    rw [V.val_eq, ht, hdep] at q
    refine q.mono ?_
    clear q
    rintro e w8 ⟨rfl, hb8⟩
    have hs8 := hb8.size
    clear y0 y1 y2 y3 y4 a0 a1 a2 a3 a4
    obtain ⟨y0, y1, y2, y3, y4⟩ := (xy.below (hb57.trans (hb8.mono (by omega))) (by omega)).cells
    obtain ⟨a0, a1, a2, a3, a4⟩ := (xa.below (hbW7.trans (hb8.mono (by omega))) (by omega)).cells
    go_wp2_with fail
    refine (FIN.out _ hb8).mono ?_
    rintro e w9 ⟨rfl, hb9⟩
    go_wp2
    go_ret
    exact ⟨by simp, hb9⟩
end Go.Proofs.YtdlkakllcfkhfaaDoor
