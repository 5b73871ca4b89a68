/- ValueStands: its walk. -/
import Derived.Test.YtdlkakllcfkhfaaDoorVAwake
import Derived.Test.YtdlkakllcfkhfaaDoorVWeigh
namespace Go.Proofs.YtdlkakllcfkhfaaDoor
open Go.RowKit
set_option linter.unusedVariables false

/-- three values laid in a row -/
theorem row3 {W : World} {b : Nat} {x y z : V} (h : W.heap[b]? = some (.cells #[.int .i64 x.k, .int .u64 x.n, .string x.s, .slice x.a x.l.length x.c, .int .i64 x.e, .int .i64 y.k, .int .u64 y.n, .string y.s, .slice y.a y.l.length y.c, .int .i64 y.e, .int .i64 z.k, .int .u64 z.n, .string z.s, .slice z.a z.l.length z.c, .int .i64 z.e] 25 (0, 0))) : Row W b 0 [x, y, z] := by
  intro i hi
  have : i = 0 ∨ i = 1 ∨ i = 2 := by simp at hi; omega
  rcases this with rfl | rfl | rfl <;> refine ⟨?_, ?_, ?_, ?_, ?_⟩ <;> simp [World.cell?, h]

/-- the two or three ways of three answers -/
theorem tri_ways {p q r : Int} (hp : Sgn p) (hq : Sgn q) (hr : Sgn r) (h : Tri p q r) :
    (p = -1 ∧ q = -1 ∧ r = -1) ∨ (p = -1 ∧ q = 0 ∧ r = -1) ∨ (p = 0 ∧ q = -1 ∧ r = -1) ∨ (p = 0 ∧ q = 0 ∧ r = 0) ∨ (p = 1 ∧ q = 1 ∧ r = 1) ∨ (p = 1 ∧ q = 0 ∧ r = 1) ∨ (p = 0 ∧ q = 1 ∧ r = 1) ∨
    (p = -1 ∧ q = 1 ∧ r = -1) ∨ (p = -1 ∧ q = 1 ∧ r = 0) ∨ (p = -1 ∧ q = 1 ∧ r = 1) ∨ (p = 1 ∧ q = -1 ∧ r = -1) ∨ (p = 1 ∧ q = -1 ∧ r = 0) ∨ (p = 1 ∧ q = -1 ∧ r = 1) := by
  unfold Sgn at hp hq hr
  unfold Tri at h
  obtain ⟨h1, h2⟩ := h
  rcases hp with rfl | rfl | rfl <;> rcases hq with rfl | rfl | rfl <;> rcases hr with rfl | rfl | rfl <;> first | decide | (exfalso; omega)

set_option maxRecDepth 100000 in
set_option maxHeartbeats 2000000 in
theorem stands_walk (a b c : V) (w : World) (ha : Lies w.heap.size w a) (hb : Lies w.heap.size w b) (hc : Lies w.heap.size w c) :
    Calls Tryd.prog 6 #[a.val, b.val, c.val] w fun e w' => e = .returned (.bool true) ∧ Below w.heap.size w w' := by
  have HA := hide ha
  have HB := hide hb
  have HC := hide hc
  clear ha hb hc
  rw [V.val_eq, V.val_eq, V.val_eq]
  go_enter Tryd.func6, Tryd.ntmps6
  go_wp2_with fail
  obtain ⟨W0, hW0⟩ : ∃ W0, ((w.alloc (Obj.cells #[.int .i64 a.k, .int .u64 a.n, .string a.s, .slice a.a a.l.length a.c, .int .i64 a.e] 25)).alloc (Obj.cells #[.int .i64 b.k, .int .u64 b.n, .string b.s, .slice b.a b.l.length b.c, .int .i64 b.e] 25)).alloc (Obj.cells #[.int .i64 c.k, .int .u64 c.n, .string c.s, .slice c.a c.l.length c.c, .int .i64 c.e] 25) = W0 := ⟨_, rfl⟩
  have hs0 : W0.heap.size = w.heap.size + 3 := by rw [← hW0]; simp
  have hb0 : Below w.heap.size w W0 := by rw [← hW0]; exact bel1 (bel2 (Below.refl _ _) (Nat.le_refl _) _ _) (by simp; omega) _
  have xa : BoxV W0 w.heap.size a := by rw [← hW0]; exact heap_past (heap_past (World.alloc_heap_new _ _) _) _
  have xb : BoxV W0 (w.heap.size + 1) b := by rw [← hW0]; exact heap_past (heap_at1 _ _ _) _
  have xc : BoxV W0 (w.heap.size + 1 + 1) c := by rw [← hW0]; exact heap_at2 _ _ _ _
  rw [hW0]
  clear hW0
  refine (awake_any W0).mono ?_
  rintro e w1 ⟨rfl, hb1⟩
  have hs1 := hb1.size
  obtain ⟨a0, a1, a2, a3, a4⟩ := (xa.below hb1 (by omega)).cells
  obtain ⟨b0, b1, b2, b3, b4⟩ := (xb.below hb1 (by omega)).cells
  obtain ⟨c0, c1, c2, c3, c4⟩ := (xc.below hb1 (by omega)).cells
  go_wp2_with fail
  have hbA := bel1 (Below.refl w1.heap.size w1) (Nat.le_refl _) (Obj.cells #[.int .i64 a.k, .int .u64 a.n, .string a.s, .slice a.a a.l.length a.c, .int .i64 a.e, .int .i64 b.k, .int .u64 b.n, .string b.s, .slice b.a b.l.length b.c, .int .i64 b.e, .int .i64 c.k, .int .u64 c.n, .string c.s, .slice c.a c.l.length c.c, .int .i64 c.e] 25)
  have hbw1 : Below w.heap.size w w1 := belOn hb0 (by omega) hb1
  have hbwA : Below w.heap.size w _ := belOn hbw1 (by omega) hbA
  refine (greatall_any w1.heap.size 0 3 w.heap.size [a, b, c] _ (by simp; omega) (row3 (World.alloc_heap_new _ _)) (by simp) (fun x hx => ?_) (by simp) (by omega)).mono ?_
  · simp only [List.mem_cons, List.not_mem_nil, or_false] at hx
    rcases hx with rfl | rfl | rfl
    · exact HA.out.keep hbwA (Nat.le_refl _)
    · exact HB.out.keep hbwA (Nat.le_refl _)
    · exact HC.out.keep hbwA (Nat.le_refl _)
  rintro e w2 (⟨rfl, hb2⟩ | ⟨rfl, _, hb2⟩)
  · go_wp2
    go_ret
    exact ⟨rfl, belOn hbwA (by simp; omega) hb2⟩
  have hbW2 : Below W0.heap.size W0 w2 := (hb1.trans (hbA.mono hs1)).trans (hb2.mono (by simp; omega))
  have hbw2 : Below w.heap.size w w2 := belOn hbwA (by simp; omega) hb2
  have hs2 := hbW2.size
  clear hb2 hbA hbwA a0 a1 a2 a3 a4 b0 b1 b2 b3 b4 c0 c1 c2 c3 c4
  obtain ⟨a0, a1, a2, a3, a4⟩ := (xa.below hbW2 (by omega)).cells
  obtain ⟨b0, b1, b2, b3, b4⟩ := (xb.below hbW2 (by omega)).cells
  go_wp2_with fail
  have q := order_any a b w.heap.size w2 (by omega) (HA.out.keep hbw2 (Nat.le_refl _)) (HB.out.keep hbw2 (Nat.le_refl _))
  rw [V.val_eq, V.val_eq] at q
  refine q.mono ?_
  clear q a0 a1 a2 a3 a4 b0 b1 b2 b3 b4
  rintro e w3 ⟨rfl, hb3⟩
  have hs3 := hb3.size
  have hbW3 : Below W0.heap.size W0 w3 := belOn hbW2 hs2 hb3
  have hbw3 : Below w.heap.size w w3 := belOn hbw2 (by omega) hb3
  obtain ⟨b0, b1, b2, b3, b4⟩ := (xb.below hbW3 (by omega)).cells
  obtain ⟨c0, c1, c2, c3, c4⟩ := (xc.below hbW3 (by omega)).cells
  go_wp2_with fail
  have q := order_any b c w.heap.size w3 (by omega) (HB.out.keep hbw3 (Nat.le_refl _)) (HC.out.keep hbw3 (Nat.le_refl _))
  rw [V.val_eq, V.val_eq] at q
  refine q.mono ?_
  clear q b0 b1 b2 b3 b4 c0 c1 c2 c3 c4
  rintro e w4 ⟨rfl, hb4⟩
  have hs4 := hb4.size
  have hbW4 : Below W0.heap.size W0 w4 := belOn hbW3 (by omega) hb4
  have hbw4 : Below w.heap.size w w4 := belOn hbw3 (by omega) hb4
  obtain ⟨a0, a1, a2, a3, a4⟩ := (xa.below hbW4 (by omega)).cells
  obtain ⟨c0, c1, c2, c3, c4⟩ := (xc.below hbW4 (by omega)).cells
  go_wp2_with fail
  have q := order_any a c w.heap.size w4 (by omega) (HA.out.keep hbw4 (Nat.le_refl _)) (HC.out.keep hbw4 (Nat.le_refl _))
  rw [V.val_eq, V.val_eq] at q
  refine q.mono ?_
  clear q a0 a1 a2 a3 a4 c0 c1 c2 c3 c4
  rintro e w5 ⟨rfl, hb5⟩
  have hs5 := hb5.size
  have hbW5 : Below W0.heap.size W0 w5 := belOn hbW4 (by omega) hb5
  have hbw5 : Below w.heap.size w w5 := belOn hbw4 (by omega) hb5
  obtain ⟨a0, a1, a2, a3, a4⟩ := (xa.below hbW5 (by omega)).cells
  obtain ⟨c0, c1, c2, c3, c4⟩ := (xc.below hbW5 (by omega)).cells
  go_wp2_with fail
  have q := order_any c a w.heap.size w5 (by omega) (HC.out.keep hbw5 (Nat.le_refl _)) (HA.out.keep hbw5 (Nat.le_refl _))
  rw [V.val_eq, V.val_eq] at q
  refine q.mono ?_
  clear q a0 a1 a2 a3 a4 c0 c1 c2 c3 c4
  rintro e w6 ⟨rfl, hb6⟩
  have hbw6 : Below w.heap.size w w6 := belOn hbw5 (by omega) hb6
  rw [neg_ord a.t c.t]
  have hw := tri_ways (sgn_ord a.t b.t) (sgn_ord b.t c.t) (sgn_ord a.t c.t) (tri_ord a.t b.t c.t)
  generalize T.ord a.t b.t = p at hw ⊢
  generalize T.ord b.t c.t = q at hw ⊢
  generalize T.ord a.t c.t = r at hw ⊢
  clear hb1 hb3 hb4 hb5 hb6 hbW2 hbW3 hbW4 hbW5 hbw1 hbw2 hbw3 hbw4 hbw5 xa xb xc hb0
  rcases hw with ⟨rfl, rfl, rfl⟩ | ⟨rfl, rfl, rfl⟩ | ⟨rfl, rfl, rfl⟩ | ⟨rfl, rfl, rfl⟩ | ⟨rfl, rfl, rfl⟩ | ⟨rfl, rfl, rfl⟩ | ⟨rfl, rfl, rfl⟩ | ⟨rfl, rfl, rfl⟩ | ⟨rfl, rfl, rfl⟩ | ⟨rfl, rfl, rfl⟩ | ⟨rfl, rfl, rfl⟩ | ⟨rfl, rfl, rfl⟩ | ⟨rfl, rfl, rfl⟩
  all_goals
    go_wp2
    go_ret
    exact ⟨rfl, hbw6⟩
end Go.Proofs.YtdlkakllcfkhfaaDoor
