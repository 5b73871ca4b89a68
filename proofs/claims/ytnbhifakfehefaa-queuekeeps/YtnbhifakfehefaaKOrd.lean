
/- Stage 17: the queue's order. -/
import Derived.Test.YtnbhifakfehefaaKBase
import Derived.Test.YtnbhifakfehefaaShelf
import Derived.Deep.RegionHeld
namespace Go.Proofs.Ytnbhifakfehefaa
open Go.RowKit
set_option linter.unusedVariables false
set_option linter.unusedSimpArgs false
def orZ (x y : Int) : Int := if x ≠ 0 then x else y
def ordZ (a b : It) : Int := orZ (Lib.compareInt b.pri a.pri) (Lib.compareInt a.seq b.seq)
/-- a stands ahead of b -/
def Ahead (a b : It) : Prop := b.pri < a.pri ∨ (b.pri = a.pri ∧ a.seq < b.seq)
theorem ordZ_neg (a b : It) : ordZ a b < 0 ↔ Ahead a b := by
  unfold ordZ orZ Lib.compareInt Ahead
  split <;> split <;> (try split) <;> (try split) <;> omega
set_option maxHeartbeats 2000000 in
theorem or_two (g c : Nat) (x y : Int) (w : World) (h0 : w.cell? ⟨g, 0, none⟩ = some (.int .i64 x)) (h1 : w.cell? ⟨g, 1, none⟩ = some (.int .i64 y)) (hc : 2 ≤ c) :
    Calls Try.prog 52 #[.slice (some ⟨g, 0, none⟩) 2 c] w fun e w' => e = .returned (.int .i64 (orZ x y)) ∧ w' = w := by
  by_cases hx : x = 0
  · subst hx
    by_cases hy : y = 0
    · subst hy
      go_enter Try.func52, Try.ntmps52
      go_wp2
      go_rounds 3
      all_goals first | (go_ret; exact ⟨rfl, rfl⟩) | (go_wp2; go_ret; exact ⟨rfl, rfl⟩)
    · have hb : (y == 0) = false := by rw [beq_eq_false_iff_ne]; exact hy
      have e : orZ 0 y = y := by simp [orZ]
      rw [e]
      go_enter Try.func52, Try.ntmps52
      go_wp2
      go_rounds 3
      all_goals first | (go_ret; exact ⟨rfl, rfl⟩) | (go_wp2; go_ret; exact ⟨rfl, rfl⟩)
  · have hb : (x == 0) = false := by rw [beq_eq_false_iff_ne]; exact hx
    have e : orZ x y = x := by simp [orZ, hx]
    rw [e]
    go_enter Try.func52, Try.ntmps52
    go_wp2
    go_rounds 3
    all_goals first | (go_ret; exact ⟨rfl, rfl⟩) | (go_wp2; go_ret; exact ⟨rfl, rfl⟩)
set_option maxRecDepth 100000 in
set_option maxHeartbeats 4000000 in
theorem order_any (a b : It) (w : World) : Calls Try.prog 35 #[a.ent, b.ent] w fun e w' => e = .returned (.int .i64 (ordZ a b)) ∧ Below w.heap.size w w' := by
  have HCM : Hid (∀ (x y : Int) (w1 : World), Calls Try.prog 53 #[.int .i64 x, .int .i64 y] w1 fun e w' => e = .returned (.int .i64 (Lib.compareInt x y)) ∧ w' = w1) := fun x y w1 => Try.cmp_Compare_int x y w1
  unfold It.ent
  obtain ⟨W0, hW0⟩ : ∃ W0, (w.alloc (Obj.cells #[.int .i64 a.seq, .int .i64 a.pri, .int .i64 a.exp, .bool a.dur, .int .i64 a.cnt, .int .i64 a.hol, a.dat] 37)).alloc (Obj.cells #[.int .i64 b.seq, .int .i64 b.pri, .int .i64 b.exp, .bool b.dur, .int .i64 b.cnt, .int .i64 b.hol, b.dat] 37) = W0 := ⟨_, rfl⟩
  have e0 : W0.heap[w.heap.size]? = some (.cells #[.int .i64 a.seq, .int .i64 a.pri, .int .i64 a.exp, .bool a.dur, .int .i64 a.cnt, .int .i64 a.hol, a.dat] 37 (0, 0)) := by rw [← hW0]; exact heap_past (heap_new _ _) _
  have e1 : W0.heap[w.heap.size + 1]? = some (.cells #[.int .i64 b.seq, .int .i64 b.pri, .int .i64 b.exp, .bool b.dur, .int .i64 b.cnt, .int .i64 b.hol, b.dat] 37 (0, 0)) := by
    rw [← hW0]
    have := heap_new (w.alloc (Obj.cells #[.int .i64 a.seq, .int .i64 a.pri, .int .i64 a.exp, .bool a.dur, .int .i64 a.cnt, .int .i64 a.hol, a.dat] 37)) (Obj.cells #[.int .i64 b.seq, .int .i64 b.pri, .int .i64 b.exp, .bool b.dur, .int .i64 b.cnt, .int .i64 b.hol, b.dat] 37)
    simpa using this
  have hb0 : Below w.heap.size w W0 := by rw [← hW0]; exact bel1 (bel1 (Below.refl _ _) (Nat.le_refl _) _) (by simp) _
  have hs0 : W0.heap.size = w.heap.size + 2 := by rw [← hW0]; simp
  have HW0 := hide hW0
  have HSK : Hid (∀ W1 : World, (∀ k, k < W0.heap.size → W1.heap[k]? = W0.heap[k]?) → W1.cell? ⟨w.heap.size, 0, none⟩ = some (.int .i64 a.seq) ∧ W1.cell? ⟨w.heap.size, 1, none⟩ = some (.int .i64 a.pri) ∧ W1.cell? ⟨w.heap.size + 1, 0, none⟩ = some (.int .i64 b.seq) ∧ W1.cell? ⟨w.heap.size + 1, 1, none⟩ = some (.int .i64 b.pri)) := fun W1 h => by
    have f0 := (h _ (by omega)).trans e0
    have f1 := (h _ (by omega)).trans e1
    refine ⟨?_, ?_, ?_, ?_⟩ <;> simp [World.cell?, f0, f1]
  have hmx : Try.prog.follows .mixedOrders = true := by kernel_rfl
  have HS0 := hide (HSK.out W0.drew (fun k hk => rfl))
  have HEA : Hid (Below w.heap.size w (W0.drew.alloc (Obj.cells #[.int .i64 (Lib.compareInt b.pri a.pri), .int .i64 (Lib.compareInt a.seq b.seq)] 3))) := bel1 hb0.drew (by show w.heap.size ≤ W0.heap.size; omega) _
  have HS1 := hide (HSK.out (W0.drew.alloc (Obj.cells #[.int .i64 (Lib.compareInt b.pri a.pri), .int .i64 (Lib.compareInt a.seq b.seq)] 3)) (fun k hk => ((Below.refl W0.drew.heap.size W0.drew).alloc (Nat.le_refl _) _).block k hk))
  have HOR : Hid (Calls Try.prog 52 #[.slice (some ⟨W0.heap.size, 0, none⟩) 2 2] (W0.drew.alloc (Obj.cells #[.int .i64 (Lib.compareInt b.pri a.pri), .int .i64 (Lib.compareInt a.seq b.seq)] 3)) fun e w' => e = .returned (.int .i64 (ordZ a b)) ∧ w' = W0.drew.alloc (Obj.cells #[.int .i64 (Lib.compareInt b.pri a.pri), .int .i64 (Lib.compareInt a.seq b.seq)] 3)) := by
    have hh := heap_new W0.drew (Obj.cells #[.int .i64 (Lib.compareInt b.pri a.pri), .int .i64 (Lib.compareInt a.seq b.seq)] 3)
    have hh' : (W0.drew.alloc (Obj.cells #[.int .i64 (Lib.compareInt b.pri a.pri), .int .i64 (Lib.compareInt a.seq b.seq)] 3)).heap[W0.heap.size]? = some (Obj.cells #[.int .i64 (Lib.compareInt b.pri a.pri), .int .i64 (Lib.compareInt a.seq b.seq)] 3) := hh
    exact or_two W0.heap.size 2 _ _ _ (by simp only [World.cell?, hh']; rfl) (by simp only [World.cell?, hh']; rfl) (Nat.le_refl _)
  clear e0 e1 hb0 hW0 hs0
  go_enter Try.func35, Try.ntmps35
  go_wp2_with fail
  rw [HW0.out]
  go_region_held (fun W1 => W1.cell? ⟨w.heap.size, 0, none⟩ = some (.int .i64 a.seq) ∧ W1.cell? ⟨w.heap.size, 1, none⟩ = some (.int .i64 a.pri) ∧ W1.cell? ⟨w.heap.size + 1, 0, none⟩ = some (.int .i64 b.seq) ∧ W1.cell? ⟨w.heap.size + 1, 1, none⟩ = some (.int .i64 b.pri)) (first | exact HS0.out | exact HS1.out) (first | (go_at_call 53; refine Calls.mono (HCM.out _ _ _) ?_; rintro e w' ⟨rfl, rfl⟩) | (go_at_call 52; refine Calls.mono HOR.out ?_; rintro e w' ⟨rfl, rfl⟩))
  go_wp2
  go_ret
  exact ⟨rfl, HEA.out⟩
end Go.Proofs.Ytnbhifakfehefaa
