/- VTurn2 -/
import Derived.Test.YtgldcchleoklcaaGreatDoorK12
import Derived.Test.YtgldcchleoklcaaGreatDoorK11
import Derived.Test.YtgldcchleoklcaaGreatDoorK22
import Derived.Test.YtgldcchleoklcaaGreatDoorK14
import Derived.Test.YtgldcchleoklcaaGreatDoorK44
import Derived.Test.YtgldcchleoklcaaGreatDoorK25
import Derived.Test.YtgldcchleoklcaaGreatDoorK45
namespace Go.Proofs.YtgldcchleoklcaaGreatDoor

open Go.RowKit
set_option linter.unusedVariables false
set_option linter.unusedSimpArgs false

/-- only the blocks of two stretches have turned -/
structure Turn2 (p q r s : Nat) (w w' : World) : Prop where
  os : w'.os = w.os
  tape : w'.tape = w.tape
  output : w'.output = w.output
  size : w.heap.size ≤ w'.heap.size
  block : ∀ k, k < w.heap.size → ¬ (p ≤ k ∧ k < q) → ¬ (r ≤ k ∧ k < s) → w'.heap[k]? = w.heap[k]?
theorem Turn2.refl (p q r s : Nat) (w : World) : Turn2 p q r s w w := ⟨rfl, rfl, rfl, Nat.le_refl _, fun _ _ _ _ => rfl⟩
theorem Turn2.trans {p q r s : Nat} {a b c : World} (h : Turn2 p q r s a b) (k : Turn2 p q r s b c) : Turn2 p q r s a c :=
  ⟨k.os.trans h.os, k.tape.trans h.tape, k.output.trans h.output, Nat.le_trans h.size k.size, fun i hi h1 h2 => (k.block i (Nat.lt_of_lt_of_le hi h.size) h1 h2).trans (h.block i hi h1 h2)⟩
theorem Turn2.fst {p q r s : Nat} {a b : World} (h : Turns p q a b) : Turn2 p q r s a b := ⟨h.os, h.tape, h.output, h.size, fun i hi h1 _ => h.block i hi h1⟩
theorem Turn2.setCell {p q r s : Nat} {a w : World} (h : Turn2 p q r s a w) {b : Nat} (h1 : r ≤ b) (h2 : b < s) (o : Nat) (v : Value) : Turn2 p q r s a (w.setCell ⟨b, o, none⟩ v) :=
  ⟨h.os, h.tape, h.output, by have := h.size; simp [World.setCell]; omega, fun i hi q1 q2 => by rw [Below.heap_setCell _ _ _ _ (by show i ≠ b; omega)]; exact h.block i hi q1 q2⟩
theorem Turn2.lies {p q r s : Nat} {a w : World} (h : Turn2 p q r s a w) {Q : Nat → Prop} {v : V} (hv : LiesIn Q a v) (hq : ∀ b, Q b → b < a.heap.size ∧ ¬ (p ≤ b ∧ b < q) ∧ ¬ (r ≤ b ∧ b < s)) : LiesIn Q w v :=
  hv.keep (fun b hb o => World.cell?_of_block (h.block b (hq b hb).1 (hq b hb).2.1 (hq b hb).2.2)) (fun _ h => h)
theorem Turn2.below {p q r s n : Nat} {a w : World} (h : Turn2 p q r s a w) (h1 : n ≤ p) (h2 : n ≤ r) (h3 : n ≤ a.heap.size) : Below n a w := ⟨h.os, h.tape, h.output, h.size, fun i hi => h.block i (by omega) (by omega) (by omega)⟩

end Go.Proofs.YtgldcchleoklcaaGreatDoor
