/- two lent values: what turns where. -/
import Derived.Test.YtaedlnliglmomaaDoorVAwake
import Derived.Test.YtaedlnliglmomaaDoorVAsLentV
import Derived.Test.YtaedlnliglmomaaDoorVTurnW
import Derived.Test.YtaedlnliglmomaaDoorVOverW
import Derived.Test.YtaedlnliglmomaaDoorVSelf
import Derived.Test.YtaedlnliglmomaaDoorVEq
namespace Go.Proofs.YtaedlnliglmomaaDoor
open Go.RowKit
set_option linter.unusedVariables false
set_option linter.unusedSimpArgs false

/-- two values laid in a row -/
theorem row2 {W : World} {b : Nat} {x y : V} (h : W.heap[b]? = some (.cells #[.int .i64 x.k, .int .u64 x.n, .string x.s, .slice x.a x.l.length x.c, .int .i64 x.e, .int .i64 y.k, .int .u64 y.n, .string y.s, .slice y.a y.l.length y.c, .int .i64 y.e] 25 (0, 0))) : Row W b 0 [x, y] := by
  intro i hi
  have : i = 0 ∨ i = 1 := by simp at hi; omega
  rcases this with rfl | rfl <;> refine ⟨?_, ?_, ?_, ?_, ?_⟩ <;> simp [World.cell?, h]

/-- only the blocks of two stretches have turned -/
structure Turn2 (p q r s : Nat) (w w' : World) : Prop where
  os : w'.os = w.os
  tape : w'.tape = w.tape
  output : w'.output = w.output
  size : w.heap.size ≤ w'.heap.size
  block : ∀ k, k < w.heap.size → ¬ (p ≤ k ∧ k < q) → ¬ (r ≤ k ∧ k < s) → w'.heap[k]? = w.heap[k]?
theorem Turn2.refl (p q r s : Nat) (w : World) : Turn2 p q r s w w := ⟨rfl, rfl, rfl, Nat.le_refl _, fun _ _ _ _ => rfl⟩
theorem Turn2.trans {p q r s : Nat} {a b c : World} (h : Turn2 p q r s a b) (k : Turn2 p q r s b c) : Turn2 p q r s a c :=
  ⟨k.os.trans h.os, k.tape.trans h.tape, k.output.trans h.output, Nat.le_trans h.size k.size, fun i hi h1 h2 => (k.block i (Nat.lt_of_lt_of_le hi h.size) h1 h2).trans (h.block i hi h1 h2)⟩
theorem Turn2.of_below {p q r s : Nat} {a b : World} (h : Below a.heap.size a b) : Turn2 p q r s a b := ⟨h.os, h.tape, h.output, h.size, fun i hi _ _ => h.block i hi⟩
theorem Turn2.fst {p q r s : Nat} {a b : World} (h : Turns p q a b) : Turn2 p q r s a b := ⟨h.os, h.tape, h.output, h.size, fun i hi h1 _ => h.block i hi h1⟩
theorem Turn2.snd {p q r s r' s' : Nat} {a b : World} (h : Turns r' s' a b) (h1 : r ≤ r') (h2 : s' ≤ s) : Turn2 p q r s a b := ⟨h.os, h.tape, h.output, h.size, fun i hi _ q => h.block i hi (by omega)⟩
theorem Turn2.setCell {p q r s : Nat} {a w : World} (h : Turn2 p q r s a w) {b : Nat} (h1 : r ≤ b) (h2 : b < s) (o : Nat) (v : Value) : Turn2 p q r s a (w.setCell ⟨b, o, none⟩ v) :=
  ⟨h.os, h.tape, h.output, by have := h.size; simp [World.setCell]; omega, fun i hi q1 q2 => by rw [Below.heap_setCell _ _ _ _ (by show i ≠ b; omega)]; exact h.block i hi q1 q2⟩
theorem Turn2.box {p q r s : Nat} {a w : World} (h : Turn2 p q r s a w) {b : Nat} {v : V} (hx : BoxV a b v) (h1 : ¬ (p ≤ b ∧ b < q)) (h2 : ¬ (r ≤ b ∧ b < s)) : BoxV w b v := (h.block b hx.lt h1 h2).trans hx
theorem Turn2.lies {p q r s : Nat} {a w : World} (h : Turn2 p q r s a w) {Q : Nat → Prop} {v : V} (hv : LiesIn Q a v) (hq : ∀ b, Q b → b < a.heap.size ∧ ¬ (p ≤ b ∧ b < q) ∧ ¬ (r ≤ b ∧ b < s)) : LiesIn Q w v :=
  hv.keep (fun b hb o => World.cell?_of_block (h.block b (hq b hb).1 (hq b hb).2.1 (hq b hb).2.2)) (fun _ h => h)
theorem Turn2.below {p q r s n : Nat} {a w : World} (h : Turn2 p q r s a w) (h1 : n ≤ p) (h2 : n ≤ r) (h3 : n ≤ a.heap.size) : Below n a w := ⟨h.os, h.tape, h.output, h.size, fun i hi => h.block i (by omega) (by omega) (by omega)⟩

theorem BoxV.num {w : World} {b : Nat} {y : V} (h : BoxV w b y) (n : Int) {l : List V} (hl : l.length = y.l.length) : BoxV (w.setCell ⟨b, 1, none⟩ (.int .u64 n)) b (V.of y.k n y.s y.a y.c y.e l) := by
  unfold BoxV at h ⊢
  rw [V.k_of, V.n_of, V.s_of, V.a_of, V.c_of, V.e_of, V.l_of, hl]
  simp [World.setCell, Array.getElem?_modify, h]
theorem BoxV.blk {w : World} {b : Nat} {y : V} (h : BoxV w b y) : Blk w b 25 5 := ⟨_, h, rfl⟩
theorem Turns.box {p q : Nat} {a w : World} (h : Turns p q a w) {b : Nat} {v : V} (hx : BoxV a b v) (h1 : ¬ (p ≤ b ∧ b < q)) : BoxV w b v := (h.block b hx.lt h1).trans hx
end Go.Proofs.YtaedlnliglmomaaDoor
