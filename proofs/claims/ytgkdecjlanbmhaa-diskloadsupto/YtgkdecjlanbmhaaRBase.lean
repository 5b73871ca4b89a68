
/- Stage 18: what stays. -/
import Derived.Test.YtgkdecjlanbmhaaProg
import Derived.Test.YtgkdecjlanbmhaaChecked
import Derived.WalkKit
import Derived.WalkSmall
import Derived.WalkSpells
import Derived.Handy
import Derived.Deep.WholeRow
import Derived.Deep.MidRow
namespace Go.Proofs.Ytgkdecjlanbmhaa
open Go.RowKit
set_option linter.unusedVariables false
set_option linter.unusedSimpArgs false

theorem hide {p : Prop} (h : p) : Hid p := h
theorem heap_past {w : World} {b : Nat} {x : Obj} (h : w.heap[b]? = some x) (o : Obj) : (w.alloc o).heap[b]? = some x := (Below.heap_alloc _ _ _ (Array.getElem?_eq_some_iff.1 h).1).trans h
theorem bel1 {B : Nat} {w wr : World} (h : Below B w wr) (hB : B ≤ wr.heap.size) (o : Obj) : Below B w (wr.alloc o) := h.alloc hB o
theorem belOn {B : Nat} {w w1 w2 : World} (h : Below B w w1) (hB : B ≤ w1.heap.size) (k : Below w1.heap.size w1 w2) : Below B w w2 := h.trans (k.mono hB)
theorem blk_set_other (w : World) (a : Addr) (v : Value) (i : Nat) (h : i ≠ a.block) : (w.setCell a v).heap[i]? = w.heap[i]? := Below.heap_setCell _ _ _ _ h
theorem cellOf {W : World} {g : Nat} {cs : Array Value} {t : TypeId} {fr : Nat × Nat} (h : W.heap[g]? = some (.cells cs t fr)) (o : Nat) (v : Value) (hv : cs[o]? = some v) : W.cell? ⟨g, o, none⟩ = some v := by
  simp [World.cell?, h, hv]

/-- nothing has turned but the blocks of S -/
def Kp (S : Nat → Prop) (w w' : World) : Prop := w'.os = w.os ∧ w'.tape = w.tape ∧ w'.output = w.output ∧ w.heap.size ≤ w'.heap.size ∧ ∀ k, k < w.heap.size → ¬ S k → w'.heap[k]? = w.heap[k]?
theorem Kp.refl (S : Nat → Prop) (w : World) : Kp S w w := ⟨rfl, rfl, rfl, Nat.le_refl _, fun _ _ _ => rfl⟩
theorem Kp.size {S : Nat → Prop} {w w' : World} (h : Kp S w w') : w.heap.size ≤ w'.heap.size := h.2.2.2.1
theorem Kp.block {S : Nat → Prop} {w w' : World} (h : Kp S w w') {k : Nat} (hk : k < w.heap.size) (hs : ¬ S k) : w'.heap[k]? = w.heap[k]? := h.2.2.2.2 k hk hs
theorem Kp.setCell {S : Nat → Prop} {w w' : World} (h : Kp S w w') {b o : Nat} (hb : S b) (v : Value) : Kp S w (w'.setCell ⟨b, o, none⟩ v) := by
  obtain ⟨h1, h2, h3, h4, h5⟩ := h
  refine ⟨h1, h2, h3, by simpa using h4, fun k hk hs => ?_⟩
  rw [blk_set_other _ _ _ _ (fun e => hs (by rw [e]; exact hb))]
  exact h5 k hk hs
theorem Kp.fresh {S : Nat → Prop} {w w' : World} (h : Kp S w w') {b o : Nat} (hb : w.heap.size ≤ b) (v : Value) : Kp S w (w'.setCell ⟨b, o, none⟩ v) := by
  obtain ⟨h1, h2, h3, h4, h5⟩ := h
  refine ⟨h1, h2, h3, by simpa using h4, fun k hk hs => ?_⟩
  rw [blk_set_other _ _ _ _ (fun e => by simp at e; omega)]
  exact h5 k hk hs
theorem Kp.below {S : Nat → Prop} {w w' w2 : World} (h : Kp S w w') (hb : Below w'.heap.size w' w2) : Kp S w w2 := by
  obtain ⟨h1, h2, h3, h4, h5⟩ := h
  exact ⟨hb.os.trans h1, hb.tape.trans h2, hb.output.trans h3, Nat.le_trans h4 hb.size, fun k hk hs => (hb.block k (Nat.lt_of_lt_of_le hk h4)).trans (h5 k hk hs)⟩
theorem Kp.ofBelow {S : Nat → Prop} {w w' : World} (hb : Below w.heap.size w w') : Kp S w w' := (Kp.refl S w).below hb
theorem Kp.alloc {S : Nat → Prop} {w w' : World} (h : Kp S w w') (o : Obj) : Kp S w (w'.alloc o) := h.below ((Below.refl _ _).alloc (Nat.le_refl _) _)
theorem Kp.toBelow {S : Nat → Prop} {w w' : World} (h : Kp S w w') {B : Nat} (hB : B ≤ w.heap.size) (hs : ∀ k, k < B → ¬ S k) : Below B w w' :=
  ⟨h.1, h.2.1, h.2.2.1, h.2.2.2.1, fun k hk => h.2.2.2.2 k (Nat.lt_of_lt_of_le hk hB) (hs k hk)⟩
theorem Kp.cell {S : Nat → Prop} {w w' : World} (h : Kp S w w') {b o : Nat} (hb : b < w.heap.size) (hs : ¬ S b) : w'.cell? ⟨b, o, none⟩ = w.cell? ⟨b, o, none⟩ :=
  World.cell?_of_block (a := ⟨b, o, none⟩) (h.2.2.2.2 b hb hs)
theorem Kp.trans {S : Nat → Prop} {w w' w2 : World} (h : Kp S w w') (h2 : Kp S w' w2) : Kp S w w2 :=
  ⟨h2.1.trans h.1, h2.2.1.trans h.2.1, h2.2.2.1.trans h.2.2.1, Nat.le_trans h.2.2.2.1 h2.2.2.2.1, fun k hk hs => (h2.2.2.2.2 k (Nat.lt_of_lt_of_le hk h.2.2.2.1) hs).trans (h.2.2.2.2 k hk hs)⟩
theorem Kp.mono {S S' : Nat → Prop} {w w' : World} (h : Kp S w w') (hs : ∀ k, S k → S' k) : Kp S' w w' :=
  ⟨h.1, h.2.1, h.2.2.1, h.2.2.2.1, fun k hk hn => h.2.2.2.2 k hk (fun e => hn (hs k e))⟩
/-- what is turned in a world that has grown was laid since, or is in S -/
theorem Kp.transN {S T : Nat → Prop} {w w' w2 : World} (h : Kp S w w') (h2 : Kp T w' w2) (hT : ∀ k, T k → S k ∨ w.heap.size ≤ k) : Kp S w w2 :=
  ⟨h2.1.trans h.1, h2.2.1.trans h.2.1, h2.2.2.1.trans h.2.2.1, Nat.le_trans h.2.2.2.1 h2.2.2.2.1, fun k hk hs => (h2.2.2.2.2 k (Nat.lt_of_lt_of_le hk h.2.2.2.1) (fun e => (hT k e).elim hs (fun h => by omega))).trans (h.2.2.2.2 k hk hs)⟩
theorem Kp.grown {S : Nat → Prop} {w w' w2 : World} {row : Option Nat} (h : Kp S w w') (hg : w'.grownBy w2 row) (hr : ∀ j, row = some j → S j ∨ w.heap.size ≤ j) : Kp S w w2 :=
  ⟨hg.os.trans h.1, hg.tape.trans h.2.1, hg.output.trans h.2.2.1, Nat.le_trans h.2.2.2.1 hg.size, fun k hk hs => (hg.block k (Nat.lt_of_lt_of_le hk h.2.2.2.1) (fun e => (hr k e.symm).elim hs (fun h => by omega))).trans (h.2.2.2.2 k hk hs)⟩

theorem heap_new (w : World) (o : Obj) : (w.alloc o).heap[w.heap.size]? = some o := by
  show (w.heap.push o)[w.heap.size]? = some o
  simp
theorem get_at (t : ByteArray) (j : Nat) (h : j < t.size) : (t.get! j).toNat = t[j].toNat := by
  have : t.get! j = t[j] := by
    simp only [ByteArray.get!]
    exact getElem!_pos t.data j h
  rw [this]
end Go.Proofs.Ytgkdecjlanbmhaa
