/- longshoreref02's AsLent, where what was lent reads as it did. -/
import Derived.Test.YtaedlnliglmomaaDoorVLentW
import Derived.Deep.RegionWith
namespace Go.Proofs.YtaedlnliglmomaaDoor
open Go.RowKit
set_option linter.unusedVariables false
set_option linter.unusedSimpArgs false

/-- only the blocks from lo up to hi have turned, of those that were there -/
structure Turns (lo hi : Nat) (w w' : World) : Prop where
  os : w'.os = w.os
  tape : w'.tape = w.tape
  output : w'.output = w.output
  size : w.heap.size ≤ w'.heap.size
  block : ∀ k, k < w.heap.size → ¬ (lo ≤ k ∧ k < hi) → w'.heap[k]? = w.heap[k]?
theorem Turns.refl (lo hi : Nat) (w : World) : Turns lo hi w w := ⟨rfl, rfl, rfl, Nat.le_refl _, fun _ _ _ => rfl⟩
theorem Turns.trans {lo hi : Nat} {a b c : World} (h : Turns lo hi a b) (k : Turns lo hi b c) : Turns lo hi a c :=
  ⟨k.os.trans h.os, k.tape.trans h.tape, k.output.trans h.output, Nat.le_trans h.size k.size, fun i hi hn => (k.block i (Nat.lt_of_lt_of_le hi h.size) hn).trans (h.block i hi hn)⟩
theorem Turns.wide {lo hi lo' hi' : Nat} {a b : World} (h : Turns lo hi a b) (h1 : lo' ≤ lo) (h2 : hi ≤ hi') : Turns lo' hi' a b :=
  ⟨h.os, h.tape, h.output, h.size, fun i hi hn => h.block i hi (fun q => hn (by omega))⟩
theorem Turns.of_below {lo hi : Nat} {a b : World} (h : Below a.heap.size a b) : Turns lo hi a b := ⟨h.os, h.tape, h.output, h.size, fun i hi _ => h.block i hi⟩
theorem Turns.below {lo hi n : Nat} {a b : World} (h : Turns lo hi a b) (hn : n ≤ lo) (hs : n ≤ a.heap.size) : Below n a b := ⟨h.os, h.tape, h.output, h.size, fun i hi => h.block i (by omega) (by omega)⟩
theorem Turns.drew {lo hi : Nat} {a b : World} (h : Turns lo hi a b) : Turns lo hi a b.drew := ⟨h.os, h.tape, h.output, h.size, h.block⟩
theorem Turns.setCell {lo hi : Nat} {a w : World} (h : Turns lo hi a w) {b : Nat} (h1 : lo ≤ b) (h2 : b < hi) (o : Nat) (v : Value) : Turns lo hi a (w.setCell ⟨b, o, none⟩ v) :=
  ⟨h.os, h.tape, h.output, by have := h.size; simp [World.setCell]; omega, fun i hi hn => by rw [Below.heap_setCell _ _ _ _ (by show i ≠ b; omega)]; exact h.block i hi hn⟩
theorem Turns.put5 {lo hi : Nat} {a w : World} (h : Turns lo hi a w) {b : Nat} (h1 : lo ≤ b) (h2 : b < hi) (o : Nat) (y : V) : Turns lo hi a (put5 w b o y) := by
  rw [← put5_eq]
  exact ((((h.setCell h1 h2 _ _).setCell h1 h2 _ _).setCell h1 h2 _ _).setCell h1 h2 _ _).setCell h1 h2 _ _
theorem Turns.same {lo hi : Nat} {a w : World} (h : Turns lo hi a w) {b : Nat} (hb : b < a.heap.size) (hn : ¬ (lo ≤ b ∧ b < hi)) : Same a w b := fun o => World.cell?_of_block (h.block b hb hn)

/-- what AsLent is asked, of a value y that was lent -/
def AsOk (y : V) : Prop := ∀ (v : V) (lo hi : Nat) (Q : Nat → Prop) (w : World), Lent w y lo hi → hi ≤ w.heap.size → LiesIn Q w v → (∀ b, Q b → b < w.heap.size ∧ ¬ (lo ≤ b ∧ b < hi)) → y.t = v.t →
  Calls Tryd.prog 15 #[y.val, v.val] w fun e w' => e = .returned (.bool true) ∧ Turns lo hi w w'

/-- how far AsLentAll has come -/
structure AsSoFar (l : List V) (g : Nat → Nat) (b lo hi j : Nat) (w wr : World) : Prop where
  turns : Turns lo hi w wr
  blk : Blk wr b 25 ((l.length + 3) * 5)
  row : ∀ o, j * 5 ≤ o → wr.cell? ⟨b, o, none⟩ = w.cell? ⟨b, o, none⟩
  rest : ∀ i (h : i < l.length), j ≤ i → Lent wr l[i] (g i) (g (i + 1))

def dead : V := .of (-8) 0 ⟨#[]⟩ none 0 0 []
theorem put5_dead (w : World) (b o : Nat) :
    (((((w.setCell ⟨b, o, none⟩ (.int .i64 (-8))).setCell ⟨b, o + 1, none⟩ (.int .u64 0)).setCell ⟨b, o + 2, none⟩ (.string ⟨#[]⟩)).setCell ⟨b, o + 3, none⟩ (.slice none 0 0)).setCell ⟨b, o + 4, none⟩ (.int .i64 0)) = put5 w b o dead := put5_of w b o (-8) 0 ⟨#[]⟩ none 0 0 []
theorem heap_put5 (w : World) (b o k : Nat) (y : V) (h : k ≠ b) : (put5 w b o y).heap[k]? = w.heap[k]? := by
  rw [← put5_eq]
  rw [Below.heap_setCell _ _ _ _ h, Below.heap_setCell _ _ _ _ h, Below.heap_setCell _ _ _ _ h, Below.heap_setCell _ _ _ _ h, Below.heap_setCell _ _ _ _ h]

theorem g_mono {W : World} {l : List V} {g : Nat → Nat} (h : ∀ i (h : i < l.length), Lent W l[i] (g i) (g (i + 1))) : ∀ j, j ≤ l.length → ∀ i, i ≤ j → g i ≤ g j := by
  intro j
  induction j with
  | zero => intro _ i hi; obtain rfl : i = 0 := by omega
            exact Nat.le_refl _
  | succ j ihj =>
    intro hj i hi
    by_cases e : i = j + 1
    · rw [e]; exact Nat.le_refl _
    · have := (h j (by omega)).rise
      have := ihj (by omega) i (by omega)
      omega

/-- a place is written over, behind the value's own -/
theorem AsSoFar.next {l : List V} {g : Nat → Nat} {b lo hi j : Nat} {w wr w1 : World} (h : AsSoFar l g b lo hi j w wr) (hg : ∀ i (h : i < l.length), Lent w l[i] (g i) (g (i + 1))) (h0 : b < g 0) (hgh : g l.length ≤ hi) (hlo : lo ≤ b) (hhi : hi ≤ w.heap.size) (hj : j < l.length + 3)
    (h1 : Turns (if j < l.length then g j else 0) (if j < l.length then g (j + 1) else 0) wr w1) : AsSoFar l g b lo hi (j + 1) w (put5 w1 b (j * 5) dead) := by
  have hm := g_mono hg
  have hsz := h.turns.size
  have hb : b < hi := by have := hm l.length (Nat.le_refl _) 0 (by omega); omega
  have hw1 : Turns lo hi wr w1 := by
    by_cases e : j < l.length
    · rw [if_pos e, if_pos e] at h1
      refine h1.wide ?_ ?_
      · have := hm j (by omega) 0 (by omega); omega
      · have := hm l.length (Nat.le_refl _) (j + 1) (by omega); omega
    · rw [if_neg e, if_neg e] at h1
      exact ⟨h1.os, h1.tape, h1.output, h1.size, fun i q _ => h1.block i q (by omega)⟩
  have hout : ¬ ((if j < l.length then g j else 0) ≤ b ∧ b < (if j < l.length then g (j + 1) else 0)) := by
    by_cases e : j < l.length
    · rw [if_pos e, if_pos e]
      have := hm j (by omega) 0 (by omega)
      omega
    · rw [if_neg e, if_neg e]; omega
  have hk1 : Blk w1 b 25 ((l.length + 3) * 5) := by
    obtain ⟨cs, q1, q2⟩ := h.blk
    exact ⟨cs, (h1.block b (by omega) hout).trans q1, q2⟩
  refine ⟨(h.turns.trans hw1).put5 hlo hb _ _, put5_blk hk1 _ _, fun o ho => ?_, fun i hi' hij => ?_⟩
  · have e1 : (put5 w1 b (j * 5) dead).cell? ⟨b, o, none⟩ = w1.cell? ⟨b, o, none⟩ := World.cell?_setCells_out b (words dead) _ w1 _ (fun _ _ => .inr (by simp [words]; omega))
    rw [e1, h1.same (by omega) hout o]
    exact h.row o (by omega)
  · refine (h.rest i hi' (by omega)).keep (fun b' o' q1 q2 q3 => ?_)
    have g0 := hm i (by omega) 0 (by omega)
    have g1 := hm l.length (Nat.le_refl _) (i + 1) (by omega)
    rw [heap_put5 _ _ _ _ _ (by omega)]
    refine (h1.block b' (by omega) ?_).trans q3
    rw [if_pos (by omega), if_pos (by omega)]
    have := hm i (by omega) (j + 1) (by omega)
    omega
end Go.Proofs.YtaedlnliglmomaaDoor
