
/- Stage 14: what stays; a link in its block. -/
import Derived.Test.YtjipcdknkghoaaaProg
import Derived.Test.YtjipcdknkghoaaaChecked
import Derived.WalkKit
import Derived.WalkSmall
import Derived.WalkSpells
import Derived.Deep.WholeRow
import Derived.Deep.MidRow
namespace Go.Proofs.Ytjipcdknkghoaaa
open Go.RowKit Go.Maps
set_option linter.unusedVariables false
set_option linter.unusedSimpArgs false

theorem hide {p : Prop} (h : p) : Hid p := h
theorem heap_past {w : World} {b : Nat} {x : Obj} (h : w.heap[b]? = some x) (o : Obj) : (w.alloc o).heap[b]? = some x := (Below.heap_alloc _ _ _ (Array.getElem?_eq_some_iff.1 h).1).trans h
theorem bel1 {B : Nat} {w wr : World} (h : Below B w wr) (hB : B ≤ wr.heap.size) (o : Obj) : Below B w (wr.alloc o) := h.alloc hB o
theorem belOn {B : Nat} {w w1 w2 : World} (h : Below B w w1) (hB : B ≤ w1.heap.size) (k : Below w1.heap.size w1 w2) : Below B w w2 := h.trans (k.mono hB)
theorem blk_set_other (w : World) (a : Addr) (v : Value) (i : Nat) (h : i ≠ a.block) : (w.setCell a v).heap[i]? = w.heap[i]? := Below.heap_setCell _ _ _ _ h
theorem cellOf {W : World} {g : Nat} {cs : Array Value} {t : TypeId} {fr : Nat × Nat} (h : W.heap[g]? = some (.cells cs t fr)) (o : Nat) (v : Value) (hv : cs[o]? = some v) : W.cell? ⟨g, o, none⟩ = some v := by
  simp [World.cell?, h, hv]

/-- nothing has turned but the blocks of S -/
def Kp (S : Nat → Prop) (w w' : World) : Prop := w'.os = w.os ∧ w'.tape = w.tape ∧ w'.output = w.output ∧ w.heap.size ≤ w'.heap.size ∧ ∀ k, k < w.heap.size → ¬ S k → w'.heap[k]? = w.heap[k]?
theorem Kp.refl (S : Nat → Prop) (w : World) : Kp S w w := ⟨rfl, rfl, rfl, Nat.le_refl _, fun _ _ _ => rfl⟩
theorem Kp.size {S : Nat → Prop} {w w' : World} (h : Kp S w w') : w.heap.size ≤ w'.heap.size := h.2.2.2.1
theorem Kp.block {S : Nat → Prop} {w w' : World} (h : Kp S w w') {k : Nat} (hk : k < w.heap.size) (hs : ¬ S k) : w'.heap[k]? = w.heap[k]? := h.2.2.2.2 k hk hs
theorem Kp.setCell {S : Nat → Prop} {w w' : World} (h : Kp S w w') {b o : Nat} (hb : S b) (v : Value) : Kp S w (w'.setCell ⟨b, o, none⟩ v) := by
  obtain ⟨h1, h2, h3, h4, h5⟩ := h
  refine ⟨h1, h2, h3, by simpa using h4, fun k hk hs => ?_⟩
  rw [blk_set_other _ _ _ _ (fun e => hs (by rw [e]; exact hb))]
  exact h5 k hk hs
theorem Kp.fresh {S : Nat → Prop} {w w' : World} (h : Kp S w w') {b o : Nat} (hb : w.heap.size ≤ b) (v : Value) : Kp S w (w'.setCell ⟨b, o, none⟩ v) := by
  obtain ⟨h1, h2, h3, h4, h5⟩ := h
  refine ⟨h1, h2, h3, by simpa using h4, fun k hk hs => ?_⟩
  rw [blk_set_other _ _ _ _ (fun e => by simp at e; omega)]
  exact h5 k hk hs
theorem Kp.below {S : Nat → Prop} {w w' w2 : World} (h : Kp S w w') (hb : Below w'.heap.size w' w2) : Kp S w w2 := by
  obtain ⟨h1, h2, h3, h4, h5⟩ := h
  exact ⟨hb.os.trans h1, hb.tape.trans h2, hb.output.trans h3, Nat.le_trans h4 hb.size, fun k hk hs => (hb.block k (Nat.lt_of_lt_of_le hk h4)).trans (h5 k hk hs)⟩
theorem Kp.ofBelow {S : Nat → Prop} {w w' : World} (hb : Below w.heap.size w w') : Kp S w w' := (Kp.refl S w).below hb
theorem Kp.alloc {S : Nat → Prop} {w w' : World} (h : Kp S w w') (o : Obj) : Kp S w (w'.alloc o) := h.below ((Below.refl _ _).alloc (Nat.le_refl _) _)
theorem Kp.toBelow {S : Nat → Prop} {w w' : World} (h : Kp S w w') {B : Nat} (hB : B ≤ w.heap.size) (hs : ∀ k, k < B → ¬ S k) : Below B w w' :=
  ⟨h.1, h.2.1, h.2.2.1, h.2.2.2.1, fun k hk => h.2.2.2.2 k (Nat.lt_of_lt_of_le hk hB) (hs k hk)⟩
theorem Kp.cell {S : Nat → Prop} {w w' : World} (h : Kp S w w') {b o : Nat} (hb : b < w.heap.size) (hs : ¬ S b) : w'.cell? ⟨b, o, none⟩ = w.cell? ⟨b, o, none⟩ :=
  World.cell?_of_block (a := ⟨b, o, none⟩) (h.2.2.2.2 b hb hs)
theorem Kp.trans {S : Nat → Prop} {w w' w2 : World} (h : Kp S w w') (h2 : Kp S w' w2) : Kp S w w2 :=
  ⟨h2.1.trans h.1, h2.2.1.trans h.2.1, h2.2.2.1.trans h.2.2.1, Nat.le_trans h.2.2.2.1 h2.2.2.2.1, fun k hk hs => (h2.2.2.2.2 k (Nat.lt_of_lt_of_le hk h.2.2.2.1) hs).trans (h.2.2.2.2 k hk hs)⟩
theorem Kp.mono {S S' : Nat → Prop} {w w' : World} (h : Kp S w w') (hs : ∀ k, S k → S' k) : Kp S' w w' :=
  ⟨h.1, h.2.1, h.2.2.1, h.2.2.2.1, fun k hk hn => h.2.2.2.2 k hk (fun e => hn (hs k e))⟩
/-- what is turned in a world that has grown was laid since, or is in S -/
theorem Kp.transN {S T : Nat → Prop} {w w' w2 : World} (h : Kp S w w') (h2 : Kp T w' w2) (hT : ∀ k, T k → S k ∨ w.heap.size ≤ k) : Kp S w w2 :=
  ⟨h2.1.trans h.1, h2.2.1.trans h.2.1, h2.2.2.1.trans h.2.2.1, Nat.le_trans h.2.2.2.1 h2.2.2.2.1, fun k hk hs => (h2.2.2.2.2 k (Nat.lt_of_lt_of_le hk h.2.2.2.1) (fun e => (hT k e).elim hs (fun h => by omega))).trans (h.2.2.2.2 k hk hs)⟩
theorem Kp.grown {S : Nat → Prop} {w w' w2 : World} {row : Option Nat} (h : Kp S w w') (hg : w'.grownBy w2 row) (hr : ∀ j, row = some j → S j ∨ w.heap.size ≤ j) : Kp S w w2 :=
  ⟨hg.os.trans h.1, hg.tape.trans h.2.1, hg.output.trans h.2.2.1, Nat.le_trans h.2.2.2.1 hg.size, fun k hk hs => (hg.block k (Nat.lt_of_lt_of_le hk h.2.2.2.1) (fun e => (hr k e.symm).elim hs (fun h => by omega))).trans (h.2.2.2.2 k hk hs)⟩

theorem bel_drew (w : World) : Below w.heap.size w w.drew := ⟨rfl, rfl, rfl, Nat.le_refl _, fun _ _ => rfl⟩
theorem kp_self {g : Nat} {w w' : World} (h : Kp (fun k => k = g) w w') (o : Nat) (v : Value) : Kp (fun k => k = g) w (w'.setCell ⟨g, o, none⟩ v) := Kp.setCell h rfl v
theorem ret_int {k : IntKind} {a b : Int} (h : a = b) : Ending.returned (.int k a) = .returned (.int k b) := by rw [h]
def lesser (a b : Int) : Int := if b < a then b else a
def greater (a b : Int) : Int := if a < b then b else a
/-- the gap, as a number -/
def gapZ (a b : Int) : Int := (b - a + 2147483648) % 4294967296 - 2147483648
/-- a link -/
structure Lk where
  nm : ByteArray
  rc : Bool
  ct : Int
  cr : Int
  av : Int
  dr : Bool
  sm : Int
  rm : Int
  fi : Int
  bd : Int
  dm : Nat
def Lk.cells (l : Lk) : Array Value := #[.string l.nm, .bool l.rc, .int .i64 l.ct, .int .i64 l.cr, .int .i64 l.av, .bool l.dr, .int .i64 0, .int .i64 l.sm, .int .i64 l.rm, .int .i64 l.fi, .int .i64 l.bd, .map (some l.dm)]
def LB (w : World) (g : Nat) (l : Lk) : Prop := w.heap[g]? = some (.cells l.cells 84 (0, 0))
section
variable {w w' : World} {g : Nat} {l : Lk}
theorem LB.lt (h : LB w g l) : g < w.heap.size := (Array.getElem?_eq_some_iff.1 h).1
theorem LB.at (h : LB w g l) (hb : w'.heap[g]? = w.heap[g]?) : LB w' g l := hb.trans h
theorem LB.facts (h : LB w g l) : w.cell? ⟨g, 0, none⟩ = some (.string l.nm) ∧ w.cell? ⟨g, 1, none⟩ = some (.bool l.rc) ∧ w.cell? ⟨g, 2, none⟩ = some (.int .i64 l.ct) ∧ w.cell? ⟨g, 3, none⟩ = some (.int .i64 l.cr) ∧ w.cell? ⟨g, 4, none⟩ = some (.int .i64 l.av) ∧ w.cell? ⟨g, 5, none⟩ = some (.bool l.dr) ∧ w.cell? ⟨g, 6, none⟩ = some (.int .i64 0) ∧ w.cell? ⟨g, 7, none⟩ = some (.int .i64 l.sm) ∧ w.cell? ⟨g, 8, none⟩ = some (.int .i64 l.rm) ∧ w.cell? ⟨g, 9, none⟩ = some (.int .i64 l.fi) ∧ w.cell? ⟨g, 10, none⟩ = some (.int .i64 l.bd) ∧ w.cell? ⟨g, 11, none⟩ = some (.map (some l.dm)) := by
  unfold LB at h
  simp [World.cell?, h, Lk.cells]
theorem LB.frozen (h : LB w g l) (j : Nat) : w.frozen? ⟨g, j, none⟩ = false := by
  unfold LB at h
  simp [World.frozen?, h]
theorem LB.set_ct (h : LB w g l) (x : Int) : LB (w.setCell ⟨g, 2, none⟩ (.int .i64 x)) g { l with ct := x } := by
  unfold LB at *
  simp [World.setCell, Array.getElem?_modify, h, Lk.cells]
theorem LB.set_cr (h : LB w g l) (x : Int) : LB (w.setCell ⟨g, 3, none⟩ (.int .i64 x)) g { l with cr := x } := by
  unfold LB at *
  simp [World.setCell, Array.getElem?_modify, h, Lk.cells]
theorem LB.set_av (h : LB w g l) (x : Int) : LB (w.setCell ⟨g, 4, none⟩ (.int .i64 x)) g { l with av := x } := by
  unfold LB at *
  simp [World.setCell, Array.getElem?_modify, h, Lk.cells]
theorem LB.set_dr (h : LB w g l) (x : Bool) : LB (w.setCell ⟨g, 5, none⟩ (.bool x)) g { l with dr := x } := by
  unfold LB at *
  simp [World.setCell, Array.getElem?_modify, h, Lk.cells]
theorem LB.set_bd (h : LB w g l) (x : Int) : LB (w.setCell ⟨g, 10, none⟩ (.int .i64 x)) g { l with bd := x } := by
  unfold LB at *
  simp [World.setCell, Array.getElem?_modify, h, Lk.cells]
theorem LB.drew (h : LB w g l) : LB w.drew g l := h
theorem LB.cast {l' : Lk} (h : LB w g l) (e : l = l') : LB w g l' := e ▸ h
end
end Go.Proofs.Ytjipcdknkghoaaa
