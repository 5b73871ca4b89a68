
/- Stage 13: what stays; a session in its block. -/
import Derived.Test.YtondbhdlccpklaaQTab
import Derived.Test.YtondbhdlccpklaaProg
import Derived.Test.YtondbhdlccpklaaChecked
import Derived.WalkKit
import Derived.WalkSmall
import Derived.WalkSpells
import Derived.Deep.WholeRow
import Derived.Deep.MidRow
namespace Go.Proofs.Ytondbhdlccpklaa
open Go.RowKit Go.Maps
set_option linter.unusedVariables false
set_option linter.unusedSimpArgs false

theorem hide {p : Prop} (h : p) : Hid p := h
theorem heap_past {w : World} {b : Nat} {x : Obj} (h : w.heap[b]? = some x) (o : Obj) : (w.alloc o).heap[b]? = some x := (Below.heap_alloc _ _ _ (Array.getElem?_eq_some_iff.1 h).1).trans h
theorem bel1 {B : Nat} {w wr : World} (h : Below B w wr) (hB : B ≤ wr.heap.size) (o : Obj) : Below B w (wr.alloc o) := h.alloc hB o
theorem belOn {B : Nat} {w w1 w2 : World} (h : Below B w w1) (hB : B ≤ w1.heap.size) (k : Below w1.heap.size w1 w2) : Below B w w2 := h.trans (k.mono hB)
theorem blk_set_other (w : World) (a : Addr) (v : Value) (i : Nat) (h : i ≠ a.block) : (w.setCell a v).heap[i]? = w.heap[i]? := Below.heap_setCell _ _ _ _ h
theorem cellOf {W : World} {g : Nat} {cs : Array Value} {t : TypeId} {fr : Nat × Nat} (h : W.heap[g]? = some (.cells cs t fr)) (o : Nat) (v : Value) (hv : cs[o]? = some v) : W.cell? ⟨g, o, none⟩ = some v := by
  simp [World.cell?, h, hv]

/-- nothing has turned but the blocks of S -/
def Kp (S : Nat → Prop) (w w' : World) : Prop := w'.os = w.os ∧ w'.tape = w.tape ∧ w'.output = w.output ∧ w.heap.size ≤ w'.heap.size ∧ ∀ k, k < w.heap.size → ¬ S k → w'.heap[k]? = w.heap[k]?
theorem Kp.refl (S : Nat → Prop) (w : World) : Kp S w w := ⟨rfl, rfl, rfl, Nat.le_refl _, fun _ _ _ => rfl⟩
theorem Kp.size {S : Nat → Prop} {w w' : World} (h : Kp S w w') : w.heap.size ≤ w'.heap.size := h.2.2.2.1
theorem Kp.block {S : Nat → Prop} {w w' : World} (h : Kp S w w') {k : Nat} (hk : k < w.heap.size) (hs : ¬ S k) : w'.heap[k]? = w.heap[k]? := h.2.2.2.2 k hk hs
theorem Kp.setCell {S : Nat → Prop} {w w' : World} (h : Kp S w w') {b o : Nat} (hb : S b) (v : Value) : Kp S w (w'.setCell ⟨b, o, none⟩ v) := by
  obtain ⟨h1, h2, h3, h4, h5⟩ := h
  refine ⟨h1, h2, h3, by simpa using h4, fun k hk hs => ?_⟩
  rw [blk_set_other _ _ _ _ (fun e => hs (by rw [e]; exact hb))]
  exact h5 k hk hs
theorem Kp.fresh {S : Nat → Prop} {w w' : World} (h : Kp S w w') {b o : Nat} (hb : w.heap.size ≤ b) (v : Value) : Kp S w (w'.setCell ⟨b, o, none⟩ v) := by
  obtain ⟨h1, h2, h3, h4, h5⟩ := h
  refine ⟨h1, h2, h3, by simpa using h4, fun k hk hs => ?_⟩
  rw [blk_set_other _ _ _ _ (fun e => by simp at e; omega)]
  exact h5 k hk hs
theorem Kp.below {S : Nat → Prop} {w w' w2 : World} (h : Kp S w w') (hb : Below w'.heap.size w' w2) : Kp S w w2 := by
  obtain ⟨h1, h2, h3, h4, h5⟩ := h
  exact ⟨hb.os.trans h1, hb.tape.trans h2, hb.output.trans h3, Nat.le_trans h4 hb.size, fun k hk hs => (hb.block k (Nat.lt_of_lt_of_le hk h4)).trans (h5 k hk hs)⟩
theorem Kp.ofBelow {S : Nat → Prop} {w w' : World} (hb : Below w.heap.size w w') : Kp S w w' := (Kp.refl S w).below hb
theorem Kp.alloc {S : Nat → Prop} {w w' : World} (h : Kp S w w') (o : Obj) : Kp S w (w'.alloc o) := h.below ((Below.refl _ _).alloc (Nat.le_refl _) _)
theorem Kp.toBelow {S : Nat → Prop} {w w' : World} (h : Kp S w w') {B : Nat} (hB : B ≤ w.heap.size) (hs : ∀ k, k < B → ¬ S k) : Below B w w' :=
  ⟨h.1, h.2.1, h.2.2.1, h.2.2.2.1, fun k hk => h.2.2.2.2 k (Nat.lt_of_lt_of_le hk hB) (hs k hk)⟩
theorem Kp.cell {S : Nat → Prop} {w w' : World} (h : Kp S w w') {b o : Nat} (hb : b < w.heap.size) (hs : ¬ S b) : w'.cell? ⟨b, o, none⟩ = w.cell? ⟨b, o, none⟩ :=
  World.cell?_of_block (a := ⟨b, o, none⟩) (h.2.2.2.2 b hb hs)
theorem Kp.trans {S : Nat → Prop} {w w' w2 : World} (h : Kp S w w') (h2 : Kp S w' w2) : Kp S w w2 :=
  ⟨h2.1.trans h.1, h2.2.1.trans h.2.1, h2.2.2.1.trans h.2.2.1, Nat.le_trans h.2.2.2.1 h2.2.2.2.1, fun k hk hs => (h2.2.2.2.2 k (Nat.lt_of_lt_of_le hk h.2.2.2.1) hs).trans (h.2.2.2.2 k hk hs)⟩
theorem Kp.mono {S S' : Nat → Prop} {w w' : World} (h : Kp S w w') (hs : ∀ k, S k → S' k) : Kp S' w w' :=
  ⟨h.1, h.2.1, h.2.2.1, h.2.2.2.1, fun k hk hn => h.2.2.2.2 k hk (fun e => hn (hs k e))⟩
/-- what is turned in a world that has grown was laid since, or is in S -/
theorem Kp.transN {S T : Nat → Prop} {w w' w2 : World} (h : Kp S w w') (h2 : Kp T w' w2) (hT : ∀ k, T k → S k ∨ w.heap.size ≤ k) : Kp S w w2 :=
  ⟨h2.1.trans h.1, h2.2.1.trans h.2.1, h2.2.2.1.trans h.2.2.1, Nat.le_trans h.2.2.2.1 h2.2.2.2.1, fun k hk hs => (h2.2.2.2.2 k (Nat.lt_of_lt_of_le hk h.2.2.2.1) (fun e => (hT k e).elim hs (fun h => by omega))).trans (h.2.2.2.2 k hk hs)⟩
theorem Kp.grown {S : Nat → Prop} {w w' w2 : World} {row : Option Nat} (h : Kp S w w') (hg : w'.grownBy w2 row) (hr : ∀ j, row = some j → S j ∨ w.heap.size ≤ j) : Kp S w w2 :=
  ⟨hg.os.trans h.1, hg.tape.trans h.2.1, hg.output.trans h.2.2.1, Nat.le_trans h.2.2.2.1 hg.size, fun k hk hs => (hg.block k (Nat.lt_of_lt_of_le hk h.2.2.2.1) (fun e => (hr k e.symm).elim hs (fun h => by omega))).trans (h.2.2.2.2 k hk hs)⟩

/-! ### tables -/
def intV (n : Int) : Value := .int .i64 n
def Pd : Type := Int × Int × ByteArray
def pdV (p : Pd) : Value := .agg #[.int .i64 p.1, .int .i64 p.2.1, .string p.2.2]
def rI : Value → Option (DataW Value × List MemPlace)
  | .int .i64 a => some (.held (.int .i64 a), [])
  | _ => none
def rP : Value → Option (DataW Value × List MemPlace)
  | .agg ⟨[.int .i64 a, .int .i64 b, .string s]⟩ => some (.held (.agg #[.int .i64 a, .int .i64 b, .string s]), [])
  | _ => none
theorem rI_mk (a : Int) : rI (intV a) = some (.held (intV a), []) := rfl
theorem rP_mk (p : Pd) : rP (pdV p) = some (.held (pdV p), []) := rfl
theorem rI_inv {v : Value} {y : DataW Value × List MemPlace} (h : rI v = some y) : ∃ a, v = intV a ∧ y = (.held (intV a), []) := by
  unfold rI at h
  split at h
  · cases h; exact ⟨_, rfl, rfl⟩
  · cases h
theorem rP_inv {v : Value} {y : DataW Value × List MemPlace} (h : rP v = some y) : ∃ p, v = pdV p ∧ y = (.held (pdV p), []) := by
  unfold rP at h
  split at h
  · rename_i a b s
    cases h; exact ⟨(a, b, s), rfl, rfl⟩
  · cases h
theorem intV_inj {a b : Int} (h : intV a = intV b) : a = b := by
  simpa [intV] using h
theorem pdV_inj {p q : Pd} (h : pdV p = pdV q) : p = q := by
  obtain ⟨a, b, s⟩ := p
  obtain ⟨a', b', s'⟩ := q
  simp [pdV] at h
  obtain ⟨rfl, rfl, rfl⟩ := h
  rfl
theorem Try.keyed : Keyed Try.prog 3 := int_keyed Try.underlying3
def wf64 (n : Int) : Prop := (Lit.int .i64 n).wf = true
theorem key64 {n : Int} (h : wf64 n) : keyOf Try.prog 3 (.int .i64 n) = some (.int .i64 n) := keyOf_int_mk Try.underlying3 h
theorem wf_of {n : Int} (h0 : -9223372036854775808 ≤ n) (h1 : n ≤ 9223372036854775807) : wf64 n := by
  unfold wf64
  exact WalkArith.wf_i64 (by omega)
/-- a table of numbers -/
def TbI (w : World) (b : Nat) (l : List (Int × Int)) : Prop := ∃ D, w.ownsMap Try.prog 3 rI b l.length D ∧ Rp intV D l
/-- a table of deliveries -/
def TbP (w : World) (b : Nat) (l : List (Int × Pd)) : Prop := ∃ D, w.ownsMap Try.prog 3 rP b l.length D ∧ Rp pdV D l
theorem TbI.lt {w : World} {b : Nat} {l : List (Int × Int)} (h : TbI w b l) : b < w.heap.size := by obtain ⟨D, h, _⟩ := h; exact h.lt
theorem TbP.lt {w : World} {b : Nat} {l : List (Int × Pd)} (h : TbP w b l) : b < w.heap.size := by obtain ⟨D, h, _⟩ := h; exact h.lt
theorem TbI.at {w w' : World} {b : Nat} {l : List (Int × Int)} (h : TbI w b l) (hb : w'.heap[b]? = w.heap[b]?) : TbI w' b l := by
  obtain ⟨D, ⟨es, c, h1, h2⟩, h3⟩ := h
  exact ⟨D, ⟨es, c, hb.trans h1, h2⟩, h3⟩
theorem TbP.at {w w' : World} {b : Nat} {l : List (Int × Pd)} (h : TbP w b l) (hb : w'.heap[b]? = w.heap[b]?) : TbP w' b l := by
  obtain ⟨D, ⟨es, c, h1, h2⟩, h3⟩ := h
  exact ⟨D, ⟨es, c, hb.trans h1, h2⟩, h3⟩
theorem TbI.perm {w : World} {b : Nat} {l l' : List (Int × Int)} (h : TbI w b l) (hp : l.Perm l') : TbI w b l' := by
  obtain ⟨D, h1, h2⟩ := h
  exact ⟨D, hp.length_eq ▸ h1, h2.perm hp⟩
theorem TbP.perm {w : World} {b : Nat} {l l' : List (Int × Pd)} (h : TbP w b l) (hp : l.Perm l') : TbP w b l' := by
  obtain ⟨D, h1, h2⟩ := h
  exact ⟨D, hp.length_eq ▸ h1, h2.perm hp⟩
theorem own_low {w : World} {R : Value → Option (DataW Value × List MemPlace)} {b n m : Nat} {D : DataW Value} (h : w.ownsMap Try.prog 3 R b n D) (hm : Maps.size D ≤ m) : w.ownsMap Try.prog 3 R b m D := by
  obtain ⟨es, c, h1, h2, h3, h4⟩ := h
  refine ⟨es, c, h1, h2, ?_, h4⟩
  rw [h4] at hm
  simpa [Maps.size, length_sorted] using hm
theorem TbI.mk {w : World} {b n : Nat} {D : DataW Value} {l : List (Int × Int)} (h : w.ownsMap Try.prog 3 rI b n D) (hr : Rp intV D l) : TbI w b l := ⟨D, own_low h (by rw [hr.size]; exact Nat.le_refl _), hr⟩
theorem TbP.mk {w : World} {b n : Nat} {D : DataW Value} {l : List (Int × Pd)} (h : w.ownsMap Try.prog 3 rP b n D) (hr : Rp pdV D l) : TbP w b l := ⟨D, own_low h (by rw [hr.size]; exact Nat.le_refl _), hr⟩
/-- a map's block is no row -/
theorem TbI.ne {w : World} {b g : Nat} {l : List (Int × Int)} {cs : Array Value} {t : TypeId} {f : Nat × Nat} (h : TbI w b l) (hg : w.heap[g]? = some (.cells cs t f)) : b ≠ g := by
  rintro rfl
  obtain ⟨D, ⟨es, c, h1, _⟩, _⟩ := h
  rw [h1] at hg
  cases hg
theorem TbP.ne {w : World} {b g : Nat} {l : List (Int × Pd)} {cs : Array Value} {t : TypeId} {f : Nat × Nat} (h : TbP w b l) (hg : w.heap[g]? = some (.cells cs t f)) : b ≠ g := by
  rintro rfl
  obtain ⟨D, ⟨es, c, h1, _⟩, _⟩ := h
  rw [h1] at hg
  cases hg
theorem TbI.made (w : World) : TbI (w.alloc (.map #[] 0)) w.heap.size [] := ⟨_, World.ownsMap_made w _ _ _, Rp.nil⟩
theorem TbP.made (w : World) : TbP (w.alloc (.map #[] 0)) w.heap.size [] := ⟨_, World.ownsMap_made w _ _ _, Rp.nil⟩

/-! ### a session -/
structure Sn where
  peer : Bool
  no : Int
  ow : Int
  ni : Int
  iw : Int
  ri : Int
  ro : Int
  nd : Int
  hm : Int
  rh : Int
  fi : Int
  bh : Nat
  br : Nat
  bs : Nat
  bc : Nat
def Sn.cells (s : Sn) : Array Value := #[.bool s.peer, .int .i64 s.no, .int .i64 s.ow, .int .i64 s.ni, .int .i64 s.iw, .int .i64 s.ri, .int .i64 s.ro, .int .i64 s.nd, .int .i64 0, .int .i64 0, .int .i64 s.hm, .int .i64 s.rh, .int .i64 s.fi, .map (some s.bh), .map (some s.br), .map (some s.bs), .map (some s.bc)]
def SB (w : World) (g : Nat) (s : Sn) : Prop := w.heap[g]? = some (.cells s.cells 92 (0, 0))
section
variable {w w' : World} {g : Nat} {s : Sn}
theorem SB.lt (h : SB w g s) : g < w.heap.size := (Array.getElem?_eq_some_iff.1 h).1
theorem SB.at (h : SB w g s) (hb : w'.heap[g]? = w.heap[g]?) : SB w' g s := hb.trans h
theorem SB.facts (h : SB w g s) : w.cell? ⟨g, 0, none⟩ = some (.bool s.peer) ∧ w.cell? ⟨g, 1, none⟩ = some (.int .i64 s.no) ∧ w.cell? ⟨g, 2, none⟩ = some (.int .i64 s.ow) ∧ w.cell? ⟨g, 3, none⟩ = some (.int .i64 s.ni) ∧ w.cell? ⟨g, 4, none⟩ = some (.int .i64 s.iw) ∧ w.cell? ⟨g, 5, none⟩ = some (.int .i64 s.ri) ∧ w.cell? ⟨g, 6, none⟩ = some (.int .i64 s.ro) ∧ w.cell? ⟨g, 7, none⟩ = some (.int .i64 s.nd) ∧ w.cell? ⟨g, 8, none⟩ = some (.int .i64 0) ∧ w.cell? ⟨g, 9, none⟩ = some (.int .i64 0) ∧ w.cell? ⟨g, 10, none⟩ = some (.int .i64 s.hm) ∧ w.cell? ⟨g, 11, none⟩ = some (.int .i64 s.rh) ∧ w.cell? ⟨g, 12, none⟩ = some (.int .i64 s.fi) ∧ w.cell? ⟨g, 13, none⟩ = some (.map (some s.bh)) ∧ w.cell? ⟨g, 14, none⟩ = some (.map (some s.br)) ∧ w.cell? ⟨g, 15, none⟩ = some (.map (some s.bs)) ∧ w.cell? ⟨g, 16, none⟩ = some (.map (some s.bc)) := by
  unfold SB at h
  simp [World.cell?, h, Sn.cells]
theorem SB.frozen (h : SB w g s) (j : Nat) : w.frozen? ⟨g, j, none⟩ = false := by
  unfold SB at h
  simp [World.frozen?, h]
theorem SB.setOther (h : SB w g s) {b o : Nat} (hne : b ≠ g) (x : Value) : SB (w.setCell ⟨b, o, none⟩ x) g s := h.at (blk_set_other _ _ _ _ (fun e => hne e.symm))
theorem SB.set_peer (h : SB w g s) (x : Bool) : SB (w.setCell ⟨g, 0, none⟩ (.bool x)) g { s with peer := x } := by
  unfold SB at *
  simp [World.setCell, Array.getElem?_modify, h, Sn.cells]
theorem SB.set_no (h : SB w g s) (x : Int) : SB (w.setCell ⟨g, 1, none⟩ (.int .i64 x)) g { s with no := x } := by
  unfold SB at *
  simp [World.setCell, Array.getElem?_modify, h, Sn.cells]
theorem SB.set_ni (h : SB w g s) (x : Int) : SB (w.setCell ⟨g, 3, none⟩ (.int .i64 x)) g { s with ni := x } := by
  unfold SB at *
  simp [World.setCell, Array.getElem?_modify, h, Sn.cells]
theorem SB.set_iw (h : SB w g s) (x : Int) : SB (w.setCell ⟨g, 4, none⟩ (.int .i64 x)) g { s with iw := x } := by
  unfold SB at *
  simp [World.setCell, Array.getElem?_modify, h, Sn.cells]
theorem SB.set_ri (h : SB w g s) (x : Int) : SB (w.setCell ⟨g, 5, none⟩ (.int .i64 x)) g { s with ri := x } := by
  unfold SB at *
  simp [World.setCell, Array.getElem?_modify, h, Sn.cells]
theorem SB.set_ro (h : SB w g s) (x : Int) : SB (w.setCell ⟨g, 6, none⟩ (.int .i64 x)) g { s with ro := x } := by
  unfold SB at *
  simp [World.setCell, Array.getElem?_modify, h, Sn.cells]
theorem SB.set_nd (h : SB w g s) (x : Int) : SB (w.setCell ⟨g, 7, none⟩ (.int .i64 x)) g { s with nd := x } := by
  unfold SB at *
  simp [World.setCell, Array.getElem?_modify, h, Sn.cells]
theorem SB.set_rh (h : SB w g s) (x : Int) : SB (w.setCell ⟨g, 11, none⟩ (.int .i64 x)) g { s with rh := x } := by
  unfold SB at *
  simp [World.setCell, Array.getElem?_modify, h, Sn.cells]
end
end Go.Proofs.Ytondbhdlccpklaa
