import Derived.Maps.RangeWalk
import Derived.OwnWalk
import Derived.Test.YtondbhdlccpklaaProg
import Derived.Test.YtondbhdlccpklaaChecked
import Derived.WalkKit
import Derived.WalkSmall
import Derived.WalkSpells
import Derived.Deep.WholeRow
import Derived.Deep.MidRow

/- Tables: maps by numbers, told by lists of pairs. -/
namespace Go.Proofs.Ytondbhdlccpklaa
open Go.RowKit Go.Maps
set_option linter.unusedVariables false

def Rp {A : Type} (mk : A → Value) (D : DataW Value) (l : List (Int × A)) : Prop :=
  (l.map (·.1)).Nodup ∧ ∃ es, D = .map es ∧ es.Perm (l.map fun p => (Lit.int .i64 p.1, DataW.held (mk p.2)))

section
variable {A : Type} {mk : A → Value} {D : DataW Value} {l l' : List (Int × A)} {k : Int} {x : A}

theorem Rp.nil : Rp mk (.map []) ([] : List (Int × A)) := ⟨by simp, [], rfl, .nil⟩

theorem Rp.perm (h : Rp mk D l) (hp : l.Perm l') : Rp mk D l' := by
  obtain ⟨hn, es, rfl, he⟩ := h
  exact ⟨(hp.map _).nodup_iff.1 hn, es, rfl, he.trans (hp.map _)⟩

theorem Rp.size (h : Rp mk D l) : Maps.size D = l.length := by
  obtain ⟨hn, es, rfl, he⟩ := h
  simpa [Maps.size_eq] using he.length_eq

theorem lit_same (a b : Int) : (Lit.int .i64 a).sameKey (.int .i64 b) = (a == b) := by
  simp [Lit.sameKey, Bool.beq_eq_decide_eq]

theorem Rp.has (h : Rp mk D l) (k : Int) : Maps.has D (.int .i64 k) = l.any (fun p => p.1 == k) := by
  obtain ⟨hn, es, rfl, he⟩ := h
  rw [Maps.has_eq, he.any_eq, List.any_map]
  congr 1
  funext p
  simp [lit_same]

theorem any_iff {l : List (Int × A)} {k : Int} : l.any (fun p => p.1 == k) = true ↔ k ∈ l.map (·.1) := by
  simp [List.any_eq_true]

theorem any_not {l : List (Int × A)} {k : Int} : l.any (fun p => p.1 == k) = false ↔ k ∉ l.map (·.1) := by
  rw [← Bool.not_eq_true, any_iff]

theorem Rp.at (h : Rp mk D l) (hx : (k, x) ∈ l) (z : DataW Value) : D.atKey (.int .i64 k) z = .held (mk x) := by
  obtain ⟨hn, es, rfl, he⟩ := h
  simp only [DataW.atKey]
  have hm : (Lit.int .i64 k, DataW.held (mk x)) ∈ es := he.mem_iff.2 (List.mem_map.2 ⟨(k, x), hx, rfl⟩)
  cases hf : es.find? (fun p => p.1.sameKey (.int .i64 k)) with
  | none =>
    have := List.find?_eq_none.1 hf _ hm
    simp [lit_same] at this
  | some p =>
    have hp := List.mem_of_find?_eq_some hf
    have hk := List.find?_some hf
    obtain ⟨q, hq, rfl⟩ := List.mem_map.1 (he.mem_iff.1 hp)
    simp [lit_same] at hk
    have : q = (k, x) := by
      have hinj : ∀ (l : List (Int × A)), (l.map (·.1)).Nodup → ∀ a ∈ l, ∀ b ∈ l, a.1 = b.1 → a = b := by
        intro l
        induction l with
        | nil => intro _ a ha; cases ha
        | cons c t ih =>
          intro hnd a ha b hb hab
          simp only [List.map_cons, List.nodup_cons] at hnd
          rcases List.mem_cons.1 ha with ea | ha2
          · rcases List.mem_cons.1 hb with eb | hb2
            · rw [ea, eb]
            · exact absurd (ea ▸ hab ▸ List.mem_map_of_mem hb2) hnd.1
          · rcases List.mem_cons.1 hb with eb | hb2
            · exact absurd (eb ▸ hab ▸ List.mem_map_of_mem ha2) hnd.1
            · exact ih hnd.2 a ha2 b hb2 hab
      exact hinj l hn q hq (k, x) hx hk
    simp [this]

theorem Rp.at_none (h : Rp mk D l) (hx : k ∉ l.map (·.1)) (z : DataW Value) : D.atKey (.int .i64 k) z = z :=
  Maps.atKey_of_not_has (by rw [h.has, any_not]; exact hx) z

theorem nodup_filter {l : List (Int × A)} (h : (l.map (·.1)).Nodup) (f : Int × A → Bool) : ((l.filter f).map (·.1)).Nodup :=
  List.Nodup.sublist (List.Sublist.map _ List.filter_sublist) h

theorem Rp.del (h : Rp mk D l) (k : Int) : Rp mk (D.del (.int .i64 k)) (l.filter fun p => p.1 != k) := by
  obtain ⟨hn, es, rfl, he⟩ := h
  refine ⟨nodup_filter hn _, _, rfl, (he.filter _).trans ?_⟩
  rw [List.filter_map]
  refine (List.Perm.of_eq ?_)
  congr 2
  funext p
  simp [lit_same, bne]

theorem insert_perm (x : Lit × DataW Value) : ∀ l : List (Lit × DataW Value), (DataW.insert x l).Perm (x :: l)
  | [] => by simp [DataW.insert]
  | y :: r => by
    simp only [DataW.insert]
    split
    · exact .refl _
    · exact ((insert_perm x r).cons y).trans (List.Perm.swap x y r)

theorem Rp.put (h : Rp mk D l) (k : Int) (x : A) : Rp mk (D.put (.int .i64 k) (.held (mk x))) ((k, x) :: l.filter fun p => p.1 != k) := by
  obtain ⟨hn', es', hd, he'⟩ := h.del k
  obtain ⟨hn, es, rfl, he⟩ := h
  refine ⟨?_, _, rfl, ?_⟩
  · simp only [List.map_cons, List.nodup_cons]
    refine ⟨?_, hn'⟩
    simp
  · refine (insert_perm _ _).trans ?_
    have : es' = es.filter (fun p => !p.1.sameKey (.int .i64 k)) := by
      have := hd
      simp [DataW.del] at this
      exact this.symm
    rw [List.map_cons, ← this]
    exact he'.cons _

theorem filter_none {l : List (Int × A)} {k : Int} (h : k ∉ l.map (·.1)) : (l.filter fun p => p.1 != k) = l := by
  rw [List.filter_eq_self]
  intro p hp
  simp only [bne_iff_ne, ne_eq]
  exact fun e => h (e ▸ List.mem_map_of_mem hp)

end
end Go.Proofs.Ytondbhdlccpklaa


/- Stage 13: what stays; a session in its block. -/
namespace Go.Proofs.Ytondbhdlccpklaa
open Go.RowKit Go.Maps
set_option linter.unusedVariables false
set_option linter.unusedSimpArgs false

theorem hide {p : Prop} (h : p) : Hid p := h
theorem heap_past {w : World} {b : Nat} {x : Obj} (h : w.heap[b]? = some x) (o : Obj) : (w.alloc o).heap[b]? = some x := (Below.heap_alloc _ _ _ (Array.getElem?_eq_some_iff.1 h).1).trans h
theorem bel1 {B : Nat} {w wr : World} (h : Below B w wr) (hB : B ≤ wr.heap.size) (o : Obj) : Below B w (wr.alloc o) := h.alloc hB o
theorem belOn {B : Nat} {w w1 w2 : World} (h : Below B w w1) (hB : B ≤ w1.heap.size) (k : Below w1.heap.size w1 w2) : Below B w w2 := h.trans (k.mono hB)
theorem blk_set_other (w : World) (a : Addr) (v : Value) (i : Nat) (h : i ≠ a.block) : (w.setCell a v).heap[i]? = w.heap[i]? := Below.heap_setCell _ _ _ _ h
theorem cellOf {W : World} {g : Nat} {cs : Array Value} {t : TypeId} {fr : Nat × Nat} (h : W.heap[g]? = some (.cells cs t fr)) (o : Nat) (v : Value) (hv : cs[o]? = some v) : W.cell? ⟨g, o, none⟩ = some v := by
  simp [World.cell?, h, hv]

/-- nothing has turned but the blocks of S -/
def Kp (S : Nat → Prop) (w w' : World) : Prop := w'.os = w.os ∧ w'.tape = w.tape ∧ w'.output = w.output ∧ w.heap.size ≤ w'.heap.size ∧ ∀ k, k < w.heap.size → ¬ S k → w'.heap[k]? = w.heap[k]?
theorem Kp.refl (S : Nat → Prop) (w : World) : Kp S w w := ⟨rfl, rfl, rfl, Nat.le_refl _, fun _ _ _ => rfl⟩
theorem Kp.size {S : Nat → Prop} {w w' : World} (h : Kp S w w') : w.heap.size ≤ w'.heap.size := h.2.2.2.1
theorem Kp.block {S : Nat → Prop} {w w' : World} (h : Kp S w w') {k : Nat} (hk : k < w.heap.size) (hs : ¬ S k) : w'.heap[k]? = w.heap[k]? := h.2.2.2.2 k hk hs
theorem Kp.setCell {S : Nat → Prop} {w w' : World} (h : Kp S w w') {b o : Nat} (hb : S b) (v : Value) : Kp S w (w'.setCell ⟨b, o, none⟩ v) := by
  obtain ⟨h1, h2, h3, h4, h5⟩ := h
  refine ⟨h1, h2, h3, by simpa using h4, fun k hk hs => ?_⟩
  rw [blk_set_other _ _ _ _ (fun e => hs (by rw [e]; exact hb))]
  exact h5 k hk hs
theorem Kp.fresh {S : Nat → Prop} {w w' : World} (h : Kp S w w') {b o : Nat} (hb : w.heap.size ≤ b) (v : Value) : Kp S w (w'.setCell ⟨b, o, none⟩ v) := by
  obtain ⟨h1, h2, h3, h4, h5⟩ := h
  refine ⟨h1, h2, h3, by simpa using h4, fun k hk hs => ?_⟩
  rw [blk_set_other _ _ _ _ (fun e => by simp at e; omega)]
  exact h5 k hk hs
theorem Kp.below {S : Nat → Prop} {w w' w2 : World} (h : Kp S w w') (hb : Below w'.heap.size w' w2) : Kp S w w2 := by
  obtain ⟨h1, h2, h3, h4, h5⟩ := h
  exact ⟨hb.os.trans h1, hb.tape.trans h2, hb.output.trans h3, Nat.le_trans h4 hb.size, fun k hk hs => (hb.block k (Nat.lt_of_lt_of_le hk h4)).trans (h5 k hk hs)⟩
theorem Kp.ofBelow {S : Nat → Prop} {w w' : World} (hb : Below w.heap.size w w') : Kp S w w' := (Kp.refl S w).below hb
theorem Kp.alloc {S : Nat → Prop} {w w' : World} (h : Kp S w w') (o : Obj) : Kp S w (w'.alloc o) := h.below ((Below.refl _ _).alloc (Nat.le_refl _) _)
theorem Kp.toBelow {S : Nat → Prop} {w w' : World} (h : Kp S w w') {B : Nat} (hB : B ≤ w.heap.size) (hs : ∀ k, k < B → ¬ S k) : Below B w w' :=
  ⟨h.1, h.2.1, h.2.2.1, h.2.2.2.1, fun k hk => h.2.2.2.2 k (Nat.lt_of_lt_of_le hk hB) (hs k hk)⟩
theorem Kp.cell {S : Nat → Prop} {w w' : World} (h : Kp S w w') {b o : Nat} (hb : b < w.heap.size) (hs : ¬ S b) : w'.cell? ⟨b, o, none⟩ = w.cell? ⟨b, o, none⟩ :=
  World.cell?_of_block (a := ⟨b, o, none⟩) (h.2.2.2.2 b hb hs)
theorem Kp.trans {S : Nat → Prop} {w w' w2 : World} (h : Kp S w w') (h2 : Kp S w' w2) : Kp S w w2 :=
  ⟨h2.1.trans h.1, h2.2.1.trans h.2.1, h2.2.2.1.trans h.2.2.1, Nat.le_trans h.2.2.2.1 h2.2.2.2.1, fun k hk hs => (h2.2.2.2.2 k (Nat.lt_of_lt_of_le hk h.2.2.2.1) hs).trans (h.2.2.2.2 k hk hs)⟩
theorem Kp.mono {S S' : Nat → Prop} {w w' : World} (h : Kp S w w') (hs : ∀ k, S k → S' k) : Kp S' w w' :=
  ⟨h.1, h.2.1, h.2.2.1, h.2.2.2.1, fun k hk hn => h.2.2.2.2 k hk (fun e => hn (hs k e))⟩
/-- what is turned in a world that has grown was laid since, or is in S -/
theorem Kp.transN {S T : Nat → Prop} {w w' w2 : World} (h : Kp S w w') (h2 : Kp T w' w2) (hT : ∀ k, T k → S k ∨ w.heap.size ≤ k) : Kp S w w2 :=
  ⟨h2.1.trans h.1, h2.2.1.trans h.2.1, h2.2.2.1.trans h.2.2.1, Nat.le_trans h.2.2.2.1 h2.2.2.2.1, fun k hk hs => (h2.2.2.2.2 k (Nat.lt_of_lt_of_le hk h.2.2.2.1) (fun e => (hT k e).elim hs (fun h => by omega))).trans (h.2.2.2.2 k hk hs)⟩
theorem Kp.grown {S : Nat → Prop} {w w' w2 : World} {row : Option Nat} (h : Kp S w w') (hg : w'.grownBy w2 row) (hr : ∀ j, row = some j → S j ∨ w.heap.size ≤ j) : Kp S w w2 :=
  ⟨hg.os.trans h.1, hg.tape.trans h.2.1, hg.output.trans h.2.2.1, Nat.le_trans h.2.2.2.1 hg.size, fun k hk hs => (hg.block k (Nat.lt_of_lt_of_le hk h.2.2.2.1) (fun e => (hr k e.symm).elim hs (fun h => by omega))).trans (h.2.2.2.2 k hk hs)⟩

/-! ### tables -/
def intV (n : Int) : Value := .int .i64 n
def Pd : Type := Int × Int × ByteArray
def pdV (p : Pd) : Value := .agg #[.int .i64 p.1, .int .i64 p.2.1, .string p.2.2]
def rI : Value → Option (DataW Value × List MemPlace)
  | .int .i64 a => some (.held (.int .i64 a), [])
  | _ => none
def rP : Value → Option (DataW Value × List MemPlace)
  | .agg ⟨[.int .i64 a, .int .i64 b, .string s]⟩ => some (.held (.agg #[.int .i64 a, .int .i64 b, .string s]), [])
  | _ => none
theorem rI_mk (a : Int) : rI (intV a) = some (.held (intV a), []) := rfl
theorem rP_mk (p : Pd) : rP (pdV p) = some (.held (pdV p), []) := rfl
theorem rI_inv {v : Value} {y : DataW Value × List MemPlace} (h : rI v = some y) : ∃ a, v = intV a ∧ y = (.held (intV a), []) := by
  unfold rI at h
  split at h
  · cases h; exact ⟨_, rfl, rfl⟩
  · cases h
theorem rP_inv {v : Value} {y : DataW Value × List MemPlace} (h : rP v = some y) : ∃ p, v = pdV p ∧ y = (.held (pdV p), []) := by
  unfold rP at h
  split at h
  · rename_i a b s
    cases h; exact ⟨(a, b, s), rfl, rfl⟩
  · cases h
theorem intV_inj {a b : Int} (h : intV a = intV b) : a = b := by
  simpa [intV] using h
theorem pdV_inj {p q : Pd} (h : pdV p = pdV q) : p = q := by
  obtain ⟨a, b, s⟩ := p
  obtain ⟨a', b', s'⟩ := q
  simp [pdV] at h
  obtain ⟨rfl, rfl, rfl⟩ := h
  rfl
theorem Try.keyed : Keyed Try.prog 3 := int_keyed Try.underlying3
def wf64 (n : Int) : Prop := (Lit.int .i64 n).wf = true
theorem key64 {n : Int} (h : wf64 n) : keyOf Try.prog 3 (.int .i64 n) = some (.int .i64 n) := keyOf_int_mk Try.underlying3 h
theorem wf_of {n : Int} (h0 : -9223372036854775808 ≤ n) (h1 : n ≤ 9223372036854775807) : wf64 n := by
  unfold wf64
  exact WalkArith.wf_i64 (by omega)
/-- a table of numbers -/
def TbI (w : World) (b : Nat) (l : List (Int × Int)) : Prop := ∃ D, w.ownsMap Try.prog 3 rI b l.length D ∧ Rp intV D l
/-- a table of deliveries -/
def TbP (w : World) (b : Nat) (l : List (Int × Pd)) : Prop := ∃ D, w.ownsMap Try.prog 3 rP b l.length D ∧ Rp pdV D l
theorem TbI.lt {w : World} {b : Nat} {l : List (Int × Int)} (h : TbI w b l) : b < w.heap.size := by obtain ⟨D, h, _⟩ := h; exact h.lt
theorem TbP.lt {w : World} {b : Nat} {l : List (Int × Pd)} (h : TbP w b l) : b < w.heap.size := by obtain ⟨D, h, _⟩ := h; exact h.lt
theorem TbI.at {w w' : World} {b : Nat} {l : List (Int × Int)} (h : TbI w b l) (hb : w'.heap[b]? = w.heap[b]?) : TbI w' b l := by
  obtain ⟨D, ⟨es, c, h1, h2⟩, h3⟩ := h
  exact ⟨D, ⟨es, c, hb.trans h1, h2⟩, h3⟩
theorem TbP.at {w w' : World} {b : Nat} {l : List (Int × Pd)} (h : TbP w b l) (hb : w'.heap[b]? = w.heap[b]?) : TbP w' b l := by
  obtain ⟨D, ⟨es, c, h1, h2⟩, h3⟩ := h
  exact ⟨D, ⟨es, c, hb.trans h1, h2⟩, h3⟩
theorem TbI.perm {w : World} {b : Nat} {l l' : List (Int × Int)} (h : TbI w b l) (hp : l.Perm l') : TbI w b l' := by
  obtain ⟨D, h1, h2⟩ := h
  exact ⟨D, hp.length_eq ▸ h1, h2.perm hp⟩
theorem TbP.perm {w : World} {b : Nat} {l l' : List (Int × Pd)} (h : TbP w b l) (hp : l.Perm l') : TbP w b l' := by
  obtain ⟨D, h1, h2⟩ := h
  exact ⟨D, hp.length_eq ▸ h1, h2.perm hp⟩
theorem own_low {w : World} {R : Value → Option (DataW Value × List MemPlace)} {b n m : Nat} {D : DataW Value} (h : w.ownsMap Try.prog 3 R b n D) (hm : Maps.size D ≤ m) : w.ownsMap Try.prog 3 R b m D := by
  obtain ⟨es, c, h1, h2, h3, h4⟩ := h
  refine ⟨es, c, h1, h2, ?_, h4⟩
  rw [h4] at hm
  simpa [Maps.size, length_sorted] using hm
theorem TbI.mk {w : World} {b n : Nat} {D : DataW Value} {l : List (Int × Int)} (h : w.ownsMap Try.prog 3 rI b n D) (hr : Rp intV D l) : TbI w b l := ⟨D, own_low h (by rw [hr.size]; exact Nat.le_refl _), hr⟩
theorem TbP.mk {w : World} {b n : Nat} {D : DataW Value} {l : List (Int × Pd)} (h : w.ownsMap Try.prog 3 rP b n D) (hr : Rp pdV D l) : TbP w b l := ⟨D, own_low h (by rw [hr.size]; exact Nat.le_refl _), hr⟩
/-- a map's block is no row -/
theorem TbI.ne {w : World} {b g : Nat} {l : List (Int × Int)} {cs : Array Value} {t : TypeId} {f : Nat × Nat} (h : TbI w b l) (hg : w.heap[g]? = some (.cells cs t f)) : b ≠ g := by
  rintro rfl
  obtain ⟨D, ⟨es, c, h1, _⟩, _⟩ := h
  rw [h1] at hg
  cases hg
theorem TbP.ne {w : World} {b g : Nat} {l : List (Int × Pd)} {cs : Array Value} {t : TypeId} {f : Nat × Nat} (h : TbP w b l) (hg : w.heap[g]? = some (.cells cs t f)) : b ≠ g := by
  rintro rfl
  obtain ⟨D, ⟨es, c, h1, _⟩, _⟩ := h
  rw [h1] at hg
  cases hg
theorem TbI.made (w : World) : TbI (w.alloc (.map #[] 0)) w.heap.size [] := ⟨_, World.ownsMap_made w _ _ _, Rp.nil⟩
theorem TbP.made (w : World) : TbP (w.alloc (.map #[] 0)) w.heap.size [] := ⟨_, World.ownsMap_made w _ _ _, Rp.nil⟩

/-! ### a session -/
structure Sn where
  peer : Bool
  no : Int
  ow : Int
  ni : Int
  iw : Int
  ri : Int
  ro : Int
  nd : Int
  hm : Int
  rh : Int
  fi : Int
  bh : Nat
  br : Nat
  bs : Nat
  bc : Nat
def Sn.cells (s : Sn) : Array Value := #[.bool s.peer, .int .i64 s.no, .int .i64 s.ow, .int .i64 s.ni, .int .i64 s.iw, .int .i64 s.ri, .int .i64 s.ro, .int .i64 s.nd, .int .i64 0, .int .i64 0, .int .i64 s.hm, .int .i64 s.rh, .int .i64 s.fi, .map (some s.bh), .map (some s.br), .map (some s.bs), .map (some s.bc)]
def SB (w : World) (g : Nat) (s : Sn) : Prop := w.heap[g]? = some (.cells s.cells 92 (0, 0))
section
variable {w w' : World} {g : Nat} {s : Sn}
theorem SB.lt (h : SB w g s) : g < w.heap.size := (Array.getElem?_eq_some_iff.1 h).1
theorem SB.at (h : SB w g s) (hb : w'.heap[g]? = w.heap[g]?) : SB w' g s := hb.trans h
theorem SB.facts (h : SB w g s) : w.cell? ⟨g, 0, none⟩ = some (.bool s.peer) ∧ w.cell? ⟨g, 1, none⟩ = some (.int .i64 s.no) ∧ w.cell? ⟨g, 2, none⟩ = some (.int .i64 s.ow) ∧ w.cell? ⟨g, 3, none⟩ = some (.int .i64 s.ni) ∧ w.cell? ⟨g, 4, none⟩ = some (.int .i64 s.iw) ∧ w.cell? ⟨g, 5, none⟩ = some (.int .i64 s.ri) ∧ w.cell? ⟨g, 6, none⟩ = some (.int .i64 s.ro) ∧ w.cell? ⟨g, 7, none⟩ = some (.int .i64 s.nd) ∧ w.cell? ⟨g, 8, none⟩ = some (.int .i64 0) ∧ w.cell? ⟨g, 9, none⟩ = some (.int .i64 0) ∧ w.cell? ⟨g, 10, none⟩ = some (.int .i64 s.hm) ∧ w.cell? ⟨g, 11, none⟩ = some (.int .i64 s.rh) ∧ w.cell? ⟨g, 12, none⟩ = some (.int .i64 s.fi) ∧ w.cell? ⟨g, 13, none⟩ = some (.map (some s.bh)) ∧ w.cell? ⟨g, 14, none⟩ = some (.map (some s.br)) ∧ w.cell? ⟨g, 15, none⟩ = some (.map (some s.bs)) ∧ w.cell? ⟨g, 16, none⟩ = some (.map (some s.bc)) := by
  unfold SB at h
  simp [World.cell?, h, Sn.cells]
theorem SB.frozen (h : SB w g s) (j : Nat) : w.frozen? ⟨g, j, none⟩ = false := by
  unfold SB at h
  simp [World.frozen?, h]
theorem SB.setOther (h : SB w g s) {b o : Nat} (hne : b ≠ g) (x : Value) : SB (w.setCell ⟨b, o, none⟩ x) g s := h.at (blk_set_other _ _ _ _ (fun e => hne e.symm))
theorem SB.set_peer (h : SB w g s) (x : Bool) : SB (w.setCell ⟨g, 0, none⟩ (.bool x)) g { s with peer := x } := by
  unfold SB at *
  simp [World.setCell, Array.getElem?_modify, h, Sn.cells]
theorem SB.set_no (h : SB w g s) (x : Int) : SB (w.setCell ⟨g, 1, none⟩ (.int .i64 x)) g { s with no := x } := by
  unfold SB at *
  simp [World.setCell, Array.getElem?_modify, h, Sn.cells]
theorem SB.set_ni (h : SB w g s) (x : Int) : SB (w.setCell ⟨g, 3, none⟩ (.int .i64 x)) g { s with ni := x } := by
  unfold SB at *
  simp [World.setCell, Array.getElem?_modify, h, Sn.cells]
theorem SB.set_iw (h : SB w g s) (x : Int) : SB (w.setCell ⟨g, 4, none⟩ (.int .i64 x)) g { s with iw := x } := by
  unfold SB at *
  simp [World.setCell, Array.getElem?_modify, h, Sn.cells]
theorem SB.set_ri (h : SB w g s) (x : Int) : SB (w.setCell ⟨g, 5, none⟩ (.int .i64 x)) g { s with ri := x } := by
  unfold SB at *
  simp [World.setCell, Array.getElem?_modify, h, Sn.cells]
theorem SB.set_ro (h : SB w g s) (x : Int) : SB (w.setCell ⟨g, 6, none⟩ (.int .i64 x)) g { s with ro := x } := by
  unfold SB at *
  simp [World.setCell, Array.getElem?_modify, h, Sn.cells]
theorem SB.set_nd (h : SB w g s) (x : Int) : SB (w.setCell ⟨g, 7, none⟩ (.int .i64 x)) g { s with nd := x } := by
  unfold SB at *
  simp [World.setCell, Array.getElem?_modify, h, Sn.cells]
theorem SB.set_rh (h : SB w g s) (x : Int) : SB (w.setCell ⟨g, 11, none⟩ (.int .i64 x)) g { s with rh := x } := by
  unfold SB at *
  simp [World.setCell, Array.getElem?_modify, h, Sn.cells]
end
end Go.Proofs.Ytondbhdlccpklaa


/- Stage 13: words; a Begin that may be. -/
namespace Go.Proofs.Ytondbhdlccpklaa
open Go.RowKit Go.Maps
set_option linter.unusedVariables false
set_option linter.unusedSimpArgs false

def isW (x : Int) : Bool := decide (0 ≤ x) && decide (x ≤ 4294967295)
theorem isW_iff {x : Int} : isW x = true ↔ 0 ≤ x ∧ x ≤ 4294967295 := by simp [isW]
theorem not_all {l : List Int} {n j : Nat} {x : Int} (hn : l.length = n) (hj : j < n) (hx : x = l.getD j 0) (h : isW x = false) : l.all isW = false := by
  rw [List.all_eq_false]
  refine ⟨x, ?_, by simp [h]⟩
  rw [hx, List.getD_eq_getElem?_getD, List.getElem?_eq_getElem (by omega)]
  exact List.getElem_mem _
theorem yes_all {l : List Int} {n : Nat} (hn : l.length = n) (h : ∀ k, k < n → isW (l.getD k 0) = true) : l.all isW = true := by
  rw [List.all_eq_true]
  intro x hx
  obtain ⟨i, hi, rfl⟩ := List.getElem_of_mem hx
  have := h i (by omega)
  rwa [List.getD_eq_getElem?_getD, List.getElem?_eq_getElem hi] at this
set_option maxRecDepth 100000 in
theorem areWords_any (b : Nat) (l : List Int) (w : World) (hb : b < w.heap.size) (hl : l.length ≤ 100) (hc : ∀ j, j < l.length → w.cell? ⟨b, j, none⟩ = some (.int .i64 (l.getD j 0))) :
    Calls Try.prog 55 #[.slice (some ⟨b, 0, none⟩) l.length l.length] w fun e w' => e = .returned (.bool (l.all isW)) ∧ w' = w := by
  obtain ⟨n, hn⟩ : ∃ n, n = l.length := ⟨_, rfl⟩
  rw [← hn] at hc hl ⊢
  have HN := hide hn
  have HC := hide hc
  clear hc hn
  go_enter Try.func55, Try.ntmps55
  go_wp2
  go_loopw [7] (fun i wr => ∃ j : Nat, i = .int .i64 j ∧ j ≤ n ∧ wr = w ∧ Hid (∀ k, k < j → isW (l.getD k 0) = true)) (fun i _ => n - (intOf i).toNat)
  case atStart => exact ⟨0, rfl, by omega, rfl, fun k hk => by omega⟩
  case round =>
    obtain ⟨j, rfl, hj, rfl, HA⟩ := hrel
    by_cases hjn : j < n
    · obtain ⟨x, hx⟩ : ∃ x, x = l.getD j 0 := ⟨_, rfl⟩
      have hc := HC.out j hjn
      rw [← hx] at hc
      have HX := hide hx
      clear hx
      by_cases h0 : x < 0
      · go_wp2
        go_ret
        exact ⟨by rw [not_all HN.out.symm hjn HX.out (by simp [isW]; omega)]; rfl, rfl⟩
      · by_cases h1 : x > 4294967295
        · go_wp2
          go_ret
          exact ⟨by rw [not_all HN.out.symm hjn HX.out (by simp [isW]; omega)]; rfl, rfl⟩
        · go_wp2
          go_roundw
          case rel =>
            refine ⟨j + 1, by go_num, by omega, by trivial, fun k hk => ?_⟩
            rcases Nat.lt_or_ge k j with h | h
            · exact HA.out k h
            · obtain rfl : k = j := by omega
              rw [← HX.out, isW_iff]
              omega
          case measure => simp [intOf]; omega
    · obtain rfl : j = n := by omega
      go_wp2
      go_ret
      exact ⟨by rw [yes_all HN.out.symm HA.out]; rfl, rfl⟩
end Go.Proofs.Ytondbhdlccpklaa


/- Stage 13: a Begin that may be; New. -/
namespace Go.Proofs.Ytondbhdlccpklaa
open Go.RowKit Go.Maps
set_option linter.unusedVariables false
set_option linter.unusedSimpArgs false

/-- what is read of a performative -/
def PfB (A : Array Value) (ki ni iw no ow hm : Int) : Prop := A.size = 128 ∧ A[0]? = some (.int .i64 ki) ∧ A[12]? = some (.int .i64 ni) ∧ A[13]? = some (.int .i64 iw) ∧ A[14]? = some (.int .i64 no) ∧ A[15]? = some (.int .i64 ow) ∧ A[16]? = some (.int .i64 hm)
def four (ki iw no ow hm : Int) : Bool := decide (ki = 17) && [no, iw, ow, hm].all isW
set_option maxRecDepth 100000 in
theorem mayBegin_any (A : Array Value) (ki ni iw no ow hm : Int) (hA : PfB A ki ni iw no ow hm) (w : World) :
    Calls Try.prog 36 #[.agg A] w fun e w' => e = .returned (.bool (four ki iw no ow hm)) ∧ Below w.heap.size w w' := by
  obtain ⟨hs, h0, h12, h13, h14, h15, h16⟩ := hA
  clear hs
  by_cases hk : ki = 17
  · subst hk
    have HW := hide (areWords_any (w.heap.size + 1) [no, iw, ow, hm] ((w.alloc (.cells A 39)).alloc (.cells #[.int .i64 no, .int .i64 iw, .int .i64 ow, .int .i64 hm] 3)) (by simp) (by simp) (by
      intro j hj
      have : j = 0 ∨ j = 1 ∨ j = 2 ∨ j = 3 := by simp at hj; omega
      rcases this with rfl | rfl | rfl | rfl <;> simp))
    have HF : Hid (four 17 iw no ow hm = [no, iw, ow, hm].all isW) := by simp [Hid, four]
    obtain ⟨r, hr⟩ : ∃ r, [no, iw, ow, hm].all isW = r := ⟨_, rfl⟩
    rw [hr] at HF HW
    rw [HF.out]
    clear HF hr
    go_enter Try.func36, Try.ntmps36
    go_wp2_with (go_at_call 55; refine HW.out.mono ?_; rintro e1 w1 ⟨rfl, rfl⟩)
    go_ret
    exact ⟨rfl, bel1 (bel1 (Below.refl _ _) (Nat.le_refl _) _) (by simp) _⟩
  · rw [show four ki iw no ow hm = false by simp [four, hk]]
    go_enter Try.func36, Try.ntmps36
    go_wp2
    go_ret
    exact ⟨rfl, bel1 (Below.refl _ _) (Nat.le_refl _) _⟩
end Go.Proofs.Ytondbhdlccpklaa


/- Stage 13: New. -/
namespace Go.Proofs.Ytondbhdlccpklaa
open Go.RowKit Go.Maps
set_option linter.unusedVariables false
set_option linter.unusedSimpArgs false

/-- a session with its four tables -/
structure Ses (w : World) (g : Nat) (s : Sn) (H R : List (Int × Int)) (S C : List (Int × Pd)) : Prop where
  sb : SB w g s
  th : TbI w s.bh H
  tr : TbI w s.br R
  ts : TbP w s.bs S
  tc : TbP w s.bc C
  hr : s.bh ≠ s.br
  hs : s.bh ≠ s.bs
  hc : s.bh ≠ s.bc
  rs : s.br ≠ s.bs
  rc : s.br ≠ s.bc
  sc : s.bs ≠ s.bc
/-- the blocks of a session -/
def inS (g : Nat) (s : Sn) (k : Nat) : Prop := k = g ∨ k = s.bh ∨ k = s.br ∨ k = s.bs ∨ k = s.bc
section
variable {w w' : World} {g : Nat} {s : Sn} {H R : List (Int × Int)} {S C : List (Int × Pd)}
theorem Ses.lt (h : Ses w g s H R S C) {k : Nat} (hk : inS g s k) : k < w.heap.size := by
  rcases hk with rfl | rfl | rfl | rfl | rfl
  · exact h.sb.lt
  · exact h.th.lt
  · exact h.tr.lt
  · exact h.ts.lt
  · exact h.tc.lt
theorem Ses.at (h : Ses w g s H R S C) (hb : ∀ k, inS g s k → w'.heap[k]? = w.heap[k]?) : Ses w' g s H R S C :=
  ⟨h.sb.at (hb _ (.inl rfl)), h.th.at (hb _ (.inr (.inl rfl))), h.tr.at (hb _ (.inr (.inr (.inl rfl)))), h.ts.at (hb _ (.inr (.inr (.inr (.inl rfl))))), h.tc.at (hb _ (.inr (.inr (.inr (.inr rfl))))), h.hr, h.hs, h.hc, h.rs, h.rc, h.sc⟩
theorem Ses.below (h : Ses w g s H R S C) (hb : Below w.heap.size w w') : Ses w' g s H R S C := h.at fun k hk => hb.block k (h.lt hk)
theorem Ses.kp {X : Nat → Prop} (h : Ses w g s H R S C) (hb : Kp X w w') (hx : ∀ k, inS g s k → ¬ X k) : Ses w' g s H R S C := h.at fun k hk => hb.block (h.lt hk) (hx k hk)
/-- the session's own block is turned alone -/
theorem Ses.turn {s' : Sn} (h : Ses w g s H R S C) (hs : SB w' g s') (hm : s'.bh = s.bh ∧ s'.br = s.br ∧ s'.bs = s.bs ∧ s'.bc = s.bc) (hk : Kp (fun k => k = g) w w') : Ses w' g s' H R S C := by
  obtain ⟨e1, e2, e3, e4⟩ := hm
  have n1 := h.th.ne h.sb
  have n2 := h.tr.ne h.sb
  have n3 := h.ts.ne h.sb
  have n4 := h.tc.ne h.sb
  exact ⟨hs, by rw [e1]; exact h.th.at (hk.block h.th.lt n1), by rw [e2]; exact h.tr.at (hk.block h.tr.lt n2), by rw [e3]; exact h.ts.at (hk.block h.ts.lt n3), by rw [e4]; exact h.tc.at (hk.block h.tc.lt n4), by rw [e1, e2]; exact h.hr, by rw [e1, e3]; exact h.hs, by rw [e1, e4]; exact h.hc, by rw [e2, e3]; exact h.rs, by rw [e2, e4]; exact h.rc, by rw [e3, e4]; exact h.sc⟩
end
theorem kpS {g : Nat} {s : Sn} {w w' : World} (h : Kp (fun k => k = g) w w') : Kp (inS g s) w w' := h.mono (fun k hk => .inl hk)

theorem pf_info {A : Array Value} (h : A.size = 128) : (Try.prog.info? 39).map (·.size) = some A.size := by rw [h]; kernel_rfl
def newSn (iw no ow hm : Int) (n : Nat) : Sn := ⟨false, no, ow, 0, iw, 0, 0, 0, hm, 0, no, n, n + 1, n + 2, n + 3⟩
set_option maxRecDepth 100000 in
theorem new_no (A : Array Value) (ki ni iw no ow hm : Int) (hA : PfB A ki ni iw no ow hm) (hf : four ki iw no ow hm = false) (w : World) :
    Calls Try.prog 11 #[.agg A] w fun e w' => e = .returned (.pointer none) ∧ Below w.heap.size w w' := by
  have HM := hide (mayBegin_any A ki ni iw no ow hm hA (w.alloc (.cells A 39)))
  rw [hf] at HM
  have hs := hide hA.1
  clear hA hf
  go_enter Try.func11, Try.ntmps11
  go_wp2_with (first | (refine wpList_load_row rfl 39 (.tmp 1) rfl w.heap.size rfl 39 A (0, 0) _ (heap_alloc_last w _) Try.underlying39 rfl (pf_info hs.out) ?_) | (go_at_call 36; refine HM.out.mono ?_; rintro e1 w1 ⟨rfl, hb1⟩))
  go_ret
  exact ⟨rfl, belOn (bel1 (Below.refl _ _) (Nat.le_refl _) _) (by simp) hb1⟩
theorem ses_new (W : World) (iw no ow hm : Int) : Ses (((((W.alloc (.map #[] 0)).alloc (.map #[] 0)).alloc (.map #[] 0)).alloc (.map #[] 0)).alloc (.cells (newSn iw no ow hm W.heap.size).cells 92)) (W.heap.size + 4) (newSn iw no ow hm W.heap.size) [] [] [] [] := by
  have e1 : (W.alloc (.map #[] 0)).heap.size = W.heap.size + 1 := by simp
  have e2 : ((W.alloc (.map #[] 0)).alloc (.map #[] 0)).heap.size = W.heap.size + 2 := by simp
  have e3 : (((W.alloc (.map #[] 0)).alloc (.map #[] 0)).alloc (.map #[] 0)).heap.size = W.heap.size + 3 := by simp
  have e4 : ((((W.alloc (.map #[] 0)).alloc (.map #[] 0)).alloc (.map #[] 0)).alloc (.map #[] 0)).heap.size = W.heap.size + 4 := by simp
  have m0 := TbI.made W
  have m1 := TbI.made (W.alloc (.map #[] 0))
  have m2 := TbP.made ((W.alloc (.map #[] 0)).alloc (.map #[] 0))
  have m3 := TbP.made (((W.alloc (.map #[] 0)).alloc (.map #[] 0)).alloc (.map #[] 0))
  rw [e1] at m1
  rw [e2] at m2
  rw [e3] at m3
  have up : ∀ (w : World) (o : Obj) (k : Nat), k < w.heap.size → (w.alloc o).heap[k]? = w.heap[k]? := fun w o k hk => Below.heap_alloc _ _ _ hk
  refine ⟨?_, ?_, ?_, ?_, ?_, ?_, ?_, ?_, ?_, ?_, ?_⟩ <;> simp only [newSn]
  · have := heap_alloc_last ((((W.alloc (.map #[] 0)).alloc (.map #[] 0)).alloc (.map #[] 0)).alloc (.map #[] 0)) (.cells (newSn iw no ow hm W.heap.size).cells 92)
    rw [e4] at this
    exact this
  · exact (((m0.at (up _ _ _ (by omega))).at (up _ _ _ (by omega))).at (up _ _ _ (by omega))).at (up _ _ _ (by omega))
  · exact ((m1.at (up _ _ _ (by omega))).at (up _ _ _ (by omega))).at (up _ _ _ (by omega))
  · exact (m2.at (up _ _ _ (by omega))).at (up _ _ _ (by omega))
  · exact m3.at (up _ _ _ (by omega))
  all_goals omega
set_option maxRecDepth 100000 in
set_option maxHeartbeats 1000000 in
theorem new_yes (A : Array Value) (ki ni iw no ow hm : Int) (hA : PfB A ki ni iw no ow hm) (hf : four ki iw no ow hm = true) (w : World) :
    Calls Try.prog 11 #[.agg A] w fun e w' => ∃ n, e = .returned (.pointer (some ⟨n + 4, 0, none⟩)) ∧ w.heap.size ≤ n ∧ Ses w' (n + 4) (newSn iw no ow hm n) [] [] [] [] ∧ Below w.heap.size w w' := by
  have HM := hide (mayBegin_any A ki ni iw no ow hm hA (w.alloc (.cells A 39)))
  rw [hf] at HM
  obtain ⟨hs', h0, h12, h13, h14, h15, h16⟩ := hA
  have hs := hide hs'
  have HA := hide (And.intro h13 (And.intro h14 (And.intro h15 h16)))
  clear hf hs' h0 h12 h13 h14 h15 h16
  have hmm := @run_makeMap Try.prog
  go_enter Try.func11, Try.ntmps11
  go_wp2_with (refine wpList_load_row rfl 39 (.tmp 1) rfl w.heap.size rfl 39 A (0, 0) _ (heap_alloc_last w _) Try.underlying39 rfl (pf_info hs.out) ?_)
  refine HM.out.mono ?_
  rintro e1 w1 ⟨rfl, hb1⟩
  have hh : w1.heap[w.heap.size]? = some (.cells A 39 (0, 0)) := (hb1.block _ (by simp)).trans (heap_alloc_last w _)
  have c13 := cellOf hh 13 _ HA.out.1
  have c14 := cellOf hh 14 _ HA.out.2.1
  have c15 := cellOf hh 15 _ HA.out.2.2.1
  have c16 := cellOf hh 16 _ HA.out.2.2.2
  have HB : Hid (Below w.heap.size w w1) := belOn (bel1 (Below.refl _ _) (Nat.le_refl _) _) (by simp) hb1
  have hlt : w.heap.size < w1.heap.size := (Array.getElem?_eq_some_iff.1 hh).1
  clear hb1 hh HA HM hs
  go_wp2
  go_ret
  exact ⟨w1.heap.size, rfl, HB.out.size, ses_new w1 iw no ow hm, bel1 (bel1 (bel1 (bel1 (bel1 HB.out HB.out.size _) (by simp; omega) _) (by simp; omega) _) (by simp; omega) _) (by simp; omega) _⟩
end Go.Proofs.Ytondbhdlccpklaa
