/- ByteBook's Owned: the three lists as their owner writes them. -/
import Derived.Test.YtjgdebifomkkcaaDoorPutP
namespace Go.Proofs.YtjgdebifomkkcaaDoor
open Go.RowKit Go.Deep
set_option linter.unusedVariables false

/-- the three lists: those ahead of the i-th, and the first k bytes of that one, hold their mark -/
def Own3 (w : World) (m : Nat) (gd : Nat → Nat) (i k : Nat) : Prop :=
  ∀ j, j < 3 → 0 < m → ∃ cur, w.heap[gd j]? = some (.cells cur 5 (0, 0)) ∧ cur.size = m ∧ ∀ q, q < m → (j < i ∨ (j = i ∧ q < k)) → cur[q]? = some (byteV j)
theorem Own3.set {w : World} {m : Nat} {gd : Nat → Nat} {i k : Nat} (h : Own3 w m gd i k) (hinj : ∀ a b, a < 3 → b < 3 → gd a = gd b → a = b) (hi : i < 3) (hk : k < m) {v : Value} (hv : v = byteV i) :
    Own3 (w.setCell ⟨gd i, k, none⟩ v) m gd i (k + 1) := fun j hj hm => by
  subst hv
  obtain ⟨cur, h1, h2, h3⟩ := h j hj hm
  by_cases he : j = i
  · subst he
    refine ⟨cur.set! k (byteV j), ?_, by simpa using h2, fun q hq hor => ?_⟩
    · simp [World.setCell, Array.getElem?_modify, h1]
    · by_cases hqk : q = k
      · subst hqk
        simp [h2, hk]
      · rw [Array.set!_eq_setIfInBounds, Array.getElem?_setIfInBounds_ne (by omega)]
        exact h3 q hq (by omega)
  · refine ⟨cur, ?_, h2, fun q hq hor => h3 q hq (by omega)⟩
    rw [← h1]
    have : gd i ≠ gd j := fun e => he (hinj j i hj hi e.symm)
    simp [World.setCell, Array.getElem?_modify, this]
theorem Own3.next {w : World} {m : Nat} {gd : Nat → Nat} {i : Nat} (h : Own3 w m gd i m) : Own3 w m gd (i + 1) 0 := fun j hj hm => by
  obtain ⟨cur, h1, h2, h3⟩ := h j hj hm
  exact ⟨cur, h1, h2, fun q hq hor => h3 q hq (by omega)⟩
theorem Own3.blk {w : World} {m : Nat} {gd : Nat → Nat} (h : Own3 w m gd 3 0) {j : Nat} (hj : j < 3) (hm : 0 < m) : Blk w (gd j) m j := by
  obtain ⟨cur, h1, h2, h3⟩ := h j hj hm
  exact ⟨cur, h1, fun q hq => h3 q hq (.inl hj)⟩
theorem Own3.cell {w : World} {m : Nat} {gd : Nat → Nat} {i k : Nat} (h : Own3 w m gd i k) {j q : Nat} (hj : j < 3) (hq : q < m) : (∃ old, w.cell? ⟨gd j, q, none⟩ = some old) ∧ w.frozen? ⟨gd j, q, none⟩ = false := by
  obtain ⟨cur, h1, h2, h3⟩ := h j hj (by omega)
  constructor
  · refine ⟨cur[q]'(by omega), ?_⟩
    simp [World.cell?, h1, h2, hq]
  · simp [World.frozen?, h1]
def In3 (m : Nat) (gd : Nat → Nat) (k : Nat) : Prop := 0 < m ∧ ∃ j, j < 3 ∧ gd j = k

theorem step_l {w1 w4 w5 : World} {B L a n : Nat} {l gr v' : Value} {els : List Value} {o : Obj} (hown : w4.ownsRow B 5 1 l L (List.replicate L (byteV a))) (hgr : w4.ownsRow B 24 1 gr n els) (hsn : Snap w4 B els l.ownBlock L a) (hbw : Below B w1 w4) (hB : B ≤ w1.heap.size)
    (r1 : w5.ownsRow B 5 1 v' (L + 1) (List.replicate L (byteV a) ++ [byteV a])) (r2 : (∃ g, v'.ownBlock = some g ∧ l.ownBlock = some g ∧ (w4.alloc o).grownBy w5 (some g)) ∨ (∃ g, v'.ownBlock = some g ∧ (w4.alloc o).heap.size ≤ g ∧ (w4.alloc o).grownBy w5 none)) :
    ∃ g cap, v' = .slice (some ⟨g, 0, none⟩) (L + 1) cap ∧ B ≤ g ∧ w5.ownsRow B 5 1 (.slice (some ⟨g, 0, none⟩) (L + 1) cap) (L + 1) (List.replicate (L + 1) (byteV a)) ∧ w5.ownsRow B 24 1 gr n els ∧ Snap w5 B els (some g) (L + 1) a ∧ Below B w1 w5 := by
  rw [rep_snoc] at r1
  obtain ⟨g, cap, rfl, hbg, hlt⟩ := own_shape r1 (Nat.succ_pos L)
  have hsz := Nat.le_trans hB hbw.size
  have hbl : Below B w1 (w4.alloc o) := hbw.alloc hsz o
  have hsa : Snap (w4.alloc o) B els l.ownBlock L a := hsn.below ((Below.refl _ w4).alloc (Nat.le_refl _) o)
  have hba : B ≤ (w4.alloc o).heap.size := by simp; omega
  refine ⟨g, cap, rfl, hbg, r1, ?_⟩
  rcases r2 with ⟨g', e1, e2, hg⟩ | ⟨g', e1, e2, hg⟩
  · simp only [Value.ownBlock, Option.some.injEq] at e1
    subst e1
    rw [e2] at hsa
    refine ⟨own_other (hgr.alloc o) hg (hown.alloc o) (.inr e2.symm) (by decide), hsa.room hg (Blk.of_own r1), hbl.grown hg hba (fun k hk => ?_)⟩
    simp only [Option.some.injEq] at hk
    omega
  · simp only [Value.ownBlock, Option.some.injEq] at e1
    subst e1
    refine ⟨own_other (hgr.alloc o) hg (hown.alloc o) (.inl rfl) (by decide), hsa.new hg e2, hbl.grown hg hba (fun k hk => by cases hk)⟩
theorem step_0 {w1 w4 w5 : World} {B L a n : Nat} {gr v' : Value} {els : List Value} {o : Obj} (hgr : w4.ownsRow B 24 1 gr n els) (hsn : Snap w4 B els none 0 0) (hbw : Below B w1 w4) (hB : B ≤ w1.heap.size)
    (r1 : w5.ownsRow (w4.alloc o).heap.size 5 1 v' (L + 1) (List.replicate L (byteV a) ++ [byteV a])) (hg : (w4.alloc o).grownBy w5 none) :
    ∃ g cap, v' = .slice (some ⟨g, 0, none⟩) (L + 1) cap ∧ B ≤ g ∧ w5.ownsRow B 5 1 (.slice (some ⟨g, 0, none⟩) (L + 1) cap) (L + 1) (List.replicate (L + 1) (byteV a)) ∧ w5.ownsRow B 24 1 gr n els ∧ Snap w5 B els (some g) (L + 1) a ∧ Below B w1 w5 := by
  rw [rep_snoc] at r1
  obtain ⟨g, cap, rfl, hbg, hlt⟩ := own_shape r1 (Nat.succ_pos L)
  have hsz := Nat.le_trans hB hbw.size
  have hba : B ≤ (w4.alloc o).heap.size := by simp; omega
  have hsa : Snap (w4.alloc o) B els none 0 0 := hsn.below ((Below.refl _ w4).alloc (Nat.le_refl _) o)
  exact ⟨g, cap, rfl, Nat.le_trans hba hbg, ownsRow_base r1 hba, (hgr.alloc o).kept hg (by cases gr.ownBlock <;> simp), hsa.new hg hbg, (hbw.alloc hsz o).grown hg hba (fun k hk => by cases hk)⟩
theorem step_g {w1 w5 w6 : World} {B L a n g cap : Nat} {gr : Value} {els : List Value} {o : Obj} (hl : w5.ownsRow B 5 1 (.slice (some ⟨g, 0, none⟩) L cap) L (List.replicate L (byteV a))) (hgr : w5.ownsRow B 24 1 gr n els) (hsn : Snap w5 B els (some g) L a) (hbw : Below B w1 w5) (hB : B ≤ w1.heap.size) (hbg : B ≤ g) (hL : L ≤ 28) (hn : n / 5 = a)
    (r2 : (w5.alloc o).grownBy w6 gr.ownBlock) :
    w6.ownsRow B 5 1 (.slice (some ⟨g, 0, none⟩) L cap) L (List.replicate L (byteV a)) ∧ Snap w6 B (els ++ [.slice (some ⟨g, 0, none⟩) L cap]) (some g) L a ∧ Below B w1 w6 := by
  have hsz := Nat.le_trans hB hbw.size
  have hba : B ≤ (w5.alloc o).heap.size := by simp; omega
  have hl6 := own_other (hl.alloc o) r2 (hgr.alloc o) (.inr rfl) (by decide)
  have hsa : Snap (w5.alloc o) B els (some g) L a := hsn.below ((Below.refl _ w5).alloc (Nat.le_refl _) o)
  have hs6 := hsa.other (hgr.alloc o) r2
  have hlen : els.length = n := by have := hgr.1; simpa using this
  exact ⟨hl6, hs6.snoc (Blk.of_own hl6) hbg hL (by rw [hlen]; exact hn), (hbw.alloc hsz o).grown r2 hba (fun k hk => (hgr.lt k hk).1)⟩
theorem cells_old {w1 w4 : World} {m a : Nat} {gd : Nat → Nat} {A : Option Addr} {o : Obj} (h : Own3 w1 m gd 3 0) (ha : a < 3) (hA : 0 < m → A = some ⟨gd a, 0, none⟩) (hb : Below w1.heap.size w1 w4) :
    ∀ b, A = some b → ∀ j u, (List.replicate m (byteV a))[j]? = some u → (w4.alloc o).cell? (b.add j) = some u := fun b he j u hj => by
  have hjm : j < m := by have := (List.getElem?_eq_some_iff.1 hj).1; simpa using this
  have hA2 := hA (by omega)
  rw [hA2] at he
  simp only [Option.some.injEq] at he
  subst he
  have hbk := h.blk ha (show 0 < m by omega)
  have hlt := hbk.lt
  obtain ⟨cur, hg, hc⟩ := hbk
  simp only [List.getElem?_replicate, hjm, if_true, Option.some.injEq] at hj
  subst hj
  have e4 : (w4.alloc o).heap[gd a]? = some (.cells cur 5 (0, 0)) := by
    rw [heap_alloc_old w4 o (Nat.lt_of_lt_of_le hlt hb.size), hb.block _ hlt]
    exact hg
  rw [add_none, Nat.zero_add]
  simp only [World.cell?, e4, hc j hjm]
  rfl
theorem cn_yes {q : Nat} (h : q < 3 ∨ q = 8 ∨ q = 19) : cn (q + 1) = cn q + 1 ∧ cn q ≤ 4 := by
  unfold cn
  rcases h with h | rfl | rfl
  · rw [if_pos (by omega), if_pos (by omega)]; omega
  · decide
  · decide
theorem cn_no {q : Nat} (h1 : ¬ q < 3) (h2 : q ≠ 8) (h3 : q ≠ 19) (h4 : q < 20) : cn (q + 1) = cn q := by
  unfold cn
  rw [if_neg (by omega)]
  by_cases h5 : q ≤ 3
  · rw [if_pos h5, if_pos (by omega)]; omega
  · rw [if_neg h5]
    by_cases h6 : q ≤ 8
    · rw [if_pos (by omega), if_pos h6]
    · rw [if_neg (by omega), if_neg h6, if_pos (by omega), if_pos (by omega)]
theorem cn_le {q : Nat} : cn q ≤ 5 := by
  unfold cn
  split
  · omega
  · split
    · omega
    · split <;> omega
end Go.Proofs.YtjgdebifomkkcaaDoor
