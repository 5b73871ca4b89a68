
/- Stage 18: places that a hash reaches: the mathematics of spread and next. -/
import Derived.Test.YtmanfakdbmlfeaaDoorRRef3
namespace Go.Proofs.YtmanfakdbmlfeaaDoor
open Go.RowKit Go.Maps
set_option linter.unusedVariables false
set_option linter.unusedSimpArgs false
/-- whole numbers 0 and 1 in a row -/
def z1 (b : Bool) : Value := .int .i64 (if b then 1 else 0)
def arr (h : Nat → Bool) (n : Nat) : Array Value := ((List.range n).map fun j => z1 (h j)).toArray
theorem arr_size (h : Nat → Bool) (n : Nat) : (arr h n).size = n := by simp [arr]
theorem arr_at {h : Nat → Bool} {n i : Nat} (hi : i < n) : (arr h n)[i]? = some (z1 (h i)) := by simp [arr, hi]
theorem arr_congr {h h' : Nat → Bool} {n : Nat} (e : ∀ j, j < n → h j = h' j) : arr h n = arr h' n := by
  unfold arr
  congr 1
  refine List.map_congr_left fun j hj => ?_
  rw [e j (List.mem_range.1 hj)]
theorem arr_set {h : Nat → Bool} {n i : Nat} (hi : i < n) : (arr h n).setIfInBounds i (.int .i64 1) = arr (fun j => h j || decide (j = i)) n := by
  apply Array.ext_getElem?
  intro j
  by_cases hj : j < n
  · rw [Array.getElem?_setIfInBounds]
    by_cases e : i = j
    · subst e
      rw [if_pos rfl, if_pos (by rw [arr_size]; exact hi), arr_at hi]
      simp [z1]
    · rw [if_neg e, arr_at hj, arr_at hj]
      have : ¬ j = i := fun h => e h.symm
      simp [this]
  · rw [Array.getElem?_eq_none (by simp [arr_size]; omega), Array.getElem?_eq_none (by simp [arr_size]; omega)]
def spB (p : List ByteArray) (f : Nat → Bool) : Nat → Bool
  | 0 => f 0
  | j + 1 => f (j + 1) || (decide (p[j]? = some bHash) && spB p f j)
theorem spB_congr (p : List ByteArray) {f g : Nat → Bool} : ∀ j, (∀ i, i ≤ j → f i = g i) → spB p f j = spB p g j
  | 0, h => h 0 (Nat.le_refl _)
  | j + 1, h => by rw [spB, spB, h (j + 1) (Nat.le_refl _), spB_congr p j (fun i hi => h i (by omega))]
theorem spB_or (p : List ByteArray) (f g : Nat → Bool) : ∀ j, spB p (fun i => f i || g i) j = (spB p f j || spB p g j)
  | 0 => rfl
  | j + 1 => by
    rw [spB, spB, spB, spB_or p f g j]
    cases f (j + 1) <;> cases g (j + 1) <;> cases decide (p[j]? = some bHash) <;> cases spB p f j <;> cases spB p g j <;> rfl
theorem spB_none (p : List ByteArray) : ∀ j, spB p (fun _ => false) j = false
  | 0 => rfl
  | j + 1 => by rw [spB, spB_none p j, Bool.and_false]; rfl
/-- from place k on -/
def ch (p : List ByteArray) (k : Nat) : Nat → Bool := spB p (fun i => decide (i = k))
theorem ch_self (p : List ByteArray) : ∀ k, ch p k k = true
  | 0 => rfl
  | k + 1 => by unfold ch; rw [spB]; simp
theorem ch_before (p : List ByteArray) (k : Nat) : ∀ j, j < k → ch p k j = false
  | 0, h => by unfold ch; rw [spB]; simp; omega
  | j + 1, h => by
    have := ch_before p k j (by omega)
    unfold ch at *
    rw [spB, this, Bool.and_false]
    simp
    omega
theorem ch_step (p : List ByteArray) {k i : Nat} (hk : k ≤ i) : ch p k (i + 1) = (decide (p[i]? = some bHash) && ch p k i) := by
  unfold ch
  rw [spB, decide_eq_false (by omega), Bool.false_or]
theorem ch_stop (p : List ByteArray) {k i : Nat} (hk : k ≤ i) (hs : p[i]? ≠ some bHash) : ∀ j, i < j → ch p k j = false
  | 0, h => by omega
  | j + 1, h => by
    rw [ch_step p (by omega)]
    by_cases e : i = j
    · subst e
      simp [hs]
    · rw [ch_stop p hk hs j (by omega), Bool.and_false]
/-- f, as far as it was looked at -/
def upto (f : Nat → Bool) (k : Nat) : Nat → Bool := fun i => f i && decide (i < k)
theorem upto_no (p : List ByteArray) {f : Nat → Bool} {k : Nat} (h : f k = false) (j : Nat) : spB p (upto f (k + 1)) j = spB p (upto f k) j := by
  refine spB_congr p j fun i _ => ?_
  unfold upto
  by_cases e : i = k
  · subst e; simp [h]
  · congr 1
    rw [Bool.eq_iff_iff, decide_eq_true_eq, decide_eq_true_eq]
    omega
theorem upto_yes (p : List ByteArray) {f : Nat → Bool} {k : Nat} (h : f k = true) (j : Nat) : spB p (upto f (k + 1)) j = (spB p (upto f k) j || ch p k j) := by
  unfold ch
  rw [← spB_or]
  refine spB_congr p j fun i _ => ?_
  unfold upto
  by_cases e : i = k
  · subst e; simp [h]
  · simp only [decide_eq_false e, Bool.or_false]
    congr 1
    rw [Bool.eq_iff_iff, decide_eq_true_eq, decide_eq_true_eq]
    omega
theorem upto_all (p : List ByteArray) {f : Nat → Bool} {n j : Nat} (h : j < n) : spB p (upto f n) j = spB p f j := by
  refine spB_congr p j fun i hi => ?_
  unfold upto
  rw [decide_eq_true (by omega), Bool.and_true]
theorem upto_zero (p : List ByteArray) (f : Nat → Bool) (j : Nat) : spB p (upto f 0) j = false := by
  rw [spB_congr p (g := fun _ => false) j (fun i _ => by unfold upto; simp)]
  exact spB_none p j
/-- a row of such numbers -/
def Nf (w : World) (v : Value) (n : Nat) (f : Nat → Bool) : Prop := ∃ g c, v = .slice (some ⟨g, 0, none⟩) n c ∧ n ≤ c ∧ c ≤ maxLen ∧ g < w.heap.size ∧ ∀ i, i < n → w.cell? ⟨g, i, none⟩ = some (z1 (f i))
theorem Nf.keep {w w' : World} {v : Value} {n : Nat} {f : Nat → Bool} (h : Nf w v n f) (hb : Below w.heap.size w w') : Nf w' v n f := by
  obtain ⟨g, c, h1, h2, h3, h4, h5⟩ := h
  exact ⟨g, c, h1, h2, h3, Nat.lt_of_lt_of_le h4 hb.size, fun i hi => (World.cell?_of_block (a := ⟨g, i, none⟩) (hb.block g h4)).trans (h5 i hi)⟩
theorem Nf.congr {w : World} {v : Value} {n : Nat} {f f' : Nat → Bool} (h : Nf w v n f) (e : ∀ i, i < n → f i = f' i) : Nf w v n f' := by
  obtain ⟨g, c, h1, h2, h3, h4, h5⟩ := h
  exact ⟨g, c, h1, h2, h3, h4, fun i hi => by rw [← e i hi]; exact h5 i hi⟩
theorem Tryd.infoI : (Tryd.prog.info? 3).map (fun i => (i.zero, i.size, i.bytes)) = some (some (.int .i64 0), 1, 8) := by kernel_rfl
theorem made_arr (N : Nat) : madeCells #[.int .i64 0] N = arr (fun _ => false) N := by
  apply Array.ext_getElem?
  intro j
  by_cases hj : j < N
  · rw [arr_at hj]
    simp [madeCells, hj, z1, Nat.mod_one]
  · rw [Array.getElem?_eq_none (by simp [madeCells]; omega), Array.getElem?_eq_none (by rw [arr_size]; omega)]
theorem set_arr {w : World} {g n i : Nat} {h : Nat → Bool} (hb : w.heap[g]? = some (.cells (arr h n) 3 (0, 0))) (hi : i < n) : (w.setCell ⟨g, i, none⟩ (.int .i64 1)).heap[g]? = some (.cells (arr (fun j => h j || decide (j = i)) n) 3 (0, 0)) := by
  rw [← arr_set hi]
  simp [World.setCell, Array.getElem?_modify, hb]
end Go.Proofs.YtmanfakdbmlfeaaDoor
