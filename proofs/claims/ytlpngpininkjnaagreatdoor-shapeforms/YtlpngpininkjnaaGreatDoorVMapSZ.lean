import Derived.Test.YtlpngpininkjnaaGreatDoorVSortVZ
import Derived.Test.YtlpngpininkjnaaGreatDoorVEqZ
import Derived.Test.YtlpngpininkjnaaGreatDoorVKeepZ
import Derived.Test.YtlpngpininkjnaaGreatDoorVStepZ
import Derived.Test.YtlpngpininkjnaaGreatDoorVWalkZ
import Derived.Deep.RegionHeldLaw

/- value.isMap. -/
namespace Go.Proofs.YtlpngpininkjnaaGreatDoor
open Go.RowKit
set_option linter.unusedVariables false
set_option linter.unusedSimpArgs false

/-- every other one, from the first on -/
def evens {α : Type} : List α → List α
  | a :: _ :: r => a :: evens r
  | [a] => [a]
  | [] => []
theorem evens_drop {α : Type} (l : List α) (i : Nat) (h : i < l.length) : evens (l.drop i) = l[i] :: evens (l.drop (i + 2)) := by
  rw [List.drop_eq_getElem_cons h]
  by_cases h2 : i + 1 < l.length
  · rw [List.drop_eq_getElem_cons h2, evens]
  · have e1 : l.drop (i + 1) = [] := List.drop_of_length_le (by omega)
    have e2 : l.drop (i + 2) = [] := List.drop_of_length_le (by omega)
    rw [e1, e2, evens, evens]
theorem evens_map {α β : Type} (f : α → β) : ∀ (n : Nat) (l : List α), l.length ≤ n → evens (l.map f) = (evens l).map f
  | _, [], _ => rfl
  | _, [_], _ => rfl
  | 0, _ :: _ :: _, h => by simp at h
  | n + 1, a :: b :: r, h => by
    simp only [List.map_cons, evens]
    rw [evens_map f n r (by simp at h; omega)]
theorem evens_mem {α : Type} : ∀ (n : Nat) (l : List α), l.length ≤ n → ∀ x ∈ evens l, x ∈ l
  | _, [], _, x, h => by simp [evens] at h
  | _, [a], _, x, h => by simpa [evens] using h
  | 0, _ :: _ :: _, hn, x, h => by simp at hn
  | n + 1, a :: b :: r, hn, x, h => by
    simp only [evens, List.mem_cons] at h
    rcases h with rfl | h
    · simp
    · have := evens_mem n r (by simp at hn; omega) x h
      simp [this]
/-- no two are the same -/
def nodupT : List T → Bool
  | [] => true
  | x :: r => r.all (fun y => !eqT x y) && nodupT r
theorem nodupT_iff (l : List T) : nodupT l = true ↔ l.Pairwise (fun a b => eqT a b = false) := by
  induction l with
  | nil => simp [nodupT]
  | cons x r ih => simp [nodupT, ih, List.pairwise_cons]
/-- may these be the parts of a map? -/
def mapT (L : List T) : Bool := decide (L.length % 2 = 0) && (decide (L.length / 2 ≤ 1024) && nodupT (evens L))
theorem eqT_symm' (x y : T) : eqT y x = eqT x y := by
  unfold eqT
  rw [neg_ord x y, Bool.eq_iff_iff]
  simp only [decide_eq_true_eq]
  omega
theorem eqT_false (x y : T) : eqT x y = false ↔ T.ord x y ≠ 0 := by unfold eqT; simp
theorem nodupT_perm {l m : List T} (h : l.Perm m) : nodupT l = nodupT m := by
  rw [Bool.eq_iff_iff, nodupT_iff, nodupT_iff]
  exact h.pairwise_iff (fun {a b} hab => by rw [eqT_symm']; exact hab)
/-- in order, those that are the same stand side by side -/
theorem nodupT_sorted (l : List T) (hs : ∀ i j (hi : i < l.length) (hj : j < l.length), i < j → 0 ≤ T.ord l[j] l[i]) : nodupT l = true ↔ ∀ i (h : i + 1 < l.length), eqT l[i] l[i + 1] = false := by
  rw [nodupT_iff, List.pairwise_iff_getElem]
  constructor
  · intro h i hi
    exact h i (i + 1) (by omega) hi (by omega)
  · intro h i j hi hj hij
    by_cases e : j = i + 1
    · subst e
      exact h i hj
    · rw [eqT_false]
      obtain ⟨k, rfl⟩ : ∃ k, j = k + 1 := ⟨j - 1, by omega⟩
      have h1 := hs i k hi (by omega) (by omega)
      have h2 := hs k (k + 1) (by omega) hj (by omega)
      have h3 := (eqT_false _ _).1 (h k hj)
      have t := tri_ord l[i] l[k] l[k + 1]
      rw [neg_ord] at h1 h2
      unfold Tri at t
      omega

/-- keys that are gathered -/
structure Gath (B i : Nat) (l ks : List V) (kv : Value) (wr : World) : Prop where
  size : B ≤ wr.heap.size
  row : wr.ownsRow B 30 5 kv ks.length (flat ks)
  blk : ∃ g, kv.ownBlock = some g
  len : 2 * ks.length ≤ i + 1
  ev : evens l = ks ++ evens (l.drop i)
theorem Gath.below {B i : Nat} {l ks : List V} {kv : Value} {wr w' : World} (h : Gath B i l ks kv wr) (hb : Below wr.heap.size wr w') : Gath B i l ks kv w' :=
  ⟨Nat.le_trans h.size hb.size, ownsRow_keep h.row (fun g hg => hb.block g (ownsRow_lt h.row hg).2), h.blk, h.len, h.ev⟩
theorem Gath.push {B i : Nat} {l ks : List V} {kv v' : Value} {wr w' : World} (h : Gath B i l ks kv wr) (hi : i < l.length) (h1 : w'.ownsRow B 30 5 v' (ks.length + 1) (flat ks ++ words l[i])) (hg : wr.grownBy w' kv.ownBlock) : Gath B (i + 2) l (ks ++ [l[i]]) v' w' ∧ ∀ w0, Below B w0 wr → Below B w0 w' := by
  refine ⟨⟨Nat.le_trans h.size hg.size, ?_, ?_, ?_, ?_⟩, fun w0 hw => hw.grown hg h.size (fun k hk => (ownsRow_lt h.row hk).1)⟩
  · rw [List.length_append, flat_append]
    simpa [flat] using h1
  · rcases h1.2 with ⟨_, h0⟩ | ⟨g, cap, cur, rfl, _⟩
    · omega
    · exact ⟨g, rfl⟩
  · have := h.len
    simp only [List.length_append, List.length_cons, List.length_nil]
    omega
  · rw [h.ev, evens_drop l i hi]
    simp
end Go.Proofs.YtlpngpininkjnaaGreatDoor
