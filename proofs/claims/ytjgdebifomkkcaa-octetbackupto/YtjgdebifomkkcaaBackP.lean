/- OctetBack: steps outside the walk. -/
import Derived.Test.YtjgdebifomkkcaaApp
import Derived.Test.YtjgdebifomkkcaaGet
namespace Go.Proofs.Ytjgdebifomkkcaa
open Go.RowKit

def bV (c : Nat) : Value := .int .u8 (c : Int)
theorem cell_new1 (w : World) (v : Value) (t : TypeId) : (w.alloc (.cells #[v] t)).cell? ⟨w.heap.size, 0, none⟩ = some v := by
  rw [World.cell?_alloc_at _ _ _ _ rfl]; rfl
theorem Rd.ofOwn {w : World} {base g n cap : Nat} {t : TypeId} {l : List Nat} (h : w.ownsRow base t 1 (.slice (some ⟨g, 0, none⟩) n cap) n (l.map bV)) (hb : ∀ c ∈ l, c < 256) : Rd w (some ⟨g, 0, none⟩) n l := by
  have hl : l.length = n := by have := h.1; simpa using this
  refine ⟨hl, hb, fun _ => ⟨g, 0, rfl, (h.lt g rfl).2, fun j hj => ?_⟩⟩
  rw [Nat.zero_add, h.cellAt j (by omega), List.getElem?_map, List.getElem?_eq_getElem (by omega)]
  simp [bV, List.getD_eq_getElem?_getD, List.getElem?_eq_getElem (show j < l.length by omega)]
/-- the bytes of a number, the highest first -/
def digs (N k : Nat) : List Nat := (List.range k).map (fun i => dig N (k - 1 - i))
theorem digs_length (N k : Nat) : (digs N k).length = k := by simp [digs]
theorem digs_lt (N k : Nat) : ∀ c ∈ digs N k, c < 256 := by
  intro c hc
  obtain ⟨i, _, rfl⟩ := List.mem_map.1 hc
  exact Nat.mod_lt _ (by omega)
theorem digs_getD (N k i : Nat) (h : i < k) : (digs N k).getD i 0 = dig N (k - 1 - i) := by simp [digs, List.getD_eq_getElem?_getD, h]
theorem digs_succ (N k : Nat) : digs N (k + 1) = dig N k :: digs N k := by
  unfold digs
  rw [List.range_succ_eq_map, List.map_cons, List.map_map]
  congr 1
  apply List.map_congr_left
  intro i hi
  have := List.mem_range.1 hi
  simp only [Function.comp]
  congr 1
  omega
theorem fold_eq (l : List Nat) (m : Nat) : l.foldl (fun m c => m * 256 + c) m = m * 256 ^ l.length + getN l := by
  induction l generalizing m with
  | nil => simp [getN]
  | cons c l ih =>
    unfold getN
    rw [List.foldl_cons, List.foldl_cons, ih, ih, List.length_cons, Nat.pow_succ]
    simp only [Nat.zero_mul, Nat.zero_add]
    rw [Nat.add_mul, Nat.mul_assoc, Nat.mul_comm 256, Nat.add_assoc]
theorem getN_digs (N k : Nat) : getN (digs N k) = N % 256 ^ k := by
  induction k with
  | zero => simp [digs, getN, Nat.mod_one]
  | succ k ih =>
    rw [digs_succ]
    have : getN (dig N k :: digs N k) = dig N k * 256 ^ (digs N k).length + getN (digs N k) := by
      unfold getN
      rw [List.foldl_cons, fold_eq]
      simp [getN]
    rw [this, ih, digs_length]
    unfold dig
    rw [Nat.pow_succ, Nat.mod_mul, Nat.mul_comm (N / 256 ^ k % 256), Nat.add_comm]
theorem Rd.of_digs {w : World} {b k : Nat} {t : TypeId} {N : Nat} (h : w.rowIs b t k (fun i => .int .u8 ((dig N (k - 1 - i) : Nat) : Int))) : Rd w (some ⟨b, 0, none⟩) k (digs N k) := by
  refine ⟨digs_length N k, digs_lt N k, fun _ => ⟨b, 0, rfl, h.lt, fun j hj => ?_⟩⟩
  rw [Nat.zero_add, h.cell hj, digs_getD N k j hj]
theorem map_take (l : List Nat) (k : Nat) (h : k < l.length) (pre : List Nat) : (pre ++ l.take (k + 1)).map bV = (pre ++ l.take k).map bV ++ [bV (l.getD k 0)] := by
  rw [take_snocN l k h, ← List.append_assoc, List.map_append]
  rfl
end Go.Proofs.Ytjgdebifomkkcaa
