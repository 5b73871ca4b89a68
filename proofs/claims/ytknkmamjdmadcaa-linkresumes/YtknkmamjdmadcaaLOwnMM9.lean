import Derived.Test.YtknkmamjdmadcaaLKeep2M9

/- Stage 14: a delivery in its block. -/
namespace Go.Proofs.Ytknkmamjdmadcaa
open Go.RowKit Go.Maps
set_option linter.unusedVariables false
set_option linter.unusedSimpArgs false

theorem setCells_other (N k : Nat) (h : k ≠ N) : ∀ (vs : List Value) (o : Nat) (w : World), (w.setCells N o vs).heap[k]? = w.heap[k]?
  | [], _, _ => rfl
  | v :: r, o, w => (setCells_other N k h r (o + 1) _).trans (blk_set_other _ _ _ _ h)
theorem setCells_size (N : Nat) : ∀ (vs : List Value) (o : Nat) (w : World), (w.setCells N o vs).heap.size = w.heap.size
  | [], _, _ => rfl
  | v :: r, o, w => (setCells_size N r (o + 1) _).trans (by simp)
theorem setCells_below {B : Nat} {N : Nat} (hN : B ≤ N) {w : World} : ∀ (vs : List Value) (o : Nat) (w' : World), Below B w w' → Below B w (w'.setCells N o vs)
  | [], _, _, h => h
  | v :: r, o, w', h => setCells_below hN r (o + 1) _ (bel_setCell h hN o v)
theorem setCells_at (N : Nat) {t : TypeId} {fr : Nat × Nat} : ∀ (vs : List Value) (o : Nat) (w : World) (pre mid post : List Value), w.heap[N]? = some (.cells ⟨pre ++ mid ++ post⟩ t fr) → pre.length = o → mid.length = vs.length → (w.setCells N o vs).heap[N]? = some (.cells ⟨pre ++ vs ++ post⟩ t fr)
  | [], o, w, pre, mid, post, h, ho, hm => by
    obtain rfl : mid = [] := List.eq_nil_of_length_eq_zero hm
    exact h
  | v :: r, o, w, pre, mid, post, h, ho, hm => by
    cases mid with
    | nil => simp at hm
    | cons m ms =>
      have h2 : (w.setCell ⟨N, o, none⟩ v).heap[N]? = some (.cells ⟨(pre ++ [v]) ++ ms ++ post⟩ t fr) := by
        simp [World.setCell, Array.getElem?_modify, h, ← ho]
      have := setCells_at N r (o + 1) _ (pre ++ [v]) ms post h2 (by simp [ho]) (by simpa using hm)
      simpa [World.setCells] using this
theorem set_own {w : World} {N : Nat} {a q : Int} {t : TypeId} {fr : Nat × Nat} (k : Int) (h : w.heap[N]? = some (.cells (dvA (a, q)) t fr)) : (w.setCells N 0 (stA k).toList).heap[N]? = some (.cells (dvA (k, q)) t fr) :=
  setCells_at N (stL k) 0 w [] (stL a) (stL q) h rfl rfl
theorem set_peer {w : World} {N : Nat} {a q : Int} {t : TypeId} {fr : Nat × Nat} (k : Int) (h : w.heap[N]? = some (.cells (dvA (a, q)) t fr)) : (w.setCells N 19 (stA k).toList).heap[N]? = some (.cells (dvA (a, k)) t fr) := by
  have := setCells_at N (stL k) 19 w (stL a) (stL q) [] (by rw [List.append_nil]; exact h) rfl rfl
  rwa [List.append_nil] at this
theorem range_own {w : World} {N : Nat} {a q : Int} {t : TypeId} {fr : Nat × Nat} (h : w.heap[N]? = some (.cells (dvA (a, q)) t fr)) : w.rangeAt N 0 (stL a) := fun j v hv => by
  have hj : j < 19 := by
    have := (List.getElem?_eq_some_iff.1 hv).1
    simpa [stL] using this
  simp only [World.cell?, h, Nat.zero_add, dvA, List.getElem?_toArray]
  rw [List.getElem?_append_left (by simpa [stL] using hj)]
  exact hv
theorem range_peer {w : World} {N : Nat} {a q : Int} {t : TypeId} {fr : Nat × Nat} (h : w.heap[N]? = some (.cells (dvA (a, q)) t fr)) : w.rangeAt N 19 (stL q) := fun j v hv => by
  simp only [World.cell?, h, dvA, List.getElem?_toArray]
  rw [List.getElem?_append_right (by simp [stL])]
  simpa [stL] using hv
theorem there_dv {w : World} {N : Nat} {p : Dv} {t : TypeId} (o : Nat) (ho : o ≤ 19) (h : w.heap[N]? = some (.cells (dvA p) t (0, 0))) (k : Int) : w.there N o (stA k).size := fun j hj => by
  have hj' : j < 19 := by simpa [stA, stL] using hj
  have hs : (dvA p).size = 38 := rfl
  refine ⟨?_, by simp [World.frozen?, h]⟩
  simp only [World.cell?, h]
  rw [Array.getElem?_eq_getElem (by rw [hs]; omega)]
  rfl
end Go.Proofs.Ytknkmamjdmadcaa
