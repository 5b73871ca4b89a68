/- What came in, opened: lists of bytes. -/
import Derived.Test.YtjgdebifomkkcabDoorOpen
import Derived.Test.YtjgdebifomkkcabDoorSumsP
import Derived.Deep.Matrix
namespace Go.Proofs.YtjgdebifomkkcabDoor
open Go.RowKit Go.ChangeShapes Go.WideShapes Go.ChangeAt Go.Deep
theorem Tryd.cellsS : Tryd.prog.cellsOf 27 = 1 := by kernel_rfl
theorem Tryd.bytesS : Tryd.prog.bytesOf 27 = 24 := by kernel_rfl
theorem weightsAll_mem {H : Type} {P : Program} {e : TypeId} {d : DataW H} {n : Nat} (l : List (DataW H)) (hd : d ∈ l) (hn : n ∈ d.weights P e) : n ∈ DataW.weightsAll P e l := by
  induction l with
  | nil => cases hd
  | cons x l ih =>
    simp only [DataW.weightsAll, List.mem_append]
    rcases List.mem_cons.1 hd with rfl | h
    · exact .inl hn
    · exact .inr (ih h)
theorem sized_inner {H : Type} {P : Program} {ts : List TypeId} {ds : List (DataW H)} (h : (DataW.weightsEach P ts ds).all (· ≤ reachBytes) = true) {j : Nat} {t e q : TypeId} {elems spare es ss : List (DataW H)}
    (ht : ts[j]? = some t) (hd : ds[j]? = some (.slice elems spare)) (hu : P.underlying t = some (.slice e)) (hu2 : P.underlying e = some (.slice q)) (hm : (DataW.slice es ss) ∈ elems) :
    (es.length + ss.length) * P.bytesOf q ≤ reachBytes := by
  have := List.all_eq_true.1 h _ (DataW.weights_mem_each ht hd ((es.length + ss.length) * P.bytesOf q) (by
    simp only [DataW.weights, hu, List.mem_cons, List.mem_append]
    exact .inr (.inl (weightsAll_mem elems hm (by simp [DataW.weights, hu2])))))
  simpa using this

def toN (len : Nat) (zs : List Int) : List Nat := (zs.take len).map Int.toNat
/-- lists of bytes that came in -/
theorem rows_open {H : Type} {enc : TypeId × Value → H} {W : World} {a : Option Addr} {len cap fuel j : Nat} {x : DataW H × List MemPlace} {ts : List TypeId} {ds : List (DataW H)}
    (hf : DataW.trod enc Tryd.prog W 0 (fun _ => true) true fuel 26 [.slice a len cap] = some x) (hsz : (DataW.weightsEach Tryd.prog ts ds).all (· ≤ reachBytes) = true)
    (ht : ts[j]? = some 26) (hd : ds[j]? = some x.1) :
    len = 0 ∨ ∃ (pb po : Nat) (ls : List (List Nat)), a = some ⟨pb, po, none⟩ ∧ 0 < len ∧ len ≤ cap ∧ len ≤ 5864062014634 ∧ ls.length = len ∧ pb < W.heap.size ∧
      ∀ k, k < len → ∃ y c, W.cell? ⟨pb, po + k, none⟩ = some (.slice y (Nn ls k) c) ∧ Nn ls k ≤ c ∧ c ≤ 140737488351232 ∧ Rd W y (Nn ls k) (ls.getD k []) := by
  rcases open_int_rows Tryd.underlying26 Tryd.underlying27 Tryd.underlying5 Tryd.cellsS Tryd.cells5 hf with ⟨hcs, hx⟩ | ⟨y, l, c, A, L, C, Z, hcs, _, hl, hm, hx, hr⟩
  · simp at hcs
    exact .inl hcs.2.1
  · simp at hcs
    obtain ⟨rfl, rfl, rfl⟩ := hcs
    by_cases h0 : len = 0
    · exact .inl h0
    right
    subst hx
    have hs0 := sized_slice hsz ht hd Tryd.underlying26
    rw [Tryd.bytesS] at hs0
    simp only [List.length_map, List.length_range, reachBytes] at hs0
    obtain ⟨pb, po, spot⟩ := y
    have hc0 := (hr 0 (by omega)).1
    have hspot : spot = none := by simpa [Addr.add] using World.cell?_spot hc0
    subst hspot
    have hNn : ∀ k, k < len → Nn ((List.range len).map fun r => toN (L r) (Z r)) k = L k ∧ ((List.range len).map fun r => toN (L r) (Z r)).getD k [] = toN (L k) (Z k) := fun k hk => by
      have e : ((List.range len).map fun r => toN (L r) (Z r)).getD k [] = toN (L k) (Z k) := by simp [List.getD_eq_getElem?_getD, hk]
      refine ⟨?_, e⟩
      unfold Nn
      rw [e]
      obtain ⟨_, h1, _, h3, _⟩ := hr k (by omega)
      simp [toN]; omega
    refine ⟨pb, po, (List.range len).map fun r => toN (L r) (Z r), rfl, by omega, hl, by omega, by simp, ?_, fun k hk => ?_⟩
    · exact block_lt_of_cell hc0
    · obtain ⟨hc, h1, h2, h3, h4, h5, h6⟩ := hr k (by omega)
      rw [(hNn k hk).1, (hNn k hk).2]
      rw [add_none] at hc
      refine ⟨A k, C k, hc, h1, ?_, ?_⟩
      · cases hA : A k with
        | none => have := h5 hA; omega
        | some a' =>
          have := sized_inner hsz ht hd Tryd.underlying26 Tryd.underlying27 (es := lits .u8 ((Z k).take (L k))) (ss := lits .u8 ((Z k).drop (L k))) (by
            refine List.mem_map.2 ⟨k, List.mem_range.2 hk, ?_⟩
            unfold intRow
            rw [hA])
          rw [Tryd.bytes5] at this
          simp only [lits, List.length_map, List.length_take, List.length_drop, reachBytes] at this
          omega
      · cases hA : A k with
        | none =>
          have hC := h5 hA
          have hL : L k = 0 := by omega
          rw [hL]
          exact ⟨by simp [toN], by simp [toN], by omega⟩
        | some a' =>
          have := h6 a' hA
          exact Rd.of_cells h1 h3 (fun i hi => this.2 i (by omega)) h4
end Go.Proofs.YtjgdebifomkkcabDoor
