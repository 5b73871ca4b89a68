
/- QueueOrder: what holds between the law's list and the queue. -/
import Derived.Test.YtnbhifakfehefaaKSame
import Derived.Test.YtnbhifakfehefaaKLive
import Derived.Test.YtnbhifakfehefaaKPutR
namespace Go.Proofs.Ytnbhifakfehefaa
open Go.RowKit
set_option linter.unusedVariables false
set_option linter.unusedSimpArgs false
def pr (ls : List Ev) (j : Nat) : Int := (ls[j]?.map Ev.pri).getD 0
/-- of the first n the first one of the highest priority -/
def Best (ls : List Ev) (n k : Nat) : Prop := k < n ∧ ∀ j, j < n → pr ls j ≤ pr ls k ∧ (j < k → pr ls j < pr ls k)
theorem Best.one (ls : List Ev) : Best ls 1 0 := ⟨by omega, fun j hj => by
  have : j = 0 := by omega
  subst this
  exact ⟨Int.le_refl _, fun h => by omega⟩⟩
theorem Best.new {ls : List Ev} {n k : Nat} (h : Best ls n k) (hp : pr ls k < pr ls n) : Best ls (n + 1) n := ⟨by omega, fun j hj => by
  by_cases e : j = n
  · subst e
    exact ⟨Int.le_refl _, fun h => by omega⟩
  · have := (h.2 j (by omega)).1
    exact ⟨by omega, fun _ => by omega⟩⟩
theorem Best.old {ls : List Ev} {n k : Nat} (h : Best ls n k) (hp : pr ls n ≤ pr ls k) : Best ls (n + 1) k := ⟨by have := h.1; omega, fun j hj => by
  by_cases e : j = n
  · subst e
    exact ⟨hp, fun h1 => by have := h.1; omega⟩
  · exact h.2 j (by omega)⟩
theorem Best.same {ls : List Ev} {n k k' : Nat} (h : Best ls n k) (h' : Best ls n k') : k = k' := by
  have a := h.2 k' h'.1
  have b := h'.2 k h.1
  rcases Nat.lt_trichotomy k k' with e | e | e
  · have := b.2 e
    omega
  · exact e
  · have := a.2 e
    omega
/-- an entry of the law and an item of the queue -/
def Mt (w : World) (x : Ev) (y : It) (l : List Nat) : Prop := (x.seq = y.seq ∧ x.pri = y.pri ∧ x.exp = y.exp ∧ x.dur = y.dur ∧ x.cnt = y.cnt ∧ x.hol = y.hol) ∧ x.n = l.length ∧ Rd w x.a x.n l
def cO : Cf := ⟨⟨#[113]⟩, 4096, ⟨#[]⟩, 0, false⟩
theorem cO_ok : cO.ok = true := by
  have h1 : nameOk ⟨#[113]⟩ = true := by first | rfl | decide | kernel_rfl
  unfold Cf.ok cO
  simp only
  rw [h1, nil_list]
  rfl
/-- blocks of entries stay -/
def KE (W W' : World) : Prop := W.heap.size ≤ W'.heap.size ∧ ∀ (k : Nat) (cur : Array Value) (fr : Nat × Nat), W.heap[k]? = some (.cells cur 37 fr) → W'.heap[k]? = some (.cells cur 37 fr)
theorem KE.refl (W : World) : KE W W := ⟨Nat.le_refl _, fun _ _ _ h => h⟩
theorem KE.trans {W W' W'' : World} (h : KE W W') (h' : KE W' W'') : KE W W'' := ⟨Nat.le_trans h.1 h'.1, fun k cur fr e => h'.2 k cur fr (h.2 k cur fr e)⟩
theorem KE.below {W W' : World} (h : Below W.heap.size W W') : KE W W' := ⟨h.size, fun k cur fr e => (h.block k (Array.getElem?_eq_some_iff.1 e).1).trans e⟩
theorem KE.kp {W W' : World} {B qb : Nat} {c : Cf} {hi : Int} {A F : Value} {L H : List Nat} {E : Nat → It} {D : Nat → List Nat} (hs : Qs W B qb c hi A F L H E D) (h : Kp (inQ qb A F L) W W') : KE W W' :=
  ⟨h.size, fun k cur fr e => (h.block (Array.getElem?_eq_some_iff.1 e).1 (hs.far e (by decide) (by decide) (by decide))).trans e⟩
theorem Wy.ke {W W' : World} {base : Nat} {v : Value} {ls : List Ev} (h : Wy EK W base v ls) (hk : KE W W') : Wy EK W' base v ls := h.at (fun k e => by
  obtain ⟨cur, hg⟩ := h.typ e
  rw [hg]
  exact hk.2 k cur (0, 0) hg)
/-- the queue has the law's entries, all free -/
def OQ (w : World) (qb : Nat) (hi : Int) (ls : List Ev) (W : World) : Prop := Below w.heap.size w W ∧ ∃ A F L H E D, Qs W w.heap.size qb cO hi A F L H E D ∧ L.length = ls.length ∧ ∀ k x, ls[k]? = some x → Mt w x (E (hv L k)) (D (hv L k)) ∧ x.hol = 0
/-- the same, but the k-th is held by h -/
def OM (w : World) (qb : Nat) (hi : Int) (ls : List Ev) (i : Nat) (h : Int) (W : World) : Prop := Below w.heap.size w W ∧ ∃ A F L H E D, Qs W w.heap.size qb cO hi A F L H E D ∧ L.length = ls.length ∧ ∀ k x, ls[k]? = some x → x.hol = 0 ∧ (k ≠ i → Mt w x (E (hv L k)) (D (hv L k))) ∧ (k = i → Mt w { x with hol := h } (E (hv L k)) (D (hv L k)))
theorem OQ.below {w W W' : World} {qb : Nat} {hi : Int} {ls : List Ev} (h : OQ w qb hi ls W) (hb : Below W.heap.size W W') : OQ w qb hi ls W' := by
  obtain ⟨h0, A, F, L, H, E, D, h1, h2⟩ := h
  exact ⟨belOn h0 h0.size hb, A, F, L, H, E, D, h1.below hb, h2⟩
theorem OM.below {w W W' : World} {qb i : Nat} {hi h : Int} {ls : List Ev} (hm : OM w qb hi ls i h W) (hb : Below W.heap.size W W') : OM w qb hi ls i h W' := by
  obtain ⟨h0, A, F, L, H, E, D, h1, h2⟩ := hm
  exact ⟨belOn h0 h0.size hb, A, F, L, H, E, D, h1.below hb, h2⟩
theorem OQ.len {w W : World} {qb : Nat} {hi : Int} {ls : List Ev} (h : OQ w qb hi ls W) : ls.length ≤ 4096 := by
  obtain ⟨h0, A, F, L, H, E, D, h1, h2, _⟩ := h
  have := h1.len
  omega
theorem hv_app (L : List Nat) (b k : Nat) (hk : k < L.length) : hv (L ++ [b]) k = hv L k := by
  have h1 := hv_get (L ++ [b]) k (by simp; omega)
  have h2 := hv_get L k hk
  rw [List.getElem?_append_left hk, h2] at h1
  simpa using h1.symm
theorem hv_last (L : List Nat) (b : Nat) : hv (L ++ [b]) L.length = b := by
  have h1 := hv_get (L ++ [b]) L.length (by simp)
  simpa using h1.symm
theorem hv_erase (L : List Nat) (k j : Nat) (hj : j < (L.eraseIdx k).length) : hv (L.eraseIdx k) j = if j < k then hv L j else hv L (j + 1) := by
  unfold hv
  by_cases h : j < k <;> simp [List.getD_eq_getElem?_getD, List.getElem?_eraseIdx, h]
theorem hv_mem (L : List Nat) (k : Nat) (hk : k < L.length) : hv L k ∈ L := by rw [hv_eq L k hk]; exact List.getElem_mem _
theorem hv_inj (L : List Nat) (hn : L.Nodup) (j k : Nat) (hj : j < L.length) (hk : k < L.length) (h : hv L j = hv L k) : j = k := by
  rw [hv_eq L j hj, hv_eq L k hk] at h
  exact (List.getElem_inj hn).1 h
end Go.Proofs.Ytnbhifakfehefaa
