
/- Stage 6: a row of items that grows while a stream goes on. -/
import Derived.Test.YtaijcnkmklibcaaSCutM
import Derived.Maps.OwnIn
namespace Go.Proofs.Ytaijcnkmklibcaa
open Go.RowKit Go.Deep
set_option linter.unusedVariables false
set_option linter.unusedSimpArgs false

/-- a variable's row of items -/
def OutI (N Bo : Nat) (vo : Value) (ys : List Ev) (W : World) : Prop :=
  W.heap[Bo]? = some (.cells #[vo] 29 (0, 0)) ∧ W.ownsRow N 51 6 vo ys.length (ys.flatMap Ev.cs) ∧ ∀ y ∈ ys, y.ok W N
/-- what is held is none of the items' lists -/
def ApI (S B : Nat) (M : Int) (s : Sg) (ys : List Ev) (W : World) : Prop := ∀ v, SR W S B M s v → ∀ y ∈ ys, ∀ g, y.has g → v.ownBlock ≠ some g
section
variable {S B : Nat} {M : Int} {l : List Nat} {t t' : Nat × Sg} {A A' : World} {N Bo : Nat} {vo : Value} {ys : List Ev} {s : Sg}
theorem own_type {n : Nat} {xs : List Value} (h : A.ownsRow N 51 6 vo n xs) {k : Nat} (hk : vo.ownBlock = some k) : ∃ cs, A.heap[k]? = some (Obj.cells cs 51 (0, 0)) ∧ N ≤ k := by
  obtain ⟨_, (⟨rfl, _⟩ | ⟨g, cap, cur, rfl, q1, q2, q3⟩)⟩ := h
  · cases hk
  · simp [Value.ownBlock] at hk
    subst hk
    exact ⟨_, q2, q1⟩
theorem row_keep {n : Nat} {xs : List Value} (h : A.ownsRow N 51 6 vo n xs) (hk : ∀ (k : Nat) (cs : Array Value), A.heap[k]? = some (Obj.cells cs 51 (0, 0)) → A'.heap[k]? = A.heap[k]?) : A'.ownsRow N 51 6 vo n xs := by
  obtain ⟨e1, e2⟩ := h
  refine ⟨e1, e2.imp id ?_⟩
  rintro ⟨g, cap, cur, rfl, q1, q2, q3⟩
  exact ⟨g, cap, cur, rfl, q1, (hk g _ q2).trans q2, q3⟩
theorem OutI.keep (h : OutI N Bo vo ys A) (hk : ∀ (k : Nat) (cs : Array Value) (ty : TypeId) (f : Nat × Nat), A.heap[k]? = some (Obj.cells cs ty f) → A'.heap[k]? = A.heap[k]?) : OutI N Bo vo ys A' := by
  obtain ⟨h1, h2, h3⟩ := h
  exact ⟨(hk _ _ _ _ h1).trans h1, row_keep h2 (fun k cs e => hk _ _ _ _ e), fun y hy => (h3 y hy).keep (fun g l _ hb => hk g _ _ _ hb)⟩
theorem OutI.grown (h : OutI N Bo vo ys A) {row : Option Nat} (hg : A.grownBy A' row) (hr : ∀ r, row = some r → ∃ o : Obj, A.heap[r]? = some o ∧ o.isCells = false) : OutI N Bo vo ys A' := by
  refine h.keep (fun k cs ty f hk => hg.block k (Array.getElem?_eq_some_iff.1 hk).1 (fun e => ?_))
  obtain ⟨o, h1, h2⟩ := hr k e.symm
  rw [hk] at h1
  cases h1
  cases h2
theorem OutI.alloc (h : OutI N Bo vo ys A) (o : Obj) : OutI N Bo vo ys (A.alloc o) := h.grown (World.grownBy_alloc A o none) (fun r e => by cases e)
theorem OutI.put (h : OutI N Bo vo ys A) {k : Nat} {o : Obj} (hk : A.heap[k]? = some o) (ho : o.isCells = false) (o' : Obj) : OutI N Bo vo ys (A.putObj k o') :=
  h.grown (grownBy_putObj' A k o') (fun r e => by cases e; exact ⟨o, hk, ho⟩)
theorem OutI.below (h : OutI N Bo vo ys A) (hb : Below A.heap.size A A') : OutI N Bo vo ys A' := h.keep (fun k cs ty f hk => hb.block k (Array.getElem?_eq_some_iff.1 hk).1)
theorem ApI.of {v : Value} (h : ApI S B M s ys A) (h1 : SR A S B M s v) (h2 : SR A' S B M s v) : ApI S B M s ys A' := fun v' hv' y hy g hg => by
  have := h2.same_v hv'
  subst this
  exact h v h1 y hy g hg
theorem ApI.grown (h : ApI S B M s ys A) (hR : ∃ v, SR A S B M s v) {row : Option Nat} (hg : A.grownBy A' row) (hr : ∀ r, row = some r → ∃ o : Obj, A.heap[r]? = some o ∧ o.isCells = false) : ApI S B M s ys A' := by
  obtain ⟨v, hv⟩ := hR
  exact h.of hv (hv.grown hg hr)
/-- a call on the stream leaves the row and the items' lists -/
theorem OutI.kp {v : Value} {Q : Nat → Prop} (h : OutI N Bo vo ys A) (hR : SR A S B M s v) (ha : ∀ y ∈ ys, ∀ g, y.has g → v.ownBlock ≠ some g) (hk : Kp Q A A') (hQ : ∀ k, Q k → k = S ∨ v.ownBlock = some k) : OutI N Bo vo ys A' := by
  obtain ⟨h1, h2, h3⟩ := h
  have keep : ∀ (k : Nat) (cs : Array Value) (ty : TypeId) (f : Nat × Nat), A.heap[k]? = some (Obj.cells cs ty f) → ty ≠ 66 → ty ≠ 5 → A'.heap[k]? = A.heap[k]? := fun k cs ty f e e1 e2 => by
    refine hk.2.2.2.2 k (Array.getElem?_eq_some_iff.1 e).1 (fun hq => ?_)
    obtain ⟨cs', t', f', e', e3⟩ := hR.own_cells (hQ k hq)
    rw [e] at e'
    cases e'
    exact e3.elim e1 e2
  refine ⟨(keep _ _ _ _ h1 (by decide) (by decide)).trans h1, row_keep h2 (fun k cs e => keep _ _ _ _ e (by decide) (by decide)), fun y hy => (h3 y hy).keep (fun g l hg hb => ?_)⟩
  refine hk.2.2.2.2 g hb.lt (fun hq => ?_)
  rcases hQ g hq with e | e
  · exact bl_ne hR hb e
  · exact ha y hy g hg e
theorem OutI.step (h : OutI N Bo vo ys A) (ha : ApI S B M t.2 ys A) (hs : StI S B M l t t' A A') : OutI N Bo vo ys A' ∧ ApI S B M t'.2 ys A' := by
  obtain ⟨q1, q2, q3, v, v', r1, r2, r3, r4⟩ := hs
  refine ⟨h.kp r1 (ha v r1) r4 (fun k hk => hk), fun v2 hv2 y hy g hg => ?_⟩
  have e := r2.same_v hv2
  subst e
  obtain ⟨_, l', hb⟩ := (h.2.2 y hy).bl hg
  have hlt := hb.lt
  rcases r3.1 with e | e | ⟨g', e, hg'⟩
  · rw [e]; simp
  · rw [e]; exact ha v r1 y hy g hg
  · rw [e]
    intro e2
    injection e2 with e2
    omega
theorem ApI.new (hs : StI S B M l t t' A A') (hk : ¬ t.2.K (l.getD t.1 0) = 0) (ys : List Ev) : ApI S B M t'.2 ys A' := fun v2 hv2 y hy g hg => by
  obtain ⟨q1, q2, q3, v, v', r1, r2, r3, r4⟩ := hs
  have e := r2.same_v hv2
  subst e
  rw [r3.2 hk]
  simp
/-- an item behind the others -/
theorem OutI.push (h : OutI N Bo vo ys A) {y : Ev} (hy : y.ok A N) {vo' : Value} (hr : A'.ownsRow N 51 6 vo' (ys.length + 1) (ys.flatMap Ev.cs ++ y.cs)) (hg : A.grownBy A' vo.ownBlock) : OutI N Bo vo' (ys ++ [y]) (A'.setCell ⟨Bo, 0, none⟩ vo') := by
  obtain ⟨h1, h2, h3⟩ := h
  have keep : ∀ (k : Nat) (cs : Array Value) (ty : TypeId) (f : Nat × Nat), A.heap[k]? = some (Obj.cells cs ty f) → ty ≠ 51 → A'.heap[k]? = some (Obj.cells cs ty f) := fun k cs ty f e e1 => by
    refine (hg.block k (Array.getElem?_eq_some_iff.1 e).1 (fun hq => ?_)).trans e
    obtain ⟨cs', e', _⟩ := own_type h2 hq.symm
    rw [e] at e'
    cases e'
    exact e1 rfl
  have hB := keep _ _ _ _ h1 (by decide)
  have nB : ∀ (k : Nat) (cs : Array Value) (ty : TypeId) (f : Nat × Nat), A'.heap[k]? = some (Obj.cells cs ty f) → ty ≠ 29 → (A'.setCell ⟨Bo, 0, none⟩ vo').heap[k]? = A'.heap[k]? := fun k cs ty f e e1 => by
    refine blk_setCell_other _ _ _ _ (fun hq => ?_)
    have hq : k = Bo := hq
    subst hq
    rw [hB] at e
    cases e
    exact e1 rfl
  refine ⟨cells_set hB 0 vo', ?_, fun z hz => ?_⟩
  · rw [List.length_append, List.flatMap_append]
    have : A'.ownsRow N 51 6 vo' (ys.length + [y].length) (ys.flatMap Ev.cs ++ [y].flatMap Ev.cs) := by simpa using hr
    exact row_keep this (fun k cs e => nB k _ _ _ e (by decide))
  · have hz' : z.ok A N := by
      rcases List.mem_append.1 hz with h | h
      · exact h3 z h
      · simp at h
        subst h
        exact hy
    refine hz'.keep (fun g l' _ hb => ?_)
    have e := keep g _ _ _ hb (by decide)
    rw [nB g _ _ _ e (by decide), e]
    exact hb.symm
end
end Go.Proofs.Ytaijcnkmklibcaa
