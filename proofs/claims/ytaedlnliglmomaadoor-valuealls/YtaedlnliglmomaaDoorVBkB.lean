/- The book, kept by the body of a range. -/
import Derived.Test.YtaedlnliglmomaaDoorVAllB
import Derived.Test.YtaedlnliglmomaaDoorVGots
namespace Go.Proofs.YtaedlnliglmomaaDoor.B
open Go.RowKit
set_option linter.unusedVariables false
set_option linter.unusedSimpArgs false

/-- nothing of the outside has turned -/
def Out (A B : World) : Prop := B.os = A.os ∧ B.tape = A.tape ∧ B.output = A.output
theorem Out.refl (A : World) : Out A A := ⟨rfl, rfl, rfl⟩
theorem Out.trans {A B C : World} (h : Out A B) (k : Out B C) : Out A C := ⟨k.1.trans h.1, k.2.1.trans h.2.1, k.2.2.trans h.2.2⟩
theorem Out.below {A B C : World} {n : Nat} (h : Out A B) (k : Below n B C) : Out A C := h.trans ⟨k.os, k.tape, k.output⟩
theorem Out.grown {A B C : World} {r : Option Nat} (h : Out A B) (k : B.grownBy C r) : Out A C := h.trans ⟨k.os, k.tape, k.output⟩
/-- the book at p holds S; its row lies where it lay, or in a block from M on -/
def BkR (p : Nat) (A0 : Option Nat) (M : Nat) (S : List Value) (W : World) : Prop := ∃ A C, W.heap[p]? = some (.cells #[.slice A S.length C] 37 (0, 0)) ∧
  W.ownsRow (p + 1) 23 1 (.slice A S.length C) S.length S ∧ ((Value.slice A S.length C).ownBlock = A0 ∨ ∃ g, (Value.slice A S.length C).ownBlock = some g ∧ M ≤ g)
/-- all that the book has, and the book's own row, lie below lo -/
def Frs (p lo : Nat) (S : List Value) (W : World) : Prop := p < lo ∧ (∀ g ∈ blocksOf S, g < lo) ∧ ∃ A n C, W.heap[p]? = some (.cells #[.slice A n C] 37 (0, 0)) ∧ ∀ g, (Value.slice A n C).ownBlock = some g → g < lo
theorem BkR.lt {p M : Nat} {A0 : Option Nat} {S : List Value} {W : World} (h : BkR p A0 M S W) : p < W.heap.size := by
  obtain ⟨A, C, h1, _⟩ := h
  exact (Array.getElem?_eq_some_iff.1 h1).1
theorem owns_lt {S : List Value} {W : World} (h : OwnsX W S) : ∀ g ∈ blocksOf S, g < W.heap.size := fun g hg => by
  obtain ⟨s, hs, e⟩ := List.mem_filterMap.1 hg
  rcases h.1 s hs with rfl | ⟨g', n, rfl, hb⟩
  · cases e
  · cases e
    exact hb.lt
theorem owns_type {S : List Value} {W : World} (h : OwnsX W S) : ∀ g ∈ blocksOf S, ∃ cs, W.heap[g]? = some (.cells cs 25 (0, 0)) := fun g hg => by
  obtain ⟨s, hs, e⟩ := List.mem_filterMap.1 hg
  rcases h.1 s hs with rfl | ⟨g', n, rfl, cs, hb, _⟩
  · cases e
  · cases e
    exact ⟨cs, hb⟩
theorem BkR.fresh {p M : Nat} {A0 : Option Nat} {S : List Value} {W : World} (h : BkR p A0 M S W) (ho : OwnsX W S) : Frs p W.heap.size S W := by
  have hl := h.lt
  obtain ⟨A, C, h1, h2, _⟩ := h
  exact ⟨hl, owns_lt ho, A, S.length, C, h1, fun g hg => (ownsRow_lt h2 hg).2⟩
/-- a world that grows, and in which only a record that is no cells may turn -/
theorem grown_cells {A B : World} {row : Option Nat} (hg : A.grownBy B row) (hr : ∀ r, row = some r → ∃ o : Obj, A.heap[r]? = some o ∧ o.isCells = false) {g : Nat} {cs : Array Value} {t : TypeId} {f : Nat × Nat} (h : A.heap[g]? = some (.cells cs t f)) : B.heap[g]? = some (.cells cs t f) := by
  refine (hg.block g (Array.getElem?_eq_some_iff.1 h).1 (fun e => ?_)).trans h
  obtain ⟨o, ho, hc⟩ := hr g e.symm
  rw [h] at ho
  cases ho
  cases hc
theorem BkR.grown {p M : Nat} {A0 : Option Nat} {S : List Value} {W B : World} {row : Option Nat} (h : BkR p A0 M S W) (hg : W.grownBy B row) (hr : ∀ r, row = some r → ∃ o : Obj, W.heap[r]? = some o ∧ o.isCells = false) : BkR p A0 M S B := by
  obtain ⟨A, C, h1, h2, h3⟩ := h
  refine ⟨A, C, grown_cells hg hr h1, ⟨h2.1, ?_⟩, h3⟩
  rcases h2.2 with h | ⟨g, cap, cur, e, hB, hgg, hrest⟩
  · exact .inl h
  · exact .inr ⟨g, cap, cur, e, hB, grown_cells hg hr hgg, hrest⟩
theorem owns_grown {S : List Value} {W B : World} {row : Option Nat} (h : OwnsX W S) (hg : W.grownBy B row) (hr : ∀ r, row = some r → ∃ o : Obj, W.heap[r]? = some o ∧ o.isCells = false) : OwnsX B S :=
  h.keep (fun g hgm => by
    obtain ⟨cs, hc⟩ := owns_type h g hgm
    rw [grown_cells hg hr hc, hc])
theorem Frs.grown {p lo : Nat} {S : List Value} {W B : World} {row : Option Nat} (h : Frs p lo S W) (hg : W.grownBy B row) (hr : ∀ r, row = some r → ∃ o : Obj, W.heap[r]? = some o ∧ o.isCells = false) : Frs p lo S B := by
  obtain ⟨h1, h2, A, n, C, h3, h4⟩ := h
  exact ⟨h1, h2, A, n, C, grown_cells hg hr h3, h4⟩
theorem ownsI_grown {lo : Nat} {S : List Value} {W B : World} {row : Option Nat} (h : Owns W lo W.heap.size S) (hg : W.grownBy B row) (hr : ∀ r, row = some r → ∃ o : Obj, W.heap[r]? = some o ∧ o.isCells = false) : Owns B lo B.heap.size S := by
  refine ⟨fun s hs => ?_, h.2⟩
  rcases h.1 s hs with e | ⟨g, n, e, q1, q2, cs, q3, q4⟩
  · exact .inl e
  · exact .inr ⟨g, n, e, q1, Nat.lt_of_lt_of_le q2 hg.size, cs, grown_cells hg hr q3, q4⟩
theorem BkR.below {p M : Nat} {A0 : Option Nat} {S : List Value} {W B : World} (h : BkR p A0 M S W) (hb : Below W.heap.size W B) : BkR p A0 M S B :=
  h.grown (row := none) ⟨hb.os, hb.tape, hb.output, hb.size, fun k hk _ => hb.block k hk⟩ (fun r e => by cases e)
theorem owns_below {S : List Value} {W B : World} (h : OwnsX W S) (hb : Below W.heap.size W B) : OwnsX B S :=
  owns_grown (row := none) h ⟨hb.os, hb.tape, hb.output, hb.size, fun k hk _ => hb.block k hk⟩ (fun r e => by cases e)
theorem Frs.below {p lo : Nat} {S : List Value} {W B : World} (h : Frs p lo S W) (hb : Below W.heap.size W B) : Frs p lo S B :=
  h.grown (row := none) ⟨hb.os, hb.tape, hb.output, hb.size, fun k hk _ => hb.block k hk⟩ (fun r e => by cases e)
/-- a store into a block of another type -/
theorem BkR.set {p M : Nat} {A0 : Option Nat} {S : List Value} {W : World} (h : BkR p A0 M S W) {b : Nat} {cs : Array Value} {t : TypeId} {f : Nat × Nat} (hb : W.heap[b]? = some (.cells cs t f)) (ht : t ≠ 37) (ht' : t ≠ 23) (o : Nat) (u : Value) : BkR p A0 M S (W.setCell ⟨b, o, none⟩ u) := by
  obtain ⟨A, C, h1, h2, h3⟩ := h
  have n1 : p ≠ b := fun e => by
    rw [← e, h1] at hb
    cases hb
    exact ht rfl
  refine ⟨A, C, by rw [Below.heap_setCell _ _ _ _ n1]; exact h1, ⟨h2.1, ?_⟩, h3⟩
  rcases h2.2 with h | ⟨g, cap, cur, e, hB, hgg, hrest⟩
  · exact .inl h
  · have n2 : g ≠ b := fun e => by
      rw [← e, hgg] at hb
      cases hb
      exact ht' rfl
    exact .inr ⟨g, cap, cur, e, hB, by rw [Below.heap_setCell _ _ _ _ n2]; exact hgg, hrest⟩
theorem owns_set {S : List Value} {W : World} (h : OwnsX W S) {b : Nat} {cs : Array Value} {t : TypeId} {f : Nat × Nat} (hb : W.heap[b]? = some (.cells cs t f)) (ht : t ≠ 25) (o : Nat) (u : Value) : OwnsX (W.setCell ⟨b, o, none⟩ u) S :=
  h.keep (fun g hgm => by
    obtain ⟨cs', hc⟩ := owns_type h g hgm
    rw [Below.heap_setCell _ _ _ _ (fun e => by
      rw [e, hb] at hc
      cases hc
      exact ht rfl)])
theorem BkR.here {p M : Nat} {A0 : Option Nat} {S : List Value} {W : World} (h : BkR p A0 M S W) : ∃ A1, (∀ M', BkR p A1 M' S W) ∧ (A1 = A0 ∨ ∃ g, A1 = some g ∧ M ≤ g) ∧ ∀ g, A1 = some g → p < g ∧ g < W.heap.size := by
  obtain ⟨A, C, h1, h2, h3⟩ := h
  exact ⟨_, fun M' => ⟨A, C, h1, h2, .inl rfl⟩, h3, fun g hg => ownsRow_lt h2 hg⟩
theorem BkR.rebase {p : Nat} {A0 : Option Nat} {S : List Value} {W : World} (h : BkR p A0 W.heap.size S W) (M' : Nat) : BkR p A0 M' S W := by
  obtain ⟨A, C, h1, h2, h3⟩ := h
  refine ⟨A, C, h1, h2, .inl ?_⟩
  rcases h3 with h | ⟨g, h, hg⟩
  · exact h
  · have := (ownsRow_lt h2 h).2
    omega
theorem BkR.weaken {p M M' : Nat} {A0 : Option Nat} {S : List Value} {W : World} (h : BkR p A0 M S W) (hM : M' ≤ M) : BkR p A0 M' S W := by
  obtain ⟨A, C, h1, h2, h3⟩ := h
  exact ⟨A, C, h1, h2, h3.imp id (fun ⟨g, h, hg⟩ => ⟨g, h, by omega⟩)⟩
theorem KpX.weaken {M M' : Nat} {X : Nat → Prop} {A B : World} (h : KpX M X A B) (hM : M' ≤ M) : KpX M' X A B := ⟨h.1, fun b o hx hn hb => h.2 b o hx (hn.imp (fun q => by omega) id) hb⟩
theorem kp_grown {M N : Nat} {X : Nat → Prop} {W₀ A B : World} {row : Option Nat} (h : KpX M X W₀ A) (hg : A.grownBy B row) (hr : ∀ r, row = some r → N ≤ r ∧ ∃ o : Obj, A.heap[r]? = some o ∧ o.isCells = false) (hN : W₀.heap.size ≤ N) : KpX M X W₀ B :=
  ⟨Nat.le_trans h.1 hg.size, fun b o hx hn hb => by
    have hA := h.2 b o hx hn hb
    exact (hg.block b (Array.getElem?_eq_some_iff.1 hA).1 (fun e => by have := (hr b e.symm).1; have := (Array.getElem?_eq_some_iff.1 hb).1; omega)).trans hA⟩
/-- Take, of a value that came out behind all that the book has -/
theorem take_st {p M lo : Nat} {A0 : Option Nat} {S : List Value} {W : World} (hM : M ≤ W.heap.size) (h : BkR p A0 M S W) (ho : OwnsX W S) (hf : Frs p lo S W) (x : V) (hx : LiesIn (fun b => lo ≤ b ∧ b < W.heap.size) W x) (hxo : Owns W lo W.heap.size x.slots) (hS : S.length + T.wt x.t ≤ 1099511627776) :
    Calls Tryd.prog 20 #[.pointer (some ⟨p, 0, none⟩), x.val] W fun e W' => e = .returned (.tuple #[]) ∧ Hid (BkR p A0 M (S ++ x.slots) W' ∧ OwnsX W' (S ++ x.slots) ∧ (∀ X : Nat → Prop, X p → (∀ g, A0 = some g → X g) → KpX M X W W') ∧ Out W W') := by
  obtain ⟨A, C, h1, h2, h3⟩ := h
  obtain ⟨f1, f2, A', n', C', f3, f4⟩ := hf
  rw [h1] at f3
  cases f3
  have hbk : Bk p (Value.slice A S.length C).ownBlock S W W := ⟨A, C, h1, h2, .inl rfl, rfl, rfl, rfl, Nat.le_refl _, fun _ _ _ _ => rfl⟩
  refine (take_any x p _ S _ W hbk hx (fun b hb => ⟨hb.2, by have := hb.1; omega, fun e => by have := f4 b e.symm; have := hb.1; omega⟩) hS).mono ?_
  rintro e W' ⟨rfl, HB⟩
  refine ⟨rfl, ?_⟩
  obtain ⟨B, D, k1, k2, k3, k4, k5, k6, k7, k8⟩ := HB.out
  have hrow : ∀ g, (Value.slice A S.length C).ownBlock = some g → ∃ cur : Array Value, W.heap[g]? = some (.cells cur 23 (0, 0)) := fun g hg => by
    rcases h2.2 with ⟨h, _⟩ | ⟨g', cap, cur, e, hB, hgg, _⟩
    · rw [h] at hg; cases hg
    · rw [e] at hg; cases hg; exact ⟨cur, hgg⟩
  have hkeep : ∀ (g : Nat) (cs : Array Value), W.heap[g]? = some (.cells cs 25 (0, 0)) → W'.heap[g]? = W.heap[g]? := fun g cs hg => by
    refine k8 g (Array.getElem?_eq_some_iff.1 hg).1 (fun e => ?_) (fun e => ?_)
    · rw [e, h1] at hg
      cases hg
    · obtain ⟨cur, hc⟩ := hrow g e.symm
      rw [hg] at hc
      cases hc
  refine ⟨⟨B, D, k1, k2, ?_⟩, ?_, fun X hp hA => ⟨k7, fun b o hx' hn hb => ?_⟩, k4, k5, k6⟩
  · rcases k3 with e | ⟨g, e, hg⟩
    · rw [e]; exact h3
    · exact .inr ⟨g, e, by omega⟩
  · refine (ho.keep (fun g hg => ?_)).append (hxo.toX.keep (fun g hg => ?_)) (fun g q1 q2 => ?_)
    · obtain ⟨cs, hc⟩ := owns_type ho g hg
      exact hkeep g cs hc
    · obtain ⟨cs, hc⟩ := owns_type hxo.toX g hg
      exact hkeep g cs hc
    · have := f2 g q1
      have := (hxo.mem q2).1
      omega
  · refine (k8 b (Array.getElem?_eq_some_iff.1 hb).1 (fun e => hx' (e ▸ hp)) (fun e => ?_)).trans hb
    obtain ⟨cur, hc⟩ := hrow b e.symm
    rcases hn with hn | hn
    · rcases h3 with h | ⟨g, h, hg⟩
      · exact hx' (hA b (h.symm.trans e.symm))
      · rw [h] at e
        cases e
        omega
    · rw [hb] at hc
      cases hc
      exact hn _ _ rfl
/-- Owned of all that the book has -/
theorem owned_st {p M : Nat} {A0 : Option Nat} {S : List Value} {W : World} (h : BkR p A0 M S W) (ho : OwnsX W S) (h0 : 0 < S.length) (hS : S.length ≤ 100000000000) (hn : ∀ s ∈ S, ∀ a m c, s = .slice a m c → m ≤ 1000000000000) :
    Calls Tryd.prog 21 #[.pointer (some ⟨p, 0, none⟩)] W fun e w' => e = .returned (.bool true) ∧ Hid (TurnS S W w') := by
  obtain ⟨A, C, h1, h2, h3⟩ := h
  have hbk : Bk p (Value.slice A S.length C).ownBlock S W W := ⟨A, C, h1, h2, .inl rfl, rfl, rfl, rfl, Nat.le_refl _, fun _ _ _ _ => rfl⟩
  obtain ⟨g, C, hb, hc⟩ := hbk.at h0
  exact owned_any p g C S W hb ho hS hc hn
end Go.Proofs.YtaedlnliglmomaaDoor.B
