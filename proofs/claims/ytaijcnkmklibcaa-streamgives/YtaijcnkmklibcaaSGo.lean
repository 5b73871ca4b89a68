
/- Stage 6: a stream that goes over bytes, while a range's body leaves it alone. -/
import Derived.Test.YtaijcnkmklibcaaSAll
namespace Go.Proofs.Ytaijcnkmklibcaa
open Go.RowKit Go.Deep
set_option linter.unusedVariables false
set_option linter.unusedSimpArgs false

def Sg.er (s : Sg) : Int := s.2.2.2.1.2
/-- a byte, where the stream is not closed -/
def Sg.nz (s : Sg) (c : Nat) : Sg := if s.er = 0 then s.nx c else s
def Sg.go (s : Sg) (l : List Nat) : Sg := l.foldl Sg.nz s
theorem go_nil (s : Sg) : s.go [] = s := rfl
theorem go_append (s : Sg) (l m : List Nat) : s.go (l ++ m) = (s.go l).go m := by simp [Sg.go, List.foldl_append]
theorem take_succ_getD (l : List Nat) {i : Nat} (h : i < l.length) : l.take (i + 1) = l.take i ++ [l.getD i 0] := by
  rw [List.take_add_one]
  simp [List.getD, h]
theorem go_take (s : Sg) (l : List Nat) {i : Nat} (h : i < l.length) (he : (s.go (l.take i)).er = 0) : s.go (l.take (i + 1)) = (s.go (l.take i)).nx (l.getD i 0) := by
  rw [take_succ_getD l h, go_append]
  show Sg.nz _ _ = _
  unfold Sg.nz
  rw [if_pos he]
theorem go_shut (s : Sg) (l : List Nat) (h : ¬ s.er = 0) : s.go l = s := by
  unfold Sg.go
  induction l with
  | nil => rfl
  | cons c r ih =>
    rw [List.foldl_cons]
    have : s.nz c = s := by unfold Sg.nz; rw [if_neg h]
    rw [this]
    exact ih
theorem go_end (s : Sg) (l : List Nat) (i : Nat) (h : i = l.length ∨ ¬ (s.go (l.take i)).er = 0) : s.go (l.take i) = s.go l := by
  rcases h with rfl | h
  · rw [List.take_length]
  · conv => rhs; rw [← List.take_append_drop i l, go_append]
    exact (go_shut _ _ h).symm
/-- the row that is held: none, the first one, or a new one -/
def OwnR (w0 : World) (v0 v : Value) : Prop := v.ownBlock = none ∨ v.ownBlock = v0.ownBlock ∨ ∃ g, v.ownBlock = some g ∧ w0.heap.size ≤ g
def KX (S : Nat) (v0 : Value) (X : Nat → Prop) (w0 W : World) : Prop := Kp (fun k => k = S ∨ v0.ownBlock = some k ∨ X k) w0 W
/-- how it stands behind t.1 bytes of l, from s on; a body writes into blocks of X alone -/
def Rn (S B : Nat) (M : Int) (X : Nat → Prop) (w0 : World) (v0 : Value) (s : Sg) (l : List Nat) (t : Nat × Sg) (W : World) : Prop :=
  (t.1 ≤ l.length ∧ t.2 = s.go (l.take t.1) ∧ t.2.1.2.1 = s.1.2.1 + (t.1 : Int)) ∧ ∃ v, SR W S B M t.2 v ∧ OwnR w0 v0 v ∧ KX S v0 X w0 W
section
variable {S B : Nat} {M : Int} {X : Nat → Prop} {w0 : World} {v0 : Value} {s : Sg} {l : List Nat} {t t' : Nat × Sg} {A A' : World}
theorem SR.same_v {W : World} {s s' : Sg} {v v' : Value} (h : SR W S B M s v) (h' : SR W S B M s' v') : v = v' := by
  have e := h.1.symm.trans h'.1
  injection e with e
  injection e with e
  injection e with e
  simp at e
  exact e.2.2.2.1
theorem Rn.start (h : SR w0 S B M s v0) : Rn S B M X w0 v0 s l (0, s) w0 := ⟨⟨Nat.zero_le _, rfl, by simp⟩, v0, h, .inr (.inl rfl), Kp.refl _ _⟩
theorem Rn.step (h : Rn S B M X w0 v0 s l t A) (hs : StI S B M l t t' A A') : Rn S B M X w0 v0 s l t' A' := by
  obtain ⟨⟨h1, h2, h3⟩, v, h4, h5, h6⟩ := h
  obtain ⟨q1, q2, rfl, v1, v2, q3, q4, q5, q6⟩ := hs
  obtain rfl := h4.same_v q3
  have hz : w0.heap.size ≤ A.heap.size := h6.2.2.2.1
  refine ⟨⟨q1, ?_, ?_⟩, v2, q4, ?_, ?_⟩
  · show t.2.nx _ = s.go (l.take (t.1 + 1))
    rw [h2] at q2 ⊢
    rw [go_take s l q1 q2]
  · show t.2.1.2.1 + 1 = _
    rw [h3]
    show _ = s.1.2.1 + ((t.1 + 1 : Nat) : Int)
    omega
  · rcases q5.1 with e | e | ⟨g, e, hg⟩
    · exact .inl e
    · rcases h5 with e2 | e2 | ⟨g, e2, hg⟩
      · exact .inl (e.trans e2)
      · exact .inr (.inl (e.trans e2))
      · exact .inr (.inr ⟨g, e.trans e2, hg⟩)
    · exact .inr (.inr ⟨g, e, by omega⟩)
  · refine ⟨q6.1.trans h6.1, q6.2.1.trans h6.2.1, q6.2.2.1.trans h6.2.2.1, Nat.le_trans hz q6.2.2.2.1, fun k hk hq => ?_⟩
    refine (q6.2.2.2.2 k (by omega) (fun hh => ?_)).trans (h6.2.2.2.2 k hk hq)
    rcases hh with rfl | hh
    · exact hq (.inl rfl)
    · rcases h5 with e2 | e2 | ⟨g, e2, hg⟩
      · rw [e2] at hh; cases hh
      · exact hq (.inr (.inl (e2 ▸ hh)))
      · rw [e2] at hh; injection hh with hh; omega
/-- a block that is neither the stream's, nor a row of bytes, nor the body's, stays -/
theorem Rn.block (h : Rn S B M X w0 v0 s l t A) (h0 : SR w0 S B M s v0) {k : Nat} {cs : Array Value} {ty : TypeId} {f : Nat × Nat} (hk : w0.heap[k]? = some (.cells cs ty f)) (h1 : ty ≠ 66) (h2 : ty ≠ 5) (hx : ¬ X k) : A.heap[k]? = some (.cells cs ty f) := by
  obtain ⟨_, v, _, _, h6⟩ := h
  refine (h6.2.2.2.2 k (Array.getElem?_eq_some_iff.1 hk).1 (fun hh => ?_)).trans hk
  rcases hh with hh | hh | hh
  · obtain ⟨cs', t', f', e, e2⟩ := h0.own_cells (.inl hh)
    rw [hk] at e; cases e; exact e2.elim h1 h2
  · obtain ⟨cs', t', f', e, e2⟩ := h0.own_cells (.inr hh)
    rw [hk] at e; cases e; exact e2.elim h1 h2
  · exact hx hh
theorem Rn.rd (h : Rn S B M X w0 v0 s l t A) {a : Option Addr} {m : Nat} {l' : List Nat} (hr : Rd w0 a m l') (ha : 0 < m → ∀ b o, a = some ⟨b, o, none⟩ → b < w0.heap.size → ¬ (b = S ∨ v0.ownBlock = some b ∨ X b)) : Rd A a m l' := by
  obtain ⟨_, v, _, _, h6⟩ := h
  obtain ⟨h1, h2, h3⟩ := hr
  refine ⟨h1, h2, fun hn => ?_⟩
  obtain ⟨b, off, ha', hlt, hc⟩ := h3 hn
  exact ⟨b, off, ha', Nat.lt_of_lt_of_le hlt h6.2.2.2.1, fun j hj => (h6.cell hlt (ha hn b off ha' hlt)).trans (hc j hj)⟩
theorem Rn.gi (h : Rn S B M X w0 v0 s l t A) (h0 : SR w0 S B M s v0) {bC bS c : Nat} {a : Option Addr} (hC : w0.heap[bC]? = some (.cells #[.slice a l.length c] 33 (0, 0))) (hS : w0.heap[bS]? = some (.cells #[.pointer (some ⟨S, 0, none⟩)] 25 (0, 0))) (hxC : ¬ X bC) (hxS : ¬ X bS)
    (hr : Rd w0 a l.length l) (ha : 0 < l.length → ∀ b o, a = some ⟨b, o, none⟩ → b < w0.heap.size → ¬ (b = S ∨ v0.ownBlock = some b ∨ X b)) (ht0 : 0 ≤ s.1.2.1) (ht1 : s.1.2.1 + (l.length : Int) ≤ 281474976710656) : GI S B M bC bS a c l t A := by
  refine ⟨⟨h.1.1, by have := h.1.2.2; omega, by have := h.1.2.2; have := h.1.1; omega⟩, ⟨h.block h0 hC (by decide) (by decide) hxC, h.block h0 hS (by decide) (by decide) hxS⟩, h.rd hr ha, ?_⟩
  obtain ⟨_, v, h4, _⟩ := h
  exact ⟨v, h4⟩
theorem Rn.keep (h : Rn S B M X w0 v0 s l t A) (hz : A.heap.size ≤ A'.heap.size) (hos : A'.os = A.os ∧ A'.tape = A.tape ∧ A'.output = A.output) (hb : ∀ k, k < w0.heap.size → ¬ X k → A'.heap[k]? = A.heap[k]?) (hc : ∀ (k : Nat) (cs : Array Value) (f : Nat × Nat) (ty : TypeId), A.heap[k]? = some (Obj.cells cs ty f) → ty = 66 ∨ ty = 5 → A'.heap[k]? = A.heap[k]?) : Rn S B M X w0 v0 s l t A' := by
  obtain ⟨h1, v, h4, h5, h6⟩ := h
  refine ⟨h1, v, h4.keep hz (fun k cs ty f hk hh => ?_), h5, hos.1.trans h6.1, hos.2.1.trans h6.2.1, hos.2.2.trans h6.2.2.1, Nat.le_trans h6.2.2.2.1 hz, fun k hk hq => (hb k hk (fun hx => hq (.inr (.inr hx)))).trans (h6.2.2.2.2 k hk hq)⟩
  obtain ⟨cs', ty', f', e, e2⟩ := h4.own_cells hh
  exact hc k cs' f' ty' e e2
theorem Rn.grown (h : Rn S B M X w0 v0 s l t A) {row : Option Nat} (hg : A.grownBy A' row) (hr : ∀ r, row = some r → w0.heap.size ≤ r ∧ ∃ o : Obj, A.heap[r]? = some o ∧ o.isCells = false) : Rn S B M X w0 v0 s l t A' := by
  have hz : w0.heap.size ≤ A.heap.size := by
    obtain ⟨_, v, _, _, h6⟩ := h
    exact h6.2.2.2.1
  refine h.keep hg.size ⟨hg.os, hg.tape, hg.output⟩ (fun k hk _ => hg.block k (by omega) (fun e => by have := (hr k e.symm).1; omega)) (fun k cs f ty hk _ => hg.block k (Array.getElem?_eq_some_iff.1 hk).1 (fun e => ?_))
  obtain ⟨_, o, e1, e2⟩ := hr k e.symm
  rw [hk] at e1; cases e1; cases e2
theorem Rn.put (h : Rn S B M X w0 v0 s l t A) {k : Nat} {o : Obj} (hb : w0.heap.size ≤ k) (hk : A.heap[k]? = some o) (ho : o.isCells = false) (o' : Obj) : Rn S B M X w0 v0 s l t (A.putObj k o') :=
  h.grown (grownBy_putObj' A k o') (fun r e => by cases e; exact ⟨hb, o, hk, ho⟩)
theorem Rn.alloc (h : Rn S B M X w0 v0 s l t A) (o : Obj) : Rn S B M X w0 v0 s l t (A.alloc o) := h.grown (World.grownBy_alloc A o none) (fun r e => by cases e)
/-- a body's own write -/
theorem Rn.set (h : Rn S B M X w0 v0 s l t A) {b : Nat} (hb : X b ∨ w0.heap.size ≤ b) {cs : Array Value} {ty : TypeId} {f : Nat × Nat} (hk : A.heap[b]? = some (.cells cs ty f)) (h1 : ty ≠ 66) (h2 : ty ≠ 5) (o : Nat) (u : Value) : Rn S B M X w0 v0 s l t (A.setCell ⟨b, o, none⟩ u) := by
  refine h.keep (by simp) ⟨rfl, rfl, rfl⟩ (fun k hk' hx => ?_) (fun k cs' f' ty' hk' hh => ?_)
  · refine blk_setCell_other _ _ _ _ (fun e => ?_)
    subst e
    exact hb.elim hx (fun h => by omega)
  · refine blk_setCell_other _ _ _ _ (fun e => ?_)
    subst e
    rw [hk] at hk'; cases hk'; exact hh.elim h1 h2
end
end Go.Proofs.Ytaijcnkmklibcaa
