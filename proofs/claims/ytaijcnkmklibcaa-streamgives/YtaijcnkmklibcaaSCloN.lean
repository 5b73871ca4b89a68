
/- Stage 6: what calls on a stream leave as it was. -/
import Derived.Test.YtaijcnkmklibcaaSCloM
import Derived.Test.YtaijcnkmklibcaaSAwake
namespace Go.Proofs.Ytaijcnkmklibcaa
open Go.RowKit Go.Deep
set_option linter.unusedVariables false
set_option linter.unusedSimpArgs false

theorem below_put {B D : Nat} {w W : World} (h : Below B w W) (hD : B ≤ D) (o : Obj) : Below B w (W.putObj D o) :=
  ⟨h.os, h.tape, h.output, by simpa using h.size, fun k hk => (World.putObj_heap_other (by omega)).trans (h.block k hk)⟩
/-- cells that are no stream's and no bytes, what is no cells, and all below N, stay -/
def Kc (N : Nat) (W W' : World) : Prop := W.heap.size ≤ W'.heap.size ∧ (∀ (k : Nat) (cs : Array Value) (t : TypeId) (f : Nat × Nat), W.heap[k]? = some (Obj.cells cs t f) → t ≠ 66 → t ≠ 5 → W'.heap[k]? = some (Obj.cells cs t f)) ∧ (∀ (k : Nat) (o : Obj), o.isCells = false → W.heap[k]? = some o → W'.heap[k]? = some o) ∧ (∀ k, k < N → W'.heap[k]? = W.heap[k]?) ∧ W'.os = W.os ∧ W'.tape = W.tape ∧ W'.output = W.output
theorem Kc.refl (N : Nat) (W : World) : Kc N W W := ⟨Nat.le_refl _, fun _ _ _ _ h _ _ => h, fun _ _ _ h => h, fun _ _ => rfl, rfl, rfl, rfl⟩
theorem Kc.trans {N : Nat} {A B C : World} (h : Kc N A B) (k : Kc N B C) : Kc N A C :=
  ⟨Nat.le_trans h.1 k.1, fun i cs t f e h1 h2 => k.2.1 i cs t f (h.2.1 i cs t f e h1 h2) h1 h2, fun i o ho e => k.2.2.1 i o ho (h.2.2.1 i o ho e), fun i hi => (k.2.2.2.1 i hi).trans (h.2.2.2.1 i hi), k.2.2.2.2.1.trans h.2.2.2.2.1, k.2.2.2.2.2.1.trans h.2.2.2.2.2.1, k.2.2.2.2.2.2.trans h.2.2.2.2.2.2⟩
theorem Kc.below {N : Nat} {W W' : World} (h : Below W.heap.size W W') (hN : N ≤ W.heap.size) : Kc N W W' :=
  ⟨h.size, fun i cs t f e _ _ => (h.block i (Array.getElem?_eq_some_iff.1 e).1).trans e, fun i o _ e => (h.block i (Array.getElem?_eq_some_iff.1 e).1).trans e, fun i hi => h.block i (by omega), h.os, h.tape, h.output⟩
theorem Kc.kp {N S B : Nat} {M : Int} {s : Sg} {v : Value} {W W' : World} (hR : SR W S B M s v) (hS : N ≤ S) (hB : N ≤ B) {Q : Nat → Prop} (h : Kp Q W W') (hQ : ∀ k, Q k → k = S ∨ v.ownBlock = some k) : Kc N W W' := by
  have ho : ∀ k, (k = S ∨ v.ownBlock = some k) → N ≤ k := fun k hk => by
    rcases hk with rfl | hk
    · exact hS
    · obtain ⟨_, (⟨rfl, _⟩ | ⟨g, cap, cur, rfl, q1, _⟩)⟩ := hR.2.1
      · simp [Value.ownBlock] at hk
      · simp [Value.ownBlock] at hk
        omega
  have hz := hR.2.2.1
  refine ⟨h.2.2.2.1, fun i cs t f e h1 h2 => (h.2.2.2.2 i (Array.getElem?_eq_some_iff.1 e).1 (fun hq => ?_)).trans e, fun i o hc e => (h.2.2.2.2 i (Array.getElem?_eq_some_iff.1 e).1 (fun hq => ?_)).trans e, fun i hi => h.2.2.2.2 i (by omega) (fun hq => by have := ho i (hQ i hq); omega), h.1, h.2.1, h.2.2.1⟩
  · obtain ⟨cs', t', f', e', e2⟩ := hR.own_cells (hQ i hq)
    rw [e] at e'
    cases e'
    exact e2.elim h1 h2
  · obtain ⟨cs', t', f', e', e2⟩ := hR.own_cells (hQ i hq)
    rw [e] at e'
    cases e'
    cases hc
theorem Kc.kx {N S B : Nat} {M : Int} {s : Sg} {v : Value} {W W' : World} (hR : SR W S B M s v) (hS : N ≤ S) (hB : N ≤ B) (h : KX S v (fun _ => False) W W') : Kc N W W' :=
  Kc.kp hR hS hB h (fun k hk => hk.imp id (fun h => h.elim id (fun h => h.elim)))
theorem Kc.to_below {N : Nat} {w W W' : World} (h : Kc N W W') (hb : Below N w W) : Below N w W' :=
  ⟨h.2.2.2.2.1.trans hb.os, h.2.2.2.2.2.1.trans hb.tape, h.2.2.2.2.2.2.trans hb.output, Nat.le_trans hb.size h.1, fun k hk => (h.2.2.2.1 k hk).trans (hb.block k hk)⟩
theorem Kc.rd {N : Nat} {W W' : World} (h : Kc N W W') {a : Option Addr} {m : Nat} {l : List Nat} (hr : Rd W a m l) (ha : ∀ b o, 0 < m → a = some ⟨b, o, none⟩ → b < N) : Rd W' a m l := by
  obtain ⟨h1, h2, h3⟩ := hr
  refine ⟨h1, h2, fun hn => ?_⟩
  obtain ⟨b, off, ha', hlt, hc⟩ := h3 hn
  exact ⟨b, off, ha', Nat.lt_of_lt_of_le hlt h.1, fun j hj => (World.cell?_of_block (a := ⟨b, off + j, none⟩) (h.2.2.2.1 b (ha b off hn ha'))).trans (hc j hj)⟩
theorem SR.turn {W W' : World} {S B : Nat} {M : Int} {s : Sg} {v : Value} (h : SR W S B M s v) (hS : StB W' S s.1.1 s.1.2.1 s.1.2.2 v (s.2.2.1.1 : Int) s.2.2.1.2 s.2.2.2.1.1 s.2.2.2.1.2 (mfn S s.2.2.2.2)) (hk : Kp (fun k => k = S) W W') : SR W' S B M s v := by
  obtain ⟨h1, h2, h3, h4, h5, h6⟩ := h
  refine ⟨hS, ?_, Nat.le_trans h3 hk.2.2.2.1, h4, h5, h6⟩
  obtain ⟨e1, e2⟩ := h2
  refine ⟨e1, e2.imp id ?_⟩
  rintro ⟨g, cap, cur, rfl, q1, q2, q3⟩
  refine ⟨g, cap, cur, rfl, q1, (hk.2.2.2.2 g (Array.getElem?_eq_some_iff.1 q2).1 (fun e => ?_)).trans q2, q3⟩
  subst e
  have := q2.symm.trans h1
  simp at this
/-- a closed stream: Take takes all, and nothing turns -/
theorem take_shut {S B : Nat} {M : Int} {w W : World} {v0 : Value} {s : Sg} {l : List Nat} {e : Ending} (hs : ¬ s.er = 0) (h : TakeP S B M w v0 s l e W) :
    e = .returned (.tuple #[it0, .int .i64 (l.length : Int)]) ∧ ∃ v, OwnR w v0 v ∧ KX S v0 (fun _ => False) w W ∧ SR W S B M s v := by
  obtain ⟨i, v, h1, h2, h3, h4, h5⟩ := h
  have hi : i = 0 := by
    by_cases hh : i = 0
    · exact hh
    · exact absurd (h2 0 (by omega)).1 hs
  subst hi
  rcases h5 with ⟨_, rfl, h6⟩ | ⟨_, h7, _⟩
  · rw [go_shut s l hs] at h6
    exact ⟨rfl, v, h3, h4, h6⟩
  · exact absurd h7 hs
/-- Expect of a closed stream -/
theorem expect_shut {S : Nat} {lim tk at_ : Int} {v : Value} {sz kd : Int} {hd : Bool} {er : Int} {mf : Value} {w : World} (hS : StB w S lim tk at_ v sz kd hd er mf) (h : at_ < tk) :
    Calls Try.prog 20 #[.pointer (some ⟨S, 0, none⟩)] w fun e w' => e = .returned (.int .i64 4) ∧ StB w' S lim tk at_ v sz kd hd er mf ∧ Kp (fun k => k = S) w w' := by
  cases hd with
  | true => exact expect_head S lim tk at_ v sz kd er mf w hS
  | false => exact expect_mid S lim tk at_ v sz kd er mf w hS (by omega)
end Go.Proofs.Ytaijcnkmklibcaa
