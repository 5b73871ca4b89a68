/- longshoreref02's Book: several values, one behind the other; then Owned. -/
import Derived.Test.YtaedlnliglmomaaDoorVOwned
namespace Go.Proofs.YtaedlnliglmomaaDoor
open Go.RowKit
set_option linter.unusedVariables false
set_option linter.unusedSimpArgs false

theorem Bk.start (W : World) : Bk W.heap.size none [] (W.alloc (Obj.cells #[.slice none 0 0] 37)) (W.alloc (Obj.cells #[.slice none 0 0] 37)) :=
  ⟨none, 0, World.alloc_heap_new _ _, World.ownsRow_nil _ _ _ _, .inl rfl, rfl, rfl, rfl, Nat.le_refl _, fun _ _ _ _ => rfl⟩
theorem Bk.same {p : Nat} {S : List Value} {W wr : World} (h : Bk p none S W wr) {k : Nat} (hk : k < W.heap.size) (hp : k ≠ p) : wr.heap[k]? = W.heap[k]? := by
  obtain ⟨A, C, h1, h2, h3, h4, h5, h6, h7, h8⟩ := h
  exact h8 k hk hp (by simp)
theorem Bk.size {p : Nat} {A0 : Option Nat} {S : List Value} {W wr : World} (h : Bk p A0 S W wr) : W.heap.size ≤ wr.heap.size := by
  obtain ⟨A, C, h1, h2, h3, h4, h5, h6, h7, h8⟩ := h
  exact h7
/-- what came ahead of the book stays -/
theorem Bk.below {p : Nat} {S : List Value} {W wr : World} (h : Bk p none S W wr) {B : Nat} (hB : B ≤ p) (hW : B ≤ W.heap.size) : Below B W wr := by
  obtain ⟨A, C, h1, h2, h3, h4, h5, h6, h7, h8⟩ := h
  exact ⟨h4, h5, h6, h7, fun k hk => h8 k (by omega) (by omega) (by simp)⟩
/-- nothing that the book has turns -/
theorem Bk.on {p : Nat} {S : List Value} {W wr w1 : World} (h : Bk p none S W wr) (hb : Below wr.heap.size wr w1) : Bk p none S W w1 := by
  obtain ⟨A, C, h1, h2, h3, h4, h5, h6, h7, h8⟩ := h
  refine ⟨A, C, (hb.block p (Array.getElem?_eq_some_iff.1 h1).1).trans h1, ownsRow_keep h2 (fun g hg => hb.block g (ownsRow_lt h2 hg).2), h3, hb.os.trans h4, hb.tape.trans h5, hb.output.trans h6, Nat.le_trans h7 hb.size, fun k k1 k2 k3 => (hb.block k (by omega)).trans (h8 k k1 k2 k3)⟩
theorem Bk.at {p : Nat} {A0 : Option Nat} {S : List Value} {W wr : World} (h : Bk p A0 S W wr) (h0 : 0 < S.length) : ∃ g C, BookAt p g C S wr ∧ S.length ≤ C := by
  obtain ⟨A, C, h1, h2, h3, _⟩ := h
  rcases h2.2 with ⟨_, e⟩ | ⟨g, cap, cur, e, hb, hg, hc, hm, hs, ht⟩
  · omega
  · cases e
    exact ⟨g, C, ⟨h1, cur, hg, by simpa using ht⟩, hc⟩
theorem take_next {p : Nat} {S : List Value} {W wr : World} (h : Bk p none S W wr) (x : V) (Q : Nat → Prop) (hx : LiesIn Q wr x) (hQ : ∀ b, Q b → b < W.heap.size ∧ b ≠ p) (hS : S.length + T.wt x.t ≤ 1099511627776) :
    Calls Tryd.prog 20 #[.pointer (some ⟨p, 0, none⟩), x.val] wr fun e w' => e = .returned (.tuple #[]) ∧ Hid (Bk p none (S ++ x.slots) W w') := by
  obtain ⟨A1, h1, hA⟩ := h.here
  have hs := h.size
  refine (take_any x p A1 S Q wr h1 hx (fun b hb => ⟨by have := (hQ b hb).1; omega, (hQ b hb).2, fun e => ?_⟩) hS).mono (fun e w' q => ⟨q.1, h.trans hA q.2.out⟩)
  rcases hA with rfl | ⟨g, rfl, hg⟩
  · cases e
  · cases e
    have := (hQ _ hb).1
    omega
theorem slots_small : ∀ v : V, ∀ s ∈ v.slots, ∀ a m c, s = .slice a m c → m ≤ T.wt v.t := by
  refine V.ind ?_
  intro k n s a c e l ih t ht a' m c' e'
  have hlen : l.length ≤ T.wts (V.ts l) := by
    clear ih ht
    induction l with
    | nil => simp
    | cons x l ihl =>
      have := wt_pos x
      simp only [V.ts, T.wts, List.length_cons]
      omega
  have hmem : ∀ x ∈ l, T.wt x.t ≤ T.wts (V.ts l) := by
    clear ih ht hlen
    induction l with
    | nil => intro x hx; simp at hx
    | cons y l ihl =>
      intro x hx
      simp only [V.ts, T.wts]
      rcases List.mem_cons.1 hx with rfl | hx
      · omega
      · have := ihl x hx
        omega
  rw [V.t_of, T.wt_of]
  rw [V.slots_of] at ht
  rcases List.mem_append.1 ht with ht | ht
  · unfold V.slotss at ht
    obtain ⟨S', hS', hm⟩ := List.mem_flatten.1 ht
    obtain ⟨x, hx, rfl⟩ := List.mem_map.1 hS'
    have h1 := ih x hx t hm a' m c' e'
    have h2 := hmem x hx
    omega
  · obtain rfl : t = .slice a l.length c := by simpa using ht
    cases e'
    omega
/-- Owned of what the book holds -/
theorem owned_at {p : Nat} {S : List Value} {W wr : World} (h : Bk p none S W wr) (ho : OwnsX wr S) (h0 : 0 < S.length) (hS : S.length ≤ 100000000000) (hn : ∀ s ∈ S, ∀ a m c, s = .slice a m c → m ≤ 1000000000000) :
    Calls Tryd.prog 21 #[.pointer (some ⟨p, 0, none⟩)] wr fun e w' => e = .returned (.bool true) ∧ Hid (TurnS S wr w') := by
  obtain ⟨g, C, hb, hc⟩ := h.at h0
  exact owned_any p g C S wr hb ho hS hc hn
theorem TurnS.keep {S : List Value} {a b : World} (h : TurnS S a b) {B : Nat} (hB : B ≤ a.heap.size) (hS : ∀ g ∈ blocksOf S, B ≤ g) : Below B a b :=
  ⟨h.os, h.tape, h.output, h.size, fun k hk => h.block k (by omega) (fun hm => by have := hS k hm; omega)⟩
theorem Owns.blocks {w : World} {lo hi : Nat} {S : List Value} (h : Owns w lo hi S) : ∀ g ∈ blocksOf S, lo ≤ g := fun g hg => (h.mem hg).1
theorem slots_pos (v : V) : 0 < v.slots.length := by
  obtain ⟨k, n, s, a, c, e, l, rfl⟩ := V.ex v
  rw [V.slots_of]
  simp
end Go.Proofs.YtaedlnliglmomaaDoor
