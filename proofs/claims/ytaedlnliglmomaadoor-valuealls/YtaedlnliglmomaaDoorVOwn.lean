/- longshoreref02's Owned: what its first loops do to the memory. -/
import Derived.Test.YtaedlnliglmomaaDoorVCopyO
import Derived.Test.YtaedlnliglmomaaDoorVMark
namespace Go.Proofs.YtaedlnliglmomaaDoor
open Go.RowKit
set_option linter.unusedVariables false
set_option linter.unusedSimpArgs false

/-- the blocks of lists -/
def blocksOf (S : List Value) : List Nat := S.filterMap Value.ownBlock
/-- lists that are their owner's, each in a block of its own -/
def OwnsX (w : World) (S : List Value) : Prop := (∀ s ∈ S, s = .slice none 0 0 ∨ ∃ g n, s = .slice (some ⟨g, 0, none⟩) n n ∧ Blk w g 25 (n * 5)) ∧ (blocksOf S).Nodup
theorem Owns.toX {w : World} {lo hi : Nat} {S : List Value} (h : Owns w lo hi S) : OwnsX w S :=
  ⟨fun s hs => (h.1 s hs).elim .inl (fun ⟨g, n, e, _, _, q⟩ => .inr ⟨g, n, e, q⟩), h.2⟩
theorem mem_blocks {S : List Value} {s : Value} {g : Nat} (h : s ∈ S) (e : s.ownBlock = some g) : g ∈ blocksOf S := List.mem_filterMap.2 ⟨s, h, e⟩
theorem OwnsX.append {w : World} {S S' : List Value} (h : OwnsX w S) (k : OwnsX w S') (hd : ∀ g, g ∈ blocksOf S → g ∉ blocksOf S') : OwnsX w (S ++ S') := by
  refine ⟨fun s hs => (List.mem_append.1 hs).elim (h.1 s) (k.1 s), ?_⟩
  unfold blocksOf at *
  rw [List.filterMap_append, List.nodup_append]
  exact ⟨h.2, k.2, fun x hx y hy e => hd x hx (e ▸ hy)⟩
theorem OwnsX.keep {w w' : World} {S : List Value} (h : OwnsX w S) (hk : ∀ g, g ∈ blocksOf S → w'.heap[g]? = w.heap[g]?) : OwnsX w' S := by
  refine ⟨fun s hs => ?_, h.2⟩
  rcases h.1 s hs with e | ⟨g, n, e, cs, q3, q4⟩
  · exact .inl e
  · exact .inr ⟨g, n, e, cs, (hk g (mem_blocks hs (by rw [e]; rfl))).trans q3, q4⟩
theorem OwnsX.lt {w : World} {S : List Value} (h : OwnsX w S) {g : Nat} (hg : g ∈ blocksOf S) : g < w.heap.size := by
  obtain ⟨s, hs, e⟩ := List.mem_filterMap.1 hg
  rcases h.1 s hs with rfl | ⟨g', n, rfl, q⟩
  · cases e
  · cases e
    exact q.lt
/-- a block that holds something else is none of theirs -/
theorem OwnsX.other {w : World} {S : List Value} (h : OwnsX w S) {p : Nat} {cs : Array Value} {t : TypeId} (hp : w.heap[p]? = some (.cells cs t (0, 0))) (ht : t ≠ 25) : p ∉ blocksOf S := by
  intro hg
  obtain ⟨s, hs, e⟩ := List.mem_filterMap.1 hg
  rcases h.1 s hs with rfl | ⟨g', n, rfl, cs', q1, q2⟩
  · cases e
  · cases e
    rw [hp] at q1
    cases q1
    exact ht rfl
theorem OwnsX.apart {w : World} {S : List Value} (h : OwnsX w S) {i j g : Nat} (hi' : i < S.length) (hj : j < S.length) (hne : i ≠ j) (e : S[i].ownBlock = some g) : S[j].ownBlock ≠ some g := by
  have hp := h.2
  unfold blocksOf List.Nodup at hp
  rw [List.pairwise_filterMap] at hp
  rw [List.pairwise_iff_getElem] at hp
  intro e'
  rcases Nat.lt_or_gt_of_ne hne with hlt | hlt
  · exact hp i j hi' hj hlt g e g e' rfl
  · exact hp j i hj hi' hlt g e' g e rfl
theorem OwnsX.get {w : World} {S : List Value} (h : OwnsX w S) {i : Nat} (hi' : i < S.length) : S[i] = .slice none 0 0 ∨ ∃ g n, S[i] = .slice (some ⟨g, 0, none⟩) n n ∧ Blk w g 25 (n * 5) := h.1 _ (List.getElem_mem hi')

/-- only the blocks of these lists have turned, of those that were there -/
structure TurnS (S : List Value) (w w' : World) : Prop where
  os : w'.os = w.os
  tape : w'.tape = w.tape
  output : w'.output = w.output
  size : w.heap.size ≤ w'.heap.size
  block : ∀ k, k < w.heap.size → k ∉ blocksOf S → w'.heap[k]? = w.heap[k]?
theorem TurnS.refl (S : List Value) (w : World) : TurnS S w w := ⟨rfl, rfl, rfl, Nat.le_refl _, fun _ _ _ => rfl⟩
theorem TurnS.below {S : List Value} {a b c : World} (h : TurnS S a b) (k : Below b.heap.size b c) : TurnS S a c :=
  ⟨k.os.trans h.os, k.tape.trans h.tape, k.output.trans h.output, Nat.le_trans h.size k.size, fun i hi hn => (k.block i (Nat.lt_of_lt_of_le hi h.size)).trans (h.block i hi hn)⟩
theorem TurnS.cellAt {S : List Value} {a b : World} (h : TurnS S a b) {g : Nat} (hg : g ∈ blocksOf S) (o : Nat) (v : Value) : TurnS S a (b.setCell ⟨g, o, none⟩ v) :=
  ⟨h.os, h.tape, h.output, by have := h.size; simp [World.setCell]; omega, fun i hi hn => by rw [Below.heap_setCell _ _ _ _ (by show i ≠ g; intro e; subst e; exact hn hg)]; exact h.block i hi hn⟩
theorem TurnS.wrote {S : List Value} {a b : World} (h : TurnS S a b) {g : Nat} (hg : g ∈ blocksOf S) (o : Nat) (y : V) : TurnS S a (put5 b g o y) := by
  rw [← put5_eq]
  exact ((((h.cellAt hg _ _).cellAt hg _ _).cellAt hg _ _).cellAt hg _ _).cellAt hg _ _

/-- a list that is full of the i-th mark -/
def FullV (w : World) (v : Value) (i : Nat) : Prop := ∀ a m c, v = .slice a m c → Full w a m i
theorem FullV.same {w w' : World} {v : Value} {i : Nat} (h : FullV w v i) (hs : ∀ g, v.ownBlock = some g → Same w w' g) : FullV w' v i := by
  intro a m c e hm
  subst e
  obtain ⟨b, o, rfl, hr⟩ := h _ _ _ rfl hm
  exact ⟨b, o, rfl, hr.same (hs b rfl)⟩
theorem FullV.nought (w : World) (i : Nat) : FullV w (.slice none 0 0) i := by
  intro a m c e hm
  cases e
  omega

/-- the lists ahead of the i-th are full -/
structure Marks (S : List Value) (i : Nat) (w wr : World) : Prop where
  turns : TurnS S w wr
  owns : OwnsX wr S
  full : ∀ j (h : j < S.length), j < i → FullV wr S[j] j
theorem Marks.start {S : List Value} {w : World} (h : OwnsX w S) : Marks S 0 w w := ⟨TurnS.refl _ _, h, fun _ _ h => by omega⟩
theorem Marks.below {S : List Value} {i : Nat} {w wr w1 : World} (h : Marks S i w wr) (hb : Below wr.heap.size wr w1) : Marks S i w w1 := by
  refine ⟨h.turns.below hb, h.owns.keep (fun g hg => hb.block g (h.owns.lt hg)), fun j hj hji => (h.full j hj hji).same (fun g hg o => ?_)⟩
  exact hb.cell (p := ⟨g, o, none⟩) (h.owns.lt (mem_blocks (List.getElem_mem hj) hg))
theorem Marks.put {S : List Value} {i k g n : Nat} {w wr : World} (h : Marks S i w wr) (hi' : i < S.length) (e : S[i] = .slice (some ⟨g, 0, none⟩) n n) (hk : k < n) (hr : Row wr g 0 (List.replicate k (markV i))) : Marks S i w (put5 wr g (k * 5) (markV i)) ∧ Row (put5 wr g (k * 5) (markV i)) g 0 (List.replicate (k + 1) (markV i)) := by
  have hgm : g ∈ blocksOf S := mem_blocks (List.getElem_mem hi') (by rw [e]; rfl)
  rcases h.owns.get hi' with e' | ⟨g', n', e', q3⟩
  · rw [e] at e'; cases e'
  · rw [e] at e'
    cases e'
    refine ⟨⟨h.turns.wrote hgm _ _, ⟨fun s hs => ?_, h.owns.2⟩, fun j hj hji => (h.full j hj hji).same (fun g' hg' => put5_same _ _ _ _ _ (fun eq => ?_))⟩, ?_⟩
    · rcases h.owns.1 s hs with e | ⟨g', n', e, p3⟩
      · exact .inl e
      · refine .inr ⟨g', n', e, ?_⟩
        by_cases hg : g' = g
        · subst hg
          exact put5_blk p3 _ _
        · obtain ⟨cs, c1, c2⟩ := p3
          exact ⟨cs, (put5_heap _ _ _ _ _ hg).trans c1, c2⟩
    · subst eq
      exact h.owns.apart hj hi' (by omega) hg' (by rw [e]; rfl)
    · have := put5_row (y := markV i) q3 hr (by rw [List.length_replicate]; omega)
      rw [List.length_replicate] at this
      rw [List.replicate_succ']
      exact this
theorem Marks.next {S : List Value} {i g n : Nat} {w wr : World} (h : Marks S i w wr) (hi' : i < S.length) (e : S[i] = .slice (some ⟨g, 0, none⟩) n n) (hr : Row wr g 0 (List.replicate n (markV i))) : Marks S (i + 1) w wr := by
  refine ⟨h.turns, h.owns, fun j hj hji => ?_⟩
  by_cases hj' : j = i
  · subst hj'
    intro a m c e' hm
    rw [e] at e'
    cases e'
    exact ⟨g, 0, rfl, hr⟩
  · exact h.full j hj (by omega)
theorem Marks.skip {S : List Value} {i : Nat} {w wr : World} (h : Marks S i w wr) (hi' : i < S.length) (e : S[i] = .slice none 0 0) : Marks S (i + 1) w wr := by
  refine ⟨h.turns, h.owns, fun j hj hji => ?_⟩
  by_cases hj' : j = i
  · subst hj'
    rw [e]
    exact FullV.nought _ _
  · exact h.full j hj (by omega)
end Go.Proofs.YtaedlnliglmomaaDoor
