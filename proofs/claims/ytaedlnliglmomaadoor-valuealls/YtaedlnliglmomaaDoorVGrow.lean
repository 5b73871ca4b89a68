/- longshoreref02's Owned: rows that grow. -/
import Derived.Test.YtaedlnliglmomaaDoorVOwn
import Derived.Test.YtaedlnliglmomaaDoorVKeep
namespace Go.Proofs.YtaedlnliglmomaaDoor
open Go.RowKit
set_option linter.unusedVariables false
set_option linter.unusedSimpArgs false

/-- a row that fills its block is owned -/
theorem own_of_row {w : World} {base g : Nat} {l : List V} (hb : Blk w g 25 (l.length * 5)) (hr : Row w g 0 l) (hn : l.length ≤ maxLen) (hlo : base ≤ g) :
    w.ownsRow base 25 5 (.slice (some ⟨g, 0, none⟩) l.length l.length) l.length (flat l) := by
  obtain ⟨cs, h1, h2⟩ := hb
  refine ⟨flat_length l, .inr ⟨g, l.length, cs, rfl, hlo, h1, Nat.le_refl _, hn, h2, ?_⟩⟩
  refine List.ext_getElem? (fun k => ?_)
  by_cases hk : k < l.length * 5
  · rw [List.getElem?_take_of_lt hk, Array.getElem?_toList]
    have hi : k / 5 < l.length := by omega
    have hq : k % 5 < 5 := Nat.mod_lt _ (by decide)
    have e := flat_get l (k / 5) (k % 5) hi hq
    rw [show k / 5 * 5 + k % 5 = k by omega] at e
    rw [e]
    obtain ⟨r0, r1, r2, r3, r4⟩ := hr (k / 5) hi
    simp only [World.cell?, h1] at r0 r1 r2 r3 r4
    have hc : k % 5 = 0 ∨ k % 5 = 1 ∨ k % 5 = 2 ∨ k % 5 = 3 ∨ k % 5 = 4 := by omega
    rcases hc with c | c | c | c | c
    · rw [show 0 + k / 5 * 5 = k by omega] at r0
      rw [c]
      simpa [words] using r0
    · rw [show 0 + k / 5 * 5 + 1 = k by omega] at r1
      rw [c]
      simpa [words] using r1
    · rw [show 0 + k / 5 * 5 + 2 = k by omega] at r2
      rw [c]
      simpa [words] using r2
    · rw [show 0 + k / 5 * 5 + 3 = k by omega] at r3
      rw [c]
      simpa [words] using r3
    · rw [show 0 + k / 5 * 5 + 4 = k by omega] at r4
      rw [c]
      simpa [words] using r4
  · rw [List.getElem?_eq_none (by rw [List.length_take]; omega), List.getElem?_eq_none (by rw [flat_length]; omega)]

theorem row_take {w : World} {g : Nat} {l : List V} (h : Row w g 0 l) (m : Nat) : Row w g 0 (l.take m) := by
  intro i hi
  have h1 : i < l.length := by rw [List.length_take] at hi; omega
  have := h i h1
  rw [List.getElem_take]
  exact this

/-- a list vl of m marks i that is grown, and the lists G that were grown, in vg -/
structure Grows (B i m : Nat) (vl vg : Value) (G : List Value) (wr : World) : Prop where
  size : B ≤ wr.heap.size
  row : wr.ownsRow 0 25 5 vl m (flat (List.replicate m (markV i)))
  low : (∃ g, vl.ownBlock = some g ∧ B ≤ g) ∨ (∀ a n c, vl = .slice a n c → n = c)
  grow : wr.ownsRow B 23 1 vg G.length G
  apart : ∀ g, vl.ownBlock = some g → vg.ownBlock ≠ some g
  items : ∀ q (h : q < G.length), ∃ g n c, G[q] = .slice (some ⟨g, 0, none⟩) n c ∧ (n ≤ c ∧ n ≤ 2000000000000) ∧ B ≤ g ∧ g < wr.heap.size ∧ Row wr g 0 (List.replicate n (markV (q / 12))) ∧ vg.ownBlock ≠ some g ∧ (vl.ownBlock = some g → q / 12 = i ∧ n ≤ m)

theorem Grows.push {B i m : Nat} {vl vg v' : Value} {G : List Value} {wr w' : World} (h : Grows B i m vl vg G wr) (h1 : w'.ownsRow 0 25 5 v' (m + 1) (flat (List.replicate (m + 1) (markV i))))
    (h2 : (wr.grownBy w' none ∧ ∃ g, v'.ownBlock = some g ∧ wr.heap.size ≤ g) ∨ (wr.grownBy w' vl.ownBlock ∧ ∃ g cap, vl = .slice (some ⟨g, 0, none⟩) m cap ∧ m + 1 ≤ cap ∧ v'.ownBlock = some g)) :
    Grows B i (m + 1) v' vg G w' ∧ (∃ g, v'.ownBlock = some g ∧ B ≤ g) ∧ ∀ w0, Below B w0 wr → Below B w0 w' := by
  rcases h2 with ⟨hg, g, e, hge⟩ | ⟨hg, g, cap, rfl, hc, e⟩
  · have hB : B ≤ g := Nat.le_trans h.size hge
    refine ⟨⟨Nat.le_trans h.size hg.size, h1, .inl ⟨g, e, hB⟩, ownsRow_keep h.grow (fun k hk => hg.block k (ownsRow_lt h.grow hk).2 (by simp)), fun k hk hv => ?_, fun q hq => ?_⟩, ⟨g, e, hB⟩, fun w0 hw => hw.grown hg h.size (fun k hk => by cases hk)⟩
    · have := (ownsRow_lt h.grow hv).2
      rw [e] at hk
      cases hk
      omega
    · obtain ⟨k, n, c, e1, e2, e3, e4, e5, e6, e7⟩ := h.items q hq
      refine ⟨k, n, c, e1, e2, e3, Nat.lt_of_lt_of_le e4 hg.size, e5.same (fun o => World.cell?_of_block (hg.block k e4 (by simp))), e6, fun hv => ?_⟩
      rw [e] at hv
      cases hv
      omega
  · have hB : B ≤ g := by
      rcases h.low with ⟨g', e', hb⟩ | h'
      · cases e'
        exact hb
      · have := h' _ _ _ rfl
        omega
    have hrow : Row w' g 0 (List.replicate (m + 1) (markV i)) := by
      rcases h1.2 with ⟨_, h0⟩ | ⟨g', cap', cur, rfl, _⟩
      · omega
      · cases e
        exact flat_row h1
    refine ⟨⟨Nat.le_trans h.size hg.size, h1, .inl ⟨g, e, hB⟩, ownsRow_keep h.grow (fun k hk => hg.block k (ownsRow_lt h.grow hk).2 (fun e' => ?_)), fun k hk hv => ?_, fun q hq => ?_⟩, ⟨g, e, hB⟩, fun w0 hw => hw.grown hg h.size (fun k hk => by cases hk; exact hB)⟩
    · have := h.apart k e'.symm
      exact this hk
    · rw [e] at hk
      cases hk
      exact h.apart g rfl hv
    · obtain ⟨k, n, c, e1, e2, e3, e4, e5, e6, e7⟩ := h.items q hq
      by_cases hkg : k = g
      · subst hkg
        obtain ⟨f1, f2⟩ := e7 rfl
        refine ⟨k, n, c, e1, e2, e3, Nat.lt_of_lt_of_le e4 hg.size, ?_, e6, fun _ => ⟨f1, by omega⟩⟩
        have := row_take hrow n
        rw [List.take_replicate, Nat.min_eq_left (by omega)] at this
        rw [f1]
        exact this
      · refine ⟨k, n, c, e1, e2, e3, Nat.lt_of_lt_of_le e4 hg.size, e5.same (fun o => World.cell?_of_block (hg.block k e4 (fun e' => ?_))), e6, fun hv => ?_⟩
        · cases e'
          exact hkg rfl
        · rw [e] at hv
          cases hv
          exact absurd rfl hkg

theorem Grows.take {B i m : Nat} {vl vg v' : Value} {G : List Value} {wr w' : World} (h : Grows B i m vl vg G wr) (hlo : ∃ g, vl.ownBlock = some g ∧ B ≤ g) (hi : G.length / 12 = i) (hm : m ≤ 2000000000000) (h1 : w'.ownsRow B 23 1 v' (G.length + 1) (G ++ [vl]))
    (h2 : (wr.grownBy w' none ∧ ∃ g, v'.ownBlock = some g ∧ wr.heap.size ≤ g) ∨ (wr.grownBy w' vg.ownBlock ∧ ∃ g cap, vg = .slice (some ⟨g, 0, none⟩) G.length cap ∧ G.length + 1 ≤ cap ∧ v'.ownBlock = some g)) :
    Grows B i m vl v' (G ++ [vl]) w' ∧ ∀ w0, Below B w0 wr → Below B w0 w' := by
  have hne : ∀ g, (∃ vl', vl' = vl ∧ vl'.ownBlock = some g) ∨ (∃ q, ∃ h : q < G.length, G[q].ownBlock = some g) → g < wr.heap.size ∧ v'.ownBlock ≠ some g ∧ w'.heap[g]? = wr.heap[g]? := by
    intro g hg
    have hlt : g < wr.heap.size ∧ vg.ownBlock ≠ some g := by
      rcases hg with ⟨_, rfl, hg⟩ | ⟨q, hq, hg⟩
      · exact ⟨(ownsRow_lt h.row hg).2, h.apart g hg⟩
      · obtain ⟨k, n, c, e1, e2, e3, e4, e5, e6, e7⟩ := h.items q hq
        rw [e1] at hg
        cases hg
        exact ⟨e4, e6⟩
    rcases h2 with ⟨hg2, k, e, hk⟩ | ⟨hg2, k, cap, rfl, hc, e⟩
    · exact ⟨hlt.1, fun e' => by rw [e] at e'; cases e'; omega, hg2.block g hlt.1 (by simp)⟩
    · exact ⟨hlt.1, fun e' => by rw [e] at e'; cases e'; exact hlt.2 rfl, hg2.block g hlt.1 (fun e' => hlt.2 e'.symm)⟩
  have hsz : wr.heap.size ≤ w'.heap.size := by
    rcases h2 with ⟨hg2, _⟩ | ⟨hg2, _⟩ <;> exact hg2.size
  refine ⟨?_, fun w0 hw => ?_⟩
  rotate_left
  · rcases h2 with ⟨hg2, _⟩ | ⟨hg2, _⟩
    · exact hw.grown hg2 h.size (fun k hk => by cases hk)
    · exact hw.grown hg2 h.size (fun k hk => (ownsRow_lt h.grow hk).1)
  refine ⟨Nat.le_trans h.size hsz, ownsRow_keep h.row (fun g hg => (hne g (.inl ⟨_, rfl, hg⟩)).2.2), .inl hlo, by rw [List.length_append]; exact h1, fun g hg => (hne g (.inl ⟨_, rfl, hg⟩)).2.1, fun q hq => ?_⟩
  by_cases hq' : q < G.length
  · obtain ⟨k, n, c, e1, e2, e3, e4, e5, e6, e7⟩ := h.items q hq'
    have := hne k (.inr ⟨q, hq', by rw [e1]; rfl⟩)
    refine ⟨k, n, c, by rw [List.getElem_append_left hq']; exact e1, e2, e3, Nat.lt_of_lt_of_le e4 hsz, e5.same (fun o => World.cell?_of_block this.2.2), this.2.1, e7⟩
  · have hql : q = G.length := by simp at hq; omega
    subst hql
    obtain ⟨g, e, hb⟩ := hlo
    have hh := hne g (.inl ⟨_, rfl, e⟩)
    have hr := h.row
    rcases hr.2 with ⟨rfl, _⟩ | ⟨g', cap, cur, rfl, _, _, hcap, _⟩
    · cases e
    · cases e
      refine ⟨g', m, cap, by simp, ⟨hcap, hm⟩, hb, Nat.lt_of_lt_of_le hh.1 hsz, ?_, hh.2.1, fun _ => ⟨hi, Nat.le_refl _⟩⟩
      rw [hi]
      exact (flat_row hr).same (fun o => World.cell?_of_block hh.2.2)

theorem Grows.below {B i m : Nat} {vl vg : Value} {G : List Value} {wr w' : World} (h : Grows B i m vl vg G wr) (hb : Below wr.heap.size wr w') : Grows B i m vl vg G w' := by
  refine ⟨Nat.le_trans h.size hb.size, ownsRow_keep h.row (fun g hg => hb.block g (ownsRow_lt h.row hg).2), h.low, ownsRow_keep h.grow (fun g hg => hb.block g (ownsRow_lt h.grow hg).2), h.apart, fun q hq => ?_⟩
  obtain ⟨k, n, c, e1, e2, e3, e4, e5, e6, e7⟩ := h.items q hq
  exact ⟨k, n, c, e1, e2, e3, Nat.lt_of_lt_of_le e4 hb.size, e5.same (fun o => World.cell?_of_block (hb.block k e4)), e6, e7⟩
theorem Grows.start {w : World} : Grows w.heap.size 0 0 (.slice none 0 0) (.slice none 0 0) [] w := by
  refine ⟨Nat.le_refl _, ⟨rfl, .inl ⟨rfl, rfl⟩⟩, .inr (fun a n c e => by cases e; rfl), ⟨rfl, .inl ⟨rfl, rfl⟩⟩, fun g hg => (by cases hg), fun q hq => (by simp at hq)⟩

theorem flat_more (m : Nat) (x : V) : flat (List.replicate m x) ++ words x = flat (List.replicate (m + 1) x) := by
  rw [List.replicate_succ', flat_append]
  simp [flat]

theorem Grows.at {B i m : Nat} {vl vg : Value} {G : List Value} {wr : World} (h : Grows B i m vl vg G wr) {q : Nat} (hq : q < G.length) : ∃ g n c, G[q] = .slice (some ⟨g, 0, none⟩) n c ∧ n ≤ c ∧ n ≤ 2000000000000 ∧ Full wr (some ⟨g, 0, none⟩) n (q / 12) ∧ g < wr.heap.size := by
  obtain ⟨k, n, c, e1, e2, e3, e4, e5, e6, e7⟩ := h.items q hq
  exact ⟨k, n, c, e1, e2.1, e2.2, fun _ => ⟨k, 0, rfl, e5⟩, e4⟩
theorem Grows.rows {B i m : Nat} {vl vg : Value} {G : List Value} {wr : World} (h : Grows B i m vl vg G wr) : ∃ A C, vg = .slice A G.length C ∧ G.length ≤ C ∧ ∀ q (hq : q < G.length), ∃ g, A = some ⟨g, 0, none⟩ ∧ g < wr.heap.size ∧ wr.cell? ⟨g, q, none⟩ = some G[q] := by
  have hh := h.grow
  rcases hh.2 with ⟨e, h0⟩ | ⟨g, cap, cur, e, h1, h2, h3, _⟩
  · exact ⟨none, 0, by rw [h0, e], by omega, fun q hq => by omega⟩
  · refine ⟨_, cap, e, h3, fun q hq => ⟨g, rfl, (Array.getElem?_eq_some_iff.1 h2).1, ?_⟩⟩
    have := hh.cells (g := g) (by rw [e]; rfl) q G[q] (List.getElem?_eq_getElem hq)
    rw [show (⟨g, q, none⟩ : Addr) = (⟨g, 0, none⟩ : Addr).add q by by_cases h : q = 0 <;> simp [Addr.add, h]]
    exact this
theorem Marks.at {S : List Value} {w wr : World} (h : Marks S S.length w wr) {q : Nat} (hq : q < S.length) (hn : ∀ s ∈ S, ∀ a m c, s = .slice a m c → m ≤ 1000000000000) : ∃ A n, S[q] = .slice A n n ∧ n ≤ 1000000000000 ∧ Full wr A n q ∧ ∀ x, A = some x → x.block < wr.heap.size := by
  have hfull := h.full q hq hq
  rcases h.owns.get hq with e | ⟨gi, n, e, hblk⟩
  · exact ⟨none, 0, e, by omega, hfull _ _ _ e, fun x hx => by cases hx⟩
  · exact ⟨_, n, e, hn S[q] (List.getElem_mem hq) _ _ _ e, hfull _ _ _ e, fun x hx => by cases hx; exact hblk.lt⟩

/-- another list is grown -/
theorem Grows.other {B i m j n : Nat} {vl vg u : Value} {G : List Value} {wr : World} (h : Grows B i m vl vg G wr) (hu : wr.ownsRow 0 25 5 u n (flat (List.replicate n (markV j)))) (hl : ∀ a n c, u = .slice a n c → n = c) (hb : ∀ g, u.ownBlock = some g → g < B) : Grows B j n u vg G wr := by
  refine ⟨h.size, hu, .inr hl, h.grow, fun g hg hv => ?_, fun q hq => ?_⟩
  · have := (ownsRow_lt h.grow hv).1
    have := hb g hg
    omega
  · obtain ⟨k, n, c, e1, e2, e3, e4, e5, e6, e7⟩ := h.items q hq
    refine ⟨k, n, c, e1, e2, e3, e4, e5, e6, fun hv => ?_⟩
    have := hb k hv
    omega
end Go.Proofs.YtaedlnliglmomaaDoor
