/- HFlG -/
import Derived.Test.YtgldcchleoklcaaGreatDoorF33
import Derived.Test.YtgldcchleoklcaaGreatDoorF32
namespace Go.Proofs.YtgldcchleoklcaaGreatDoor
open Go.RowKit
set_option linter.unusedVariables false
set_option linter.unusedSimpArgs false
structure GrowsE (E : El) (tl : TypeId) (S : List Value) (B i m : Nat) (vl vg : Value) (G : List Value) (wr : World) : Prop where
  size : B ≤ wr.heap.size
  row : wr.ownsRow 0 E.ty E.sz vl m (E.row m i)
  low : (∃ g, vl.ownBlock = some g ∧ B ≤ g) ∨ (∀ a n c, vl = .slice a n c → n = c)
  grow : wr.ownsRow B tl 1 vg G.length G
  apart : ∀ g, vl.ownBlock = some g → vg.ownBlock ≠ some g
  items : ∀ q (h : q < G.length), (q % 8 = 7 → ∃ h' : q / 8 < S.length, G[q] = S[q / 8]) ∧ (q % 8 ≠ 7 → ∃ g n c, G[q] = .slice (some ⟨g, 0, none⟩) n c ∧ (n ≤ c ∧ n ≤ 200) ∧ B ≤ g ∧ g < wr.heap.size ∧ RdE E wr g n (q / 8) ∧ vg.ownBlock ≠ some g ∧ (vl.ownBlock = some g → q / 8 = i ∧ n ≤ m))
theorem GrowsE.push {E : El} (hE : E.Ok) {tl : TypeId} {S : List Value} {B i m : Nat} {vl vg v' : Value} {G : List Value} {wr w' : World} (h : GrowsE E tl S B i m vl vg G wr) (h1 : w'.ownsRow 0 E.ty E.sz v' (m + 1) (E.row (m + 1) i))
    (h2 : (wr.grownBy w' none ∧ ∃ g, v'.ownBlock = some g ∧ wr.heap.size ≤ g) ∨ (wr.grownBy w' vl.ownBlock ∧ ∃ g cap, vl = .slice (some ⟨g, 0, none⟩) m cap ∧ m + 1 ≤ cap ∧ v'.ownBlock = some g)) :
    GrowsE E tl S B i (m + 1) v' vg G w' ∧ (∃ g, v'.ownBlock = some g ∧ B ≤ g) ∧ ∀ w0, Below B w0 wr → Below B w0 w' := by
  rcases h2 with ⟨hg, g, e, hge⟩ | ⟨hg, g, cap, rfl, hc, e⟩
  · have hB : B ≤ g := Nat.le_trans h.size hge
    refine ⟨⟨Nat.le_trans h.size hg.size, h1, .inl ⟨g, e, hB⟩, ownsRow_keep h.grow (fun k hk => hg.block k (ownsRow_lt h.grow hk).2 (by simp)), fun k hk hv => ?_, fun q hq => ⟨(h.items q hq).1, fun h7 => ?_⟩⟩, ⟨g, e, hB⟩, fun w0 hw => hw.grown hg h.size (fun k hk => by cases hk)⟩
    · have := (ownsRow_lt h.grow hv).2
      rw [e] at hk
      cases hk
      omega
    · obtain ⟨k, n, c, e1, e2, e3, e4, e5, e6, e7⟩ := (h.items q hq).2 h7
      refine ⟨k, n, c, e1, e2, e3, Nat.lt_of_lt_of_le e4 hg.size, e5.same (hg.block k e4 (by simp)), e6, fun hv => ?_⟩
      rw [e] at hv
      cases hv
      omega
  · have hB : B ≤ g := by
      rcases h.low with ⟨g', e', hb⟩ | h'
      · cases e'
        exact hb
      · have := h' _ _ _ rfl
        omega
    have hrow : RdE E w' g (m + 1) i := by
      rcases h1.2 with ⟨_, h0⟩ | ⟨g', cap', cur, rfl, _⟩
      · omega
      · cases e
        exact rdE_own hE h1
    refine ⟨⟨Nat.le_trans h.size hg.size, h1, .inl ⟨g, e, hB⟩, ownsRow_keep h.grow (fun k hk => hg.block k (ownsRow_lt h.grow hk).2 (fun e' => ?_)), fun k hk hv => ?_, fun q hq => ⟨(h.items q hq).1, fun h7 => ?_⟩⟩, ⟨g, e, hB⟩, fun w0 hw => hw.grown hg h.size (fun k hk => by cases hk; exact hB)⟩
    · have := h.apart k e'.symm
      exact this hk
    · rw [e] at hk
      cases hk
      exact h.apart g rfl hv
    · obtain ⟨k, n, c, e1, e2, e3, e4, e5, e6, e7⟩ := (h.items q hq).2 h7
      by_cases hkg : k = g
      · subst hkg
        obtain ⟨f1, f2⟩ := e7 rfl
        refine ⟨k, n, c, e1, e2, e3, Nat.lt_of_lt_of_le e4 hg.size, ?_, e6, fun _ => ⟨f1, by omega⟩⟩
        rw [f1]
        exact hrow.less (by omega)
      · refine ⟨k, n, c, e1, e2, e3, Nat.lt_of_lt_of_le e4 hg.size, e5.same (hg.block k e4 (fun e' => ?_)), e6, fun hv => ?_⟩
        · cases e'
          exact hkg rfl
        · rw [e] at hv
          cases hv
          exact absurd rfl hkg
theorem GrowsE.vgrow {E : El} {tl : TypeId} {S : List Value} {B i m : Nat} {vl vg v' x : Value} {G : List Value} {wr w' : World} (h : GrowsE E tl S B i m vl vg G wr)
    (h2 : (wr.grownBy w' none ∧ ∃ g, v'.ownBlock = some g ∧ wr.heap.size ≤ g) ∨ (wr.grownBy w' vg.ownBlock ∧ ∃ g cap, vg = .slice (some ⟨g, 0, none⟩) G.length cap ∧ G.length + 1 ≤ cap ∧ v'.ownBlock = some g)) :
    (∀ g, vl.ownBlock = some g → g < wr.heap.size ∧ v'.ownBlock ≠ some g ∧ w'.heap[g]? = wr.heap[g]?) ∧ (∀ q (hq : q < G.length), q % 8 ≠ 7 → ∀ g, G[q].ownBlock = some g → g < wr.heap.size ∧ v'.ownBlock ≠ some g ∧ w'.heap[g]? = wr.heap[g]?) ∧ wr.heap.size ≤ w'.heap.size ∧ ∀ w0, Below B w0 wr → Below B w0 w' := by
  have hne : ∀ g, g < wr.heap.size → vg.ownBlock ≠ some g → v'.ownBlock ≠ some g ∧ w'.heap[g]? = wr.heap[g]? := fun g h1 h3 => by
    rcases h2 with ⟨hg2, k, e, hk⟩ | ⟨hg2, k, cap, rfl, hc, e⟩
    · exact ⟨fun e' => by rw [e] at e'; cases e'; omega, hg2.block g h1 (by simp)⟩
    · exact ⟨fun e' => by rw [e] at e'; cases e'; exact h3 rfl, hg2.block g h1 (fun e' => h3 e'.symm)⟩
  refine ⟨fun g hg => ⟨(ownsRow_lt h.row hg).2, hne g (ownsRow_lt h.row hg).2 (h.apart g hg)⟩, fun q hq h7 g hg => ?_, ?_, fun w0 hw => ?_⟩
  · obtain ⟨k, n, c, e1, e2, e3, e4, e5, e6, e7⟩ := (h.items q hq).2 h7
    rw [e1] at hg
    cases hg
    exact ⟨e4, hne _ e4 e6⟩
  · rcases h2 with ⟨hg2, _⟩ | ⟨hg2, _⟩ <;> exact hg2.size
  · rcases h2 with ⟨hg2, _⟩ | ⟨hg2, _⟩
    · exact hw.grown hg2 h.size (fun k hk => by cases hk)
    · exact hw.grown hg2 h.size (fun k hk => (ownsRow_lt h.grow hk).1)
theorem GrowsE.take {E : El} (hE : E.Ok) {tl : TypeId} {S : List Value} {B i m : Nat} {vl vg v' : Value} {G : List Value} {wr w' : World} (h : GrowsE E tl S B i m vl vg G wr) (hlo : ∃ g, vl.ownBlock = some g ∧ B ≤ g) (hi : G.length / 8 = i) (h7 : G.length % 8 ≠ 7) (hm : m ≤ 200) (h1 : w'.ownsRow B tl 1 v' (G.length + 1) (G ++ [vl]))
    (h2 : (wr.grownBy w' none ∧ ∃ g, v'.ownBlock = some g ∧ wr.heap.size ≤ g) ∨ (wr.grownBy w' vg.ownBlock ∧ ∃ g cap, vg = .slice (some ⟨g, 0, none⟩) G.length cap ∧ G.length + 1 ≤ cap ∧ v'.ownBlock = some g)) :
    GrowsE E tl S B i m vl v' (G ++ [vl]) w' ∧ ∀ w0, Below B w0 wr → Below B w0 w' := by
  obtain ⟨k1, k2, hsz, k4⟩ := h.vgrow (x := vl) h2
  refine ⟨⟨Nat.le_trans h.size hsz, ownsRow_keep h.row (fun g hg => (k1 g hg).2.2), .inl hlo, by rw [List.length_append]; exact h1, fun g hg => (k1 g hg).2.1, fun q hq => ?_⟩, k4⟩
  by_cases hq' : q < G.length
  · refine ⟨fun e => ?_, fun e => ?_⟩
    · obtain ⟨h3, h4⟩ := (h.items q hq').1 e
      exact ⟨h3, by rw [List.getElem_append_left hq']; exact h4⟩
    · obtain ⟨k, n, c, e1, e2, e3, e4, e5, e6, e7⟩ := (h.items q hq').2 e
      have := k2 q hq' e k (by rw [e1]; rfl)
      exact ⟨k, n, c, by rw [List.getElem_append_left hq']; exact e1, e2, e3, Nat.lt_of_lt_of_le e4 hsz, e5.same this.2.2, this.2.1, e7⟩
  · have hql : q = G.length := by simp at hq; omega
    subst hql
    refine ⟨fun e => absurd e h7, fun _ => ?_⟩
    obtain ⟨g, e, hb⟩ := hlo
    have hh := k1 g e
    have hr := h.row
    rcases hr.2 with ⟨rfl, _⟩ | ⟨g', cap, cur, rfl, _, _, hcap, _⟩
    · cases e
    · cases e
      refine ⟨g', m, cap, by simp, ⟨hcap, hm⟩, hb, Nat.lt_of_lt_of_le hh.1 hsz, ?_, hh.2.1, fun _ => ⟨hi, Nat.le_refl _⟩⟩
      rw [hi]
      exact (rdE_own hE hr).same hh.2.2
theorem GrowsE.takeO {E : El} {tl : TypeId} {S : List Value} {B i m : Nat} {vl vg v' x : Value} {G : List Value} {wr w' : World} (h : GrowsE E tl S B i m vl vg G wr) (h7 : G.length % 8 = 7) (hx : ∃ h' : G.length / 8 < S.length, x = S[G.length / 8]) (h1 : w'.ownsRow B tl 1 v' (G.length + 1) (G ++ [x]))
    (h2 : (wr.grownBy w' none ∧ ∃ g, v'.ownBlock = some g ∧ wr.heap.size ≤ g) ∨ (wr.grownBy w' vg.ownBlock ∧ ∃ g cap, vg = .slice (some ⟨g, 0, none⟩) G.length cap ∧ G.length + 1 ≤ cap ∧ v'.ownBlock = some g)) :
    GrowsE E tl S B i m vl v' (G ++ [x]) w' ∧ ∀ w0, Below B w0 wr → Below B w0 w' := by
  obtain ⟨k1, k2, hsz, k4⟩ := h.vgrow (x := x) h2
  refine ⟨⟨Nat.le_trans h.size hsz, ownsRow_keep h.row (fun g hg => (k1 g hg).2.2), h.low, by rw [List.length_append]; exact h1, fun g hg => (k1 g hg).2.1, fun q hq => ?_⟩, k4⟩
  by_cases hq' : q < G.length
  · refine ⟨fun e => ?_, fun e => ?_⟩
    · obtain ⟨h3, h4⟩ := (h.items q hq').1 e
      exact ⟨h3, by rw [List.getElem_append_left hq']; exact h4⟩
    · obtain ⟨k, n, c, e1, e2, e3, e4, e5, e6, e7⟩ := (h.items q hq').2 e
      have := k2 q hq' e k (by rw [e1]; rfl)
      exact ⟨k, n, c, by rw [List.getElem_append_left hq']; exact e1, e2, e3, Nat.lt_of_lt_of_le e4 hsz, e5.same this.2.2, this.2.1, e7⟩
  · have hql : q = G.length := by simp at hq; omega
    subst hql
    obtain ⟨h', e⟩ := hx
    exact ⟨fun _ => ⟨h', by simp [e]⟩, fun hh => absurd h7 hh⟩
theorem GrowsE.below {E : El} {tl : TypeId} {S : List Value} {B i m : Nat} {vl vg : Value} {G : List Value} {wr w' : World} (h : GrowsE E tl S B i m vl vg G wr) (hb : Below wr.heap.size wr w') : GrowsE E tl S B i m vl vg G w' := by
  refine ⟨Nat.le_trans h.size hb.size, ownsRow_keep h.row (fun g hg => hb.block g (ownsRow_lt h.row hg).2), h.low, ownsRow_keep h.grow (fun g hg => hb.block g (ownsRow_lt h.grow hg).2), h.apart, fun q hq => ⟨(h.items q hq).1, fun h7 => ?_⟩⟩
  obtain ⟨k, n, c, e1, e2, e3, e4, e5, e6, e7⟩ := (h.items q hq).2 h7
  exact ⟨k, n, c, e1, e2, e3, Nat.lt_of_lt_of_le e4 hb.size, e5.same (hb.block k e4), e6, e7⟩
theorem GrowsE.start {E : El} {tl : TypeId} {S : List Value} {w : World} (hsz : (E.row 0 0).length = 0) : GrowsE E tl S w.heap.size 0 0 (.slice none 0 0) (.slice none 0 0) [] w :=
  ⟨Nat.le_refl _, ⟨by rw [hsz]; simp, .inl ⟨rfl, rfl⟩⟩, .inr (fun a n c e => by cases e; rfl), World.ownsRow_nil _ _ _ _, fun g hg => (by cases hg), fun q hq => absurd hq (by simp)⟩
theorem GrowsE.other {E : El} {tl : TypeId} {S : List Value} {B i m j n : Nat} {vl vg u : Value} {G : List Value} {wr : World} (h : GrowsE E tl S B i m vl vg G wr) (hu : wr.ownsRow 0 E.ty E.sz u n (E.row n j)) (hl : ∀ a n c, u = .slice a n c → n = c) (hb : ∀ g, u.ownBlock = some g → g < B) : GrowsE E tl S B j n u vg G wr := by
  refine ⟨h.size, hu, .inr hl, h.grow, fun g hg hv => ?_, fun q hq => ⟨(h.items q hq).1, fun h7 => ?_⟩⟩
  · have h1 := hb g hg
    have h2 := (ownsRow_lt h.grow hv).1
    omega
  · obtain ⟨k, n', c, e1, e2, e3, e4, e5, e6, e7⟩ := (h.items q hq).2 h7
    exact ⟨k, n', c, e1, e2, e3, e4, e5, e6, fun hv => by have := hb k hv; omega⟩
theorem GrowsE.rows {E : El} {tl : TypeId} {S : List Value} {B i m : Nat} {vl vg : Value} {G : List Value} {wr : World} (h : GrowsE E tl S B i m vl vg G wr) : ∃ A C, vg = .slice A G.length C ∧ G.length ≤ C ∧ ∀ q (hq : q < G.length), ∃ g, A = some ⟨g, 0, none⟩ ∧ B ≤ g ∧ g < wr.heap.size ∧ wr.cell? ⟨g, q, none⟩ = some G[q] := by
  rcases h.grow.2 with ⟨rfl, h0⟩ | ⟨g, cap, cur, rfl, hb, hg, hc, hm, hs, ht⟩
  · exact ⟨none, 0, by rw [h0], by omega, fun q hq => by omega⟩
  · refine ⟨some ⟨g, 0, none⟩, cap, rfl, hc, fun q hq => ⟨g, rfl, hb, (Array.getElem?_eq_some_iff.1 hg).1, ?_⟩⟩
    unfold World.cell?
    simp only [hg]
    have e : (cur.toList.take (G.length * 1))[q]? = cur.toList[q]? := List.getElem?_take_of_lt (by omega)
    rw [ht, List.getElem?_eq_getElem hq] at e
    rw [← Array.getElem?_toList, ← e]
    rfl
end Go.Proofs.YtgldcchleoklcaaGreatDoor
