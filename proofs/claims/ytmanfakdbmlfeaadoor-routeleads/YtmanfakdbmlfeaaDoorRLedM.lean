
/- RouteLeads: rows of bindings, read. -/
import Derived.Test.YtmanfakdbmlfeaaDoorRHas
namespace Go.Proofs.YtmanfakdbmlfeaaDoor
open Go.RowKit Go.Maps
set_option linter.unusedVariables false
set_option linter.unusedSimpArgs false
/-- bindings at a place -/
def Bx (w : World) (g off : Nat) (l : List Bd) : Prop := g < w.heap.size ∧ ∀ (i : Nat) (x : Bd), l[i]? = some x → w.cell? ⟨g, off + i * 2, none⟩ = some (.string x.1) ∧ w.cell? ⟨g, off + i * 2 + 1, none⟩ = some (.string x.2)
theorem bk_get : ∀ (l : List Bd) (i : Nat) (x : Bd), l[i]? = some x → (l.flatMap BK.enc)[i * 2]? = some (.string x.1) ∧ (l.flatMap BK.enc)[i * 2 + 1]? = some (.string x.2)
  | [], i, x, h => by simp at h
  | y :: l, 0, x, h => by
    simp at h
    subst h
    rw [List.flatMap_cons]
    exact ⟨rfl, rfl⟩
  | y :: l, i + 1, x, h => by
    have e := bk_get l i x (by simpa using h)
    rw [List.flatMap_cons]
    have hl : (BK.enc y).length = 2 := rfl
    rw [List.getElem?_append_right (by rw [hl]; omega), List.getElem?_append_right (by rw [hl]; omega), hl, show (i + 1) * 2 - 2 = i * 2 by omega, show (i + 1) * 2 + 1 - 2 = i * 2 + 1 by omega]
    exact e
theorem Wy.tlB {w : World} {base : Nat} {v : Value} {W : List Bd} (h : Wy BK w base v W) (hn : W ≠ []) : ∃ g off c, v = .slice (some ⟨g, off, none⟩) W.length c ∧ W.length ≤ c ∧ c ≤ maxLen ∧ base ≤ g ∧ Bx w g off W := by
  rcases h with ⟨_, e⟩ | ⟨g, off, cap, cur, rfl, h1, h2, h3, h4, h5, h6⟩
  · exact absurd e hn
  · refine ⟨g, off, cap, rfl, h2, h3, h1, (Array.getElem?_eq_some_iff.1 h4).1, fun i x hx => ?_⟩
    have e := bk_get W i x hx
    exact ⟨h6 _ _ e.1, by rw [Nat.add_assoc]; exact h6 _ _ e.2⟩
theorem Bx.keep {w w' : World} {g off : Nat} {l : List Bd} (h : Bx w g off l) {B : Nat} (hb : Below B w w') (hB : g < B) : Bx w' g off l :=
  ⟨Nat.lt_of_lt_of_le h.1 hb.size, fun i x hx => ⟨(World.cell?_of_block (a := ⟨g, off + i * 2, none⟩) (hb.block g hB)).trans (h.2 i x hx).1, (World.cell?_of_block (a := ⟨g, off + i * 2 + 1, none⟩) (hb.block g hB)).trans (h.2 i x hx).2⟩⟩
end Go.Proofs.YtmanfakdbmlfeaaDoor
