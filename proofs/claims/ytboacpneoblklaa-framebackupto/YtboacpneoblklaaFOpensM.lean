/- FrameOpens: frames that came out, in a row. -/
import Derived.Test.YtboacpneoblklaaFAwake
import Derived.Test.YtboacpneoblklaaFSame
import Derived.Test.YtboacpneoblklaaFBook
import Derived.Test.YtboacpneoblklaaFCopy
namespace Go.Proofs.Ytboacpneoblklaa
open Go.RowKit Go.Deep
set_option linter.unusedVariables false
set_option linter.unusedSimpArgs false

theorem Try.infoF : (Try.prog.info? 24).map (fun i => (i.zero, i.size, i.bytes)) = some (some (.agg #[.int .i64 0, .int .i64 0, .slice none 0 0, .slice none 0 0]), 4, 64) := by kernel_rfl
/-- one more list, in a world that holds it already -/
theorem Ents.add {w : World} {B : Nat} {es : List (Option Nat × List Nat)} (h : Ents w B es) {e : Option Nat × List Nat} (he : e.1 = none → e.2 = []) (hl : ∀ c ∈ e.2, c < 256) (hg : ∀ g, e.1 = some g → B ≤ g ∧ Bl w g e.2 ∧ ∀ j (hj : j < es.length) g', es[j].1 = some g' → g' < g) : Ents w B (es ++ [e]) := fun j hj => by
  by_cases hlt : j < es.length
  · rw [List.getElem_append_left hlt]
    obtain ⟨h1, h2, h3⟩ := h j hlt
    refine ⟨h1, h2, fun g hgj => ?_⟩
    obtain ⟨h4, h5, h6⟩ := h3 g hgj
    refine ⟨h4, h5, fun k hk hjk g' hg' => ?_⟩
    by_cases hkl : k < es.length
    · rw [List.getElem_append_left hkl] at hg'
      exact h6 k hkl hjk g' hg'
    · have he' : k = es.length := by simp at hk; omega
      subst he'
      rw [List.getElem_append_right (Nat.le_refl _)] at hg'
      simp at hg'
      exact (hg g' hg').2.2 j hlt g hgj
  · have he' : j = es.length := by simp at hj; omega
    subst he'
    rw [List.getElem_append_right (Nat.le_refl _)]
    simp only [Nat.sub_self, List.getElem_cons_zero]
    refine ⟨he, hl, fun g hgj => ⟨(hg g hgj).1, (hg g hgj).2.1, fun k hk hjk => ?_⟩⟩
    simp at hk
    omega
theorem Ents.top {w : World} {B : Nat} {es : List (Option Nat × List Nat)} (h : Ents w B es) {j : Nat} (hj : j < es.length) {g : Nat} (hg : es[j].1 = some g) : g < w.heap.size := ((h j hj).2.2 g hg).2.1.lt
/-- the two lists of a frame that came out -/
theorem Ents.two {w w' : World} {B : Nat} {es : List (Option Nat × List Nat)} (h : Ents w B es) (hb : Below w.heap.size w w') (hB : B ≤ w.heap.size) {o1 o2 : Option Nat} {X Y : List Nat} (h1 : o1 = none → X = []) (h2 : o2 = none → Y = []) (hX : ∀ c ∈ X, c < 256) (hY : ∀ c ∈ Y, c < 256) (g1 : ∀ g, o1 = some g → w.heap.size ≤ g ∧ Bl w' g X) (g2 : ∀ g, o2 = some g → w.heap.size ≤ g ∧ Bl w' g Y) (g3 : ∀ g g', o1 = some g → o2 = some g' → g < g') : Ents w' B (es ++ [(o1, X), (o2, Y)]) := by
  have e1 : Ents w' B (es ++ [(o1, X)]) := h.snoc hb hB h1 hX g1
  have e2 := e1.add (e := (o2, Y)) h2 hY (fun g hg => ?_)
  · rw [List.append_assoc] at e2
    exact e2
  · refine ⟨by have := (g2 g hg).1; omega, (g2 g hg).2, fun j hj g' hg' => ?_⟩
    by_cases hlt : j < es.length
    · rw [List.getElem_append_left hlt] at hg'
      have := h.top hlt hg'
      have := (g2 g hg).1
      omega
    · have he' : j = es.length := by simp at hj; omega
      subst he'
      rw [List.getElem_append_right (Nat.le_refl _)] at hg'
      simp at hg'
      exact g3 g' g hg' hg
/-- a frame's four words -/
def gcell (l : List Nat) (most : Int) (t : Int × Option Nat × Option Nat) : List Value :=
  [.int .i64 (opK l t.1 most), .int .i64 (opC l t.1 most), .slice (t.2.1.map (fun g => (⟨g, 0, none⟩ : Addr))) (opX l t.1 most).length (opX l t.1 most).length, .slice (t.2.2.map (fun g => (⟨g, 0, none⟩ : Addr))) (opY l t.1 most).length (opY l t.1 most).length]
def gflat (l : List Nat) (most : Int) (G : List (Int × Option Nat × Option Nat)) : List Value := G.flatMap (gcell l most)
def gents (l : List Nat) (most : Int) (G : List (Int × Option Nat × Option Nat)) : List (Option Nat × List Nat) := G.flatMap (fun t => [(t.2.1, opX l t.1 most), (t.2.2, opY l t.1 most)])
theorem gflat_snoc (l : List Nat) (most : Int) (G : List (Int × Option Nat × Option Nat)) (t : Int × Option Nat × Option Nat) : gflat l most (G ++ [t]) = gflat l most G ++ gcell l most t := by simp [gflat]
theorem gents_snoc (l : List Nat) (most : Int) (G : List (Int × Option Nat × Option Nat)) (t : Int × Option Nat × Option Nat) : gents l most (G ++ [t]) = gents l most G ++ [(t.2.1, opX l t.1 most), (t.2.2, opY l t.1 most)] := by simp [gents]
theorem gflat_length (l : List Nat) (most : Int) (G : List (Int × Option Nat × Option Nat)) : (gflat l most G).length = G.length * 4 := by
  induction G with
  | nil => rfl
  | cons t G ih => simp only [gflat, List.flatMap_cons, List.length_append, List.length_cons] at *; rw [ih]; simp [gcell]; omega
theorem gents_length (l : List Nat) (most : Int) (G : List (Int × Option Nat × Option Nat)) : (gents l most G).length = G.length * 2 := by
  induction G with
  | nil => rfl
  | cons t G ih => simp only [gents, List.flatMap_cons, List.length_append, List.length_cons] at *; rw [ih]; simp; omega
theorem gflat_at (l : List Nat) (most : Int) : ∀ (G : List (Int × Option Nat × Option Nat)) (j : Nat) (hj : j < G.length) (c : Nat), c < 4 → (gflat l most G)[j * 4 + c]? = (gcell l most G[j])[c]?
  | [], j, hj, _, _ => by simp at hj
  | t :: G, 0, _, c, hc => by
    simp only [gflat, List.flatMap_cons, Nat.zero_mul, Nat.zero_add, List.getElem_cons_zero]
    rw [List.getElem?_append_left (by simp [gcell]; omega)]
  | t :: G, j + 1, hj, c, hc => by
    have ih := gflat_at l most G j (by simpa using hj) c hc
    simp only [gflat, List.flatMap_cons, List.getElem_cons_succ] at *
    rw [List.getElem?_append_right (by simp [gcell]; omega), show (j + 1) * 4 + c - (gcell l most t).length = j * 4 + c by simp [gcell]; omega, ih]
theorem ownsRow_below4 {w w' : World} {B n s : Nat} {t : TypeId} {v : Value} {xs : List Value} (h : w.ownsRow B t s v n xs) (hb : Below w.heap.size w w') : w'.ownsRow B t s v n xs := by
  refine ⟨h.1, ?_⟩
  rcases h.2 with hn | ⟨g, cap, cur, hv, hbg, hg, rest⟩
  · exact .inl hn
  · exact .inr ⟨g, cap, cur, hv, hbg, (hb.block g (Array.getElem?_eq_some_iff.1 hg).1).trans hg, rest⟩
/-- blocks of another type stay when a row grows -/
theorem grown_keep {w w' : World} {B n s : Nat} {t : TypeId} {v : Value} {xs : List Value} (h : w.ownsRow B t s v n xs) (hg : w.grownBy w' v.ownBlock) (g : Nat) (cs : Array Value) (t' : TypeId) (fz : Nat × Nat) (ht : t' ≠ t) (hb : w.heap[g]? = some (.cells cs t' fz)) : w'.heap[g]? = some (.cells cs t' fz) := by
  rw [hg.block g (Array.getElem?_eq_some_iff.1 hb).1 (fun e => by
    rcases h.2 with ⟨rfl, _⟩ | ⟨g2, cap, cur2, rfl, _, hgg, _⟩
    · cases e
    · simp only [Value.ownBlock, Option.some.injEq] at e
      subst e
      rw [hb] at hgg
      simp only [Option.some.injEq, Obj.cells.injEq] at hgg
      exact ht hgg.2.1)]
  exact hb
end Go.Proofs.Ytboacpneoblklaa
