/- Lists that came out, in a book. -/
import Derived.Test.YtboacpneoblklaaFOwn
import Derived.Test.YtboacpneoblklaaFLent
namespace Go.Proofs.Ytboacpneoblklaa
open Go.RowKit Go.Deep
set_option linter.unusedVariables false
set_option linter.unusedSimpArgs false

/-- a list that came out: its block, its bytes -/
def ev (e : Option Nat × List Nat) : Value := .slice (e.1.map (fun g => ⟨g, 0, none⟩)) e.2.length e.2.length
def Ents (w : World) (B : Nat) (es : List (Option Nat × List Nat)) : Prop :=
  ∀ j (h : j < es.length), (es[j].1 = none → es[j].2 = []) ∧ (∀ c ∈ es[j].2, c < 256) ∧ ∀ g, es[j].1 = some g → B ≤ g ∧ Bl w g es[j].2 ∧ ∀ k (hk : k < es.length), j < k → ∀ g', es[k].1 = some g' → g < g'
theorem Ents.nil (w : World) (B : Nat) : Ents w B [] := fun j h => by simp at h
theorem Ents.keep {w w' : World} {B : Nat} {es : List (Option Nat × List Nat)} (h : Ents w B es) (hk : ∀ g l, B ≤ g → Bl w g l → Bl w' g l) : Ents w' B es := fun j hj => by
  obtain ⟨h1, h2, h3⟩ := h j hj
  refine ⟨h1, h2, fun g hg => ?_⟩
  obtain ⟨h4, h5, h6⟩ := h3 g hg
  exact ⟨h4, hk g _ h4 h5, h6⟩
theorem Ents.below {w w' : World} {B : Nat} {es : List (Option Nat × List Nat)} (h : Ents w B es) (hb : Below w.heap.size w w') : Ents w' B es := h.keep fun g l _ hl => hl.below hb hl.lt
theorem Ents.kp {w w' : World} {B G : Nat} {es : List (Option Nat × List Nat)} (h : Ents w B es) (hb : Kp (fun k => k = G) w w') (hG : ∀ j (hj : j < es.length) g, es[j].1 = some g → g ≠ G) : Ents w' B es := fun j hj => by
  obtain ⟨h1, h2, h3⟩ := h j hj
  refine ⟨h1, h2, fun g hg => ?_⟩
  obtain ⟨h4, h5, h6⟩ := h3 g hg
  exact ⟨h4, hb.bl h5 (hG j hj g hg), h6⟩
theorem Ents.snoc {w w' : World} {B : Nat} {es : List (Option Nat × List Nat)} (h : Ents w B es) (hb : Below w.heap.size w w') (hB : B ≤ w.heap.size) {e : Option Nat × List Nat} (he : e.1 = none → e.2 = []) (hl : ∀ c ∈ e.2, c < 256) (hg : ∀ g, e.1 = some g → w.heap.size ≤ g ∧ Bl w' g e.2) : Ents w' B (es ++ [e]) := fun j hj => by
  by_cases hlt : j < es.length
  · rw [List.getElem_append_left hlt]
    obtain ⟨h1, h2, h3⟩ := h j hlt
    refine ⟨h1, h2, fun g hgj => ?_⟩
    obtain ⟨h4, h5, h6⟩ := h3 g hgj
    refine ⟨h4, h5.below hb h5.lt, fun k hk hjk g' hg' => ?_⟩
    by_cases hkl : k < es.length
    · rw [List.getElem_append_left hkl] at hg'
      exact h6 k hkl hjk g' hg'
    · have he' : k = es.length := by simp at hk; omega
      subst he'
      rw [List.getElem_append_right (Nat.le_refl _)] at hg'
      simp at hg'
      have := (hg g' hg').1
      have := h5.lt
      omega
  · have he' : j = es.length := by simp at hj; omega
    subst he'
    rw [List.getElem_append_right (Nat.le_refl _)]
    simp only [Nat.sub_self, List.getElem_cons_zero]
    refine ⟨he, hl, fun g hgj => ⟨by have := (hg g hgj).1; omega, (hg g hgj).2, fun k hk hjk => ?_⟩⟩
    simp at hk
    omega
/-- blocks that are neither of lists nor of the book stay -/
theorem book_keep {w2 w3 : World} {B k pb : Nat} {v v' nv : Value} {xs : List Value} (hbk : Book w2 pb 31 v) (hown : w2.ownsRow B 22 1 v k xs)
    (r2 : (w2.alloc (.cells #[nv] 22)).grownBy w3 v.ownBlock) (g : Nat) (cs : Array Value) (t : TypeId) (fz : Nat × Nat) (ht : t ≠ 22) (ht2 : t ≠ 31) (hg : w2.heap[g]? = some (.cells cs t fz)) :
    (w3.setCell ⟨pb, 0, none⟩ v').heap[g]? = some (.cells cs t fz) := by
  have hlt := (Array.getElem?_eq_some_iff.1 hg).1
  have hba := hbk.alloc (.cells #[nv] 22)
  have hoa := hown.alloc (.cells #[nv] 22)
  have ha : (w2.alloc (.cells #[nv] 22)).heap[g]? = some (.cells cs t fz) := (heap_alloc_old w2 _ hlt).trans hg
  have h3 : w3.heap[g]? = some (.cells cs t fz) := by
    rw [r2.block g (by simp; omega) (fun e => by
      rcases hoa.2 with ⟨rfl, _⟩ | ⟨g2, cap, cur2, rfl, _, hgg, _⟩
      · cases e
      · simp only [Value.ownBlock, Option.some.injEq] at e
        subst e
        rw [ha] at hgg
        simp only [Option.some.injEq, Obj.cells.injEq] at hgg
        exact ht hgg.2.1)]
    exact ha
  have hne : pb ≠ g := fun e => by
    subst e
    unfold Book at hbk
    rw [hg] at hbk
    simp only [Option.some.injEq, Obj.cells.injEq] at hbk
    exact ht2 hbk.2.1
  rw [← h3]
  simp [World.setCell, Array.getElem?_modify, hne]
/-- a list is put into the book -/
theorem book_step {w0 w2 w3 : World} {B k pb : Nat} {v v' nv : Value} {es : List (Option Nat × List Nat)} {xs : List Value} (hbk : Book w2 pb 31 v) (hown : w2.ownsRow B 22 1 v k xs) (hE : Ents w2 B es) (hb : Below B w0 w2) (hB : B ≤ w2.heap.size) (hpb : B ≤ pb)
    (r1 : w3.ownsRow B 22 1 v' (k + 1) (xs ++ [nv])) (r2 : (w2.alloc (.cells #[nv] 22)).grownBy w3 v.ownBlock) :
    Book (w3.setCell ⟨pb, 0, none⟩ v') pb 31 v' ∧ (w3.setCell ⟨pb, 0, none⟩ v').ownsRow B 22 1 v' (k + 1) (xs ++ [nv]) ∧ Ents (w3.setCell ⟨pb, 0, none⟩ v') B es ∧ Below B w0 (w3.setCell ⟨pb, 0, none⟩ v') ∧ w2.heap.size ≤ (w3.setCell ⟨pb, 0, none⟩ v').heap.size ∧ Book w3 pb 31 v := by
  have hba := hbk.alloc (.cells #[nv] 22)
  have hoa := hown.alloc (.cells #[nv] 22)
  have hne := own_ne_book hoa hba (by decide)
  have hb3 : Book w3 pb 31 v := hba.grown r2 hne
  have hne2 := own_ne_book r1 hb3 (by decide)
  refine ⟨hb3.set _, own_set r1 hne2 0 _, hE.keep (fun g l _ hl => book_keep hbk hown r2 g _ _ _ (by decide) (by decide) hl), below_setAt ((hb.alloc hB _).grown r2 (by simp; omega) (fun g hg => (hown.lt g hg).1)) hpb 0 _, ?_, hb3⟩
  have := r2.size
  simp at this ⊢
  omega
/-- what owned asks -/
theorem Ents.own {w : World} {B : Nat} {es : List (Option Nat × List Nat)} (h : Ents w B es) :
    OwnN w es.length (fun j => (es.getD j (none, [])).2.length) (fun j => (es.getD j (none, [])).1.getD 0) 0 0 ∧
    (∀ a b, a < es.length → b < es.length → 0 < (es.getD a (none, [])).2.length → 0 < (es.getD b (none, [])).2.length → (es.getD a (none, [])).1.getD 0 = (es.getD b (none, [])).1.getD 0 → a = b) ∧
    (∀ j, j < es.length → 0 < (es.getD j (none, [])).2.length → (es.getD j (none, [])).1.map (fun g => (⟨g, 0, none⟩ : Addr)) = some ⟨(es.getD j (none, [])).1.getD 0, 0, none⟩) ∧
    (∀ k, InN es.length (fun j => (es.getD j (none, [])).2.length) (fun j => (es.getD j (none, [])).1.getD 0) k → B ≤ k ∧ ∃ l, Bl w k l) := by
  have key : ∀ j, j < es.length → 0 < (es.getD j (none, [])).2.length → ∃ g, (es.getD j (none, [])).1 = some g ∧ B ≤ g ∧ Bl w g (es.getD j (none, [])).2 ∧ ∀ k, k < es.length → j < k → ∀ g', (es.getD k (none, [])).1 = some g' → g < g' := fun j hj h0 => by
    have e : es.getD j (none, []) = es[j] := by simp [List.getD_eq_getElem?_getD, List.getElem?_eq_getElem hj]
    rw [e] at h0 ⊢
    obtain ⟨h1, h2, h3⟩ := h j hj
    cases hg : es[j].1 with
    | none => rw [h1 hg] at h0; simp at h0
    | some g =>
      obtain ⟨h4, h5, h6⟩ := h3 g hg
      refine ⟨g, rfl, h4, h5, fun k hk hjk g' hg' => ?_⟩
      have e2 : es.getD k (none, []) = es[k] := by simp [List.getD_eq_getElem?_getD, List.getElem?_eq_getElem hk]
      rw [e2] at hg'
      exact h6 k hk hjk g' hg'
  refine ⟨fun j hj hm => ?_, fun a b ha hb h1 h2 he => ?_, fun j hj h0 => ?_, fun k hk => ?_⟩
  · obtain ⟨g, hg, _, hbl, _⟩ := key j hj hm
    refine ⟨((es.getD j (none, [])).2.map byteV).toArray, ?_, by simp, fun q hq hor => by omega⟩
    simp only [hg, Option.getD_some]
    exact hbl
  · obtain ⟨g, hg, _, _, h3⟩ := key a ha h1
    obtain ⟨g', hg', _, _, h4⟩ := key b hb h2
    rw [hg, hg'] at he
    simp at he
    rcases Nat.lt_trichotomy a b with h | h | h
    · have := h3 b hb h g' hg'; omega
    · exact h
    · have := h4 a ha h g hg; omega
  · obtain ⟨g, hg, _⟩ := key j hj h0
    rw [hg]; rfl
  · obtain ⟨j, hj, h0, rfl⟩ := hk
    obtain ⟨g, hg, h1, h2, _⟩ := key j hj h0
    simp only [hg, Option.getD_some]
    exact ⟨h1, _, h2⟩
/-- owned says yes of a book of such lists -/
theorem owned_ents (pb B : Nat) (v : Value) (es : List (Option Nat × List Nat)) (w : World) (hbk : Book w pb 31 v) (hown : w.ownsRow B 22 1 v es.length (es.map ev)) (hE : Ents w B es) (h0 : 0 < es.length) (hN : es.length ≤ 100) (hs : ∀ j (h : j < es.length), es[j].2.length ≤ 1099511627776) :
    Calls Try.prog 13 #[.pointer (some ⟨pb, 0, none⟩)] w fun e w' => e = .returned (.bool true) ∧ Kp (fun k => B ≤ k) w w' := by
  obtain ⟨gl, cap, rfl, hbg, hglt⟩ := own_shape hown h0
  obtain ⟨o1, o2, o3, o4⟩ := hE.own
  have hcap : es.length ≤ cap := by
    rcases hown.2 with ⟨h, _⟩ | ⟨g, c, cur, h, _, _, hc, _⟩
    · simp at h
    · simp only [Value.slice.injEq] at h
      omega
  have hng : ∀ k, InN es.length (fun j => (es.getD j (none, [])).2.length) (fun j => (es.getD j (none, [])).1.getD 0) k → k ≠ pb ∧ k ≠ gl := fun k hk => by
    obtain ⟨_, l, hl⟩ := o4 k hk
    unfold Bl at hl
    constructor
    · rintro rfl
      unfold Book at hbk
      rw [hl] at hbk
      simp at hbk
    · rintro rfl
      rcases hown.2 with ⟨h, _⟩ | ⟨g, c, cur, h, _, hg, _⟩
      · simp at h
      · simp only [Value.slice.injEq, Option.some.injEq, Addr.mk.injEq, and_true] at h
        rw [← h.1, hl] at hg
        simp at hg
  refine (owned_any pb gl cap es.length _ (fun j => (es.getD j (none, [])).1.map (fun g => (⟨g, 0, none⟩ : Addr))) _ w hbk hcap (fun j hj => ?_) hglt ⟨fun h => (hng _ h).1 rfl, fun h => (hng _ h).2 rfl⟩ o2 o3 h0 hN (fun j hj => ?_) o1).mono ?_
  · have hc := hown.cellAt j (by simpa using hj)
    rw [List.getElem?_map, List.getElem?_eq_getElem hj] at hc
    rw [hc]
    simp [ev, List.getD_eq_getElem?_getD, List.getElem?_eq_getElem hj]
  · have e : es.getD j (none, []) = es[j] := by simp [List.getD_eq_getElem?_getD, List.getElem?_eq_getElem hj]
    simp only [e]
    exact hs j hj
  · rintro e w' ⟨h1, h2⟩
    exact ⟨h1, h2.mono fun k hk => (o4 k hk).1⟩
end Go.Proofs.Ytboacpneoblklaa
