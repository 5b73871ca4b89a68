
/- DiskLoads: the list that is lent, read and cleared. -/
import Derived.Test.YtgkdecjlanbmhaaDLdA
namespace Go.Proofs.Ytgkdecjlanbmhaa
open Go.RowKit Go.Maps Go.MuLone
set_option linter.unusedVariables false
set_option linter.unusedSimpArgs false
theorem flat_getX : ∀ (l : List Lf) (i q : Nat), q < 3 → (l.flatMap lEnc)[i * 3 + q]? = (l[i]?).bind (fun o => (lEnc o)[q]?)
  | [], i, q, _ => by simp
  | x :: l, 0, q, hq => by
    rw [List.flatMap_cons, Nat.zero_mul, Nat.zero_add, List.getElem?_append_left (by simp [lEnc]; omega)]
    rfl
  | x :: l, i + 1, q, hq => by
    rw [List.flatMap_cons, List.getElem?_append_right (by simp [lEnc]; omega)]
    have e : (i + 1) * 3 + q - (lEnc x).length = i * 3 + q := by simp [lEnc]; omega
    rw [e, flat_getX l i q hq]
    rfl
theorem wy_cellX {w : World} {B g off n cap : Nat} {W : List Lf} (h : Wy KX w B (.slice (some ⟨g, off, none⟩) n cap) W) (i q : Nat) (hi : i < W.length) (hq : q < 3) {v : Value} (hv : (lEnc W[i])[q]? = some v) : w.cell? ⟨g, off + (i * 3 + q), none⟩ = some v := by
  rcases h with ⟨e, _⟩ | ⟨g', off', cap', cur, e, h1, h2, h3, h4, h5, h6⟩
  · simp at e
  · simp only [Value.slice.injEq, Option.some.injEq, Addr.mk.injEq, and_true] at e
    obtain ⟨⟨rfl, rfl⟩, rfl, rfl⟩ := e
    refine h6 (i * 3 + q) v ?_
    show (List.flatMap lEnc W)[i * 3 + q]? = some v
    rw [flat_getX _ _ _ hq, List.getElem?_eq_getElem hi]
    exact hv
theorem wy_setX {w : World} {B g off n cap : Nat} {W : List Lf} (h : Wy KX w B (.slice (some ⟨g, off, none⟩) n cap) W) (i : Nat) (hi : i < W.length) (o' : Lf) (q : Nat) (u : Value) (hq : q < 3) (he : lEnc o' = (lEnc W[i]).set q u) :
    Wy KX (w.setCell ⟨g, off + i * 3 + q, none⟩ u) B (.slice (some ⟨g, off, none⟩) n cap) (W.set i o') := by
  rcases h with ⟨e, _⟩ | ⟨g', off', cap', cur, e, h1, h2, h3, h4, h5, h6⟩
  · simp at e
  · simp only [Value.slice.injEq, Option.some.injEq, Addr.mk.injEq, and_true] at e
    obtain ⟨⟨rfl, rfl⟩, rfl, rfl⟩ := e
    have h5' : off + cap * 3 ≤ cur.size := h5
    have hin : off + i * 3 + q < cur.size := by omega
    have hset := blk_set h4 (off + i * 3 + q) u
    refine .inr ⟨g, off, cap, _, by rw [List.length_set], h1, by rw [List.length_set]; exact h2, h3, hset, by simpa using h5, fun p v hv => ?_⟩
    have hcell : ∀ z y, (cur.setIfInBounds (off + i * 3 + q) u)[z]? = some y → (w.setCell ⟨g, off + i * 3 + q, none⟩ u).cell? ⟨g, z, none⟩ = some y := fun z y hy => cellOf hset z y hy
    have hold : ∀ z y, w.cell? ⟨g, z, none⟩ = some y → cur[z]? = some y := fun z y hy => by
      simpa [World.cell?, h4] using hy
    have hp : p = p / 3 * 3 + p % 3 := by omega
    have hm : p % 3 < 3 := Nat.mod_lt _ (by decide)
    have hv' : (List.flatMap lEnc (W.set i o'))[p / 3 * 3 + p % 3]? = some v := by rw [← hp]; exact hv
    rw [flat_getX _ _ _ hm] at hv'
    obtain ⟨o, ho, hov⟩ := Option.bind_eq_some_iff.1 hv'
    refine hcell (off + p) v ?_
    have hne : p / 3 ≠ i ∨ p % 3 ≠ q → (List.flatMap lEnc W)[p]? = some v → (cur.setIfInBounds (off + i * 3 + q) u)[off + p]? = some v := fun hne hw => by
      rw [Array.getElem?_setIfInBounds_ne (by omega)]
      exact hold _ _ (h6 p v hw)
    by_cases hpi : p / 3 = i
    · rw [hpi, List.getElem?_set_self hi] at ho
      obtain rfl : o' = o := by simpa using ho
      rw [he] at hov
      by_cases hpq : p % 3 = q
      · rw [hpq, List.getElem?_set_self (by simp [lEnc]; omega)] at hov
        obtain rfl : u = v := by simpa using hov
        have : off + p = off + i * 3 + q := by omega
        rw [this, Array.getElem?_setIfInBounds_self_of_lt hin]
      · rw [List.getElem?_set_ne (by omega)] at hov
        refine hne (.inr hpq) ?_
        show (List.flatMap lEnc W)[p]? = some v
        rw [hp, flat_getX _ _ _ hm, hpi, List.getElem?_eq_getElem hi]
        exact hov
    · rw [List.getElem?_set_ne (by omega)] at ho
      refine hne (.inl hpi) ?_
      show (List.flatMap lEnc W)[p]? = some v
      rw [hp, flat_getX _ _ _ hm, ho]
      exact hov
theorem wy_ltX {w : World} {B g off n cap : Nat} {W : List Lf} (h : Wy KX w B (.slice (some ⟨g, off, none⟩) n cap) W) : B ≤ g ∧ g < w.heap.size ∧ W.length ≤ cap ∧ cap ≤ maxLen := by
  have h1 := h.lt (k := g) rfl
  rcases h with ⟨e, _⟩ | ⟨g', off', cap', cur, e, _, h2, h3, _⟩
  · simp at e
  · simp only [Value.slice.injEq, Option.some.injEq, Addr.mk.injEq, and_true] at e
    obtain ⟨⟨rfl, rfl⟩, rfl, rfl⟩ := e
    exact ⟨h1.1, h1.2, h2, h3⟩
theorem LentV.rb {B : Nat} {w : World} {f : Lf} (h : LentV B w f) (hB : ∀ c ∈ f.2.1, c < 256) : Rb w f.2.2.2 f.2.1 := by
  obtain ⟨g, e, hrow, _, hlt⟩ := h
  rw [e]
  refine ⟨_, _, rfl, (fun h => by cases h), by omega, rfl, hB, fun h0 => ⟨g, 0, rfl, hlt, fun j hj => ?_⟩⟩
  have h1 := hrow.cell (show j < f.2.1.length + 9 by omega)
  rw [Nat.zero_add, h1]
  have e3 : (f.2.1 ++ lnM).getD j 0 = f.2.1.getD j 0 := by
    rw [List.getD_eq_getElem?_getD, List.getD_eq_getElem?_getD, List.getElem?_append_left hj]
  rw [e3]
  rfl
/-- what is lent, as a row that comes in -/
theorem lr_of {w : World} {B g off n cap : Nat} {M : List Lf} {b : Lf} (h : Wy KX w B (.slice (some ⟨g, off, none⟩) (n + 1) cap) (M ++ [b])) (hl : ∀ f ∈ M, LentV B w f) (hn : M.length = n) (hB : ∀ f ∈ M, ∀ c ∈ f.2.1, c < 256) : LR w (.slice (some ⟨g, off, none⟩) n cap) M :=
  ⟨⟨_, _, by rw [hn]⟩, fun i hi => by
    obtain ⟨q, e, _⟩ := hl M[i] (List.getElem_mem hi)
    have hi2 : i < (M ++ [b]).length := by rw [List.length_append]; omega
    have he : (M ++ [b])[i] = M[i] := List.getElem_append_left hi
    have key : ∀ q v, q < 3 → (lEnc M[i])[q]? = some v → w.cell? ⟨g, off + (i * 3 + q), none⟩ = some v := fun q v hq hv => wy_cellX h i q hi2 hq (by rw [he]; exact hv)
    have hc : lEnc M[i] = [.string M[i].1, .slice (some ⟨q, 0, none⟩) M[i].2.1.length (M[i].2.1.length + 9), .int .i64 M[i].2.2.1] := by
      unfold lEnc
      rw [e]
    exact ⟨g, off, cap, _, _, by rw [hn], (wy_ltX h).2.1, key 0 _ (by decide) (by rw [hc]; rfl), key 1 _ (by decide) (by rw [hc]; rfl), key 2 _ (by decide) (by rw [hc]; rfl), e⟩, fun f hf => (hl f hf).rb (hB f hf)⟩
theorem LR.lt256 {w : World} {v : Value} {L : List Lf} (h : LR w v L) : ∀ f ∈ L, ∀ c ∈ f.2.1, c < 256 := fun f hf c hc => by
  obtain ⟨a, cp, _, _, _, h3⟩ := h.dat f hf
  exact h3.2.1 c hc
theorem wy_cellB {w : World} {B g off n cap : Nat} {W : List Value} (h : Wy BX w B (.slice (some ⟨g, off, none⟩) n cap) W) (i : Nat) (hi : i < W.length) : w.cell? ⟨g, off + i, none⟩ = some (bxV W[i]) := by
  rcases h with ⟨e, _⟩ | ⟨g', off', cap', cur, e, h1, h2, h3, h4, h5, h6⟩
  · simp at e
  · simp only [Value.slice.injEq, Option.some.injEq, Addr.mk.injEq, and_true] at e
    obtain ⟨⟨rfl, rfl⟩, rfl, rfl⟩ := e
    refine h6 i _ ?_
    have key : ∀ (l : List Value) (i : Nat) (hi : i < l.length), (l.flatMap BX.enc)[i]? = some (bxV l[i]) := fun l => by
      induction l with
      | nil => intro i hi; cases hi
      | cons x l ih =>
        intro i hi
        rw [List.flatMap_cons]
        cases i with
        | zero => rfl
        | succ i =>
          have : (BX.enc x ++ l.flatMap BX.enc)[i + 1]? = (l.flatMap BX.enc)[i]? := rfl
          rw [this]
          exact ih i (by simpa using hi)
    exact key W i hi
end Go.Proofs.Ytgkdecjlanbmhaa
