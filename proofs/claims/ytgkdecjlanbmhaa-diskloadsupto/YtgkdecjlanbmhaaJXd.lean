
/- Stages 19, 20: the document's disk: fall. -/
import Derived.Test.YtgkdecjlanbmhaaJXc
namespace Go.Proofs.Ytgkdecjlanbmhaa
open Go.RowKit Go.Maps Go.MuLone
set_option linter.unusedVariables false
set_option linter.unusedSimpArgs false
theorem flat_get : ∀ (l : List Fo) (i q : Nat), q < 3 → (l.flatMap fEnc)[i * 3 + q]? = (l[i]?).bind (fun o => (fEnc o)[q]?)
  | [], i, q, _ => by simp
  | x :: l, 0, q, hq => by
    rw [List.flatMap_cons, Nat.zero_mul, Nat.zero_add, List.getElem?_append_left (by simp [fEnc]; omega)]
    rfl
  | x :: l, i + 1, q, hq => by
    rw [List.flatMap_cons, List.getElem?_append_right (by simp [fEnc]; omega)]
    have e : (i + 1) * 3 + q - (fEnc x).length = i * 3 + q := by simp [fEnc]; omega
    rw [e, flat_get l i q hq]
    rfl
/-- a cell of a row's element is written -/
theorem wy_set {w : World} {B g off n cap : Nat} {W : List Fo} (h : Wy FK w B (.slice (some ⟨g, off, none⟩) n cap) W) (i : Nat) (hi : i < W.length) (o' : Fo) (q : Nat) (u : Value) (hq : q < 3) (he : fEnc o' = (fEnc W[i]).set q u) :
    Wy FK (w.setCell ⟨g, off + i * 3 + q, none⟩ u) B (.slice (some ⟨g, off, none⟩) n cap) (W.set i o') := by
  rcases h with ⟨e, _⟩ | ⟨g', off', cap', cur, e, h1, h2, h3, h4, h5, h6⟩
  · simp at e
  · simp only [Value.slice.injEq, Option.some.injEq, Addr.mk.injEq, and_true] at e
    obtain ⟨⟨rfl, rfl⟩, rfl, rfl⟩ := e
    have h5' : off + cap * 3 ≤ cur.size := h5
    have hin : off + i * 3 + q < cur.size := by omega
    have hset := blk_set h4 (off + i * 3 + q) u
    refine .inr ⟨g, off, cap, _, by rw [List.length_set], h1, by rw [List.length_set]; exact h2, h3, hset, by simpa using h5, fun p v hv => ?_⟩
    have hcell : ∀ z y, (cur.setIfInBounds (off + i * 3 + q) u)[z]? = some y → (w.setCell ⟨g, off + i * 3 + q, none⟩ u).cell? ⟨g, z, none⟩ = some y := fun z y hy => cellOf hset z y hy
    have hold : ∀ z y, w.cell? ⟨g, z, none⟩ = some y → cur[z]? = some y := fun z y hy => by
      simpa [World.cell?, h4] using hy
    have hp : p = p / 3 * 3 + p % 3 := by omega
    have hm : p % 3 < 3 := Nat.mod_lt _ (by decide)
    have hv' : (List.flatMap fEnc (W.set i o'))[p / 3 * 3 + p % 3]? = some v := by rw [← hp]; exact hv
    rw [flat_get _ _ _ hm] at hv'
    obtain ⟨o, ho, hov⟩ := Option.bind_eq_some_iff.1 hv'
    refine hcell (off + p) v ?_
    have hne : p / 3 ≠ i ∨ p % 3 ≠ q → (List.flatMap fEnc W)[p]? = some v → (cur.setIfInBounds (off + i * 3 + q) u)[off + p]? = some v := fun hne hw => by
      rw [Array.getElem?_setIfInBounds_ne (by omega)]
      exact hold _ _ (h6 p v hw)
    by_cases hpi : p / 3 = i
    · rw [hpi, List.getElem?_set_self hi] at ho
      obtain rfl : o' = o := by simpa using ho
      rw [he] at hov
      by_cases hpq : p % 3 = q
      · rw [hpq, List.getElem?_set_self (by simp [fEnc]; omega)] at hov
        obtain rfl : u = v := by simpa using hov
        have : off + p = off + i * 3 + q := by omega
        rw [this, Array.getElem?_setIfInBounds_self_of_lt hin]
      · rw [List.getElem?_set_ne (by omega)] at hov
        refine hne (.inr hpq) ?_
        show (List.flatMap fEnc W)[p]? = some v
        rw [hp, flat_get _ _ _ hm, hpi, List.getElem?_eq_getElem hi]
        exact hov
    · rw [List.getElem?_set_ne (by omega)] at ho
      refine hne (.inl hpi) ?_
      show (List.flatMap fEnc W)[p]? = some v
      rw [hp, flat_get _ _ _ hm, ho]
      exact hov
section
variable {w w' : World} {B r : Nat} {lv : Value} {x : Dx} {W : List Fo}
/-- a file of the disk is changed in place -/
theorem RD.setF {g off n cap : Nat} (h : RD w B r (.slice (some ⟨g, off, none⟩) n cap) x W) (i : Nat) (hi : i < W.length) (o' : Fo) (q : Nat) (u : Value) (hq : q < 3) (he : fEnc o' = (fEnc W[i]).set q u) (hn : o'.1.1 = W[i].1.1) (hd : DB B w o'.2 o'.1.2.1) (hdr : ∀ z, o'.2.ownBlock = some z → z ≠ r ∧ z ≠ g) : RD (w.setCell ⟨g, off + i * 3 + q, none⟩ u) B r (.slice (some ⟨g, off, none⟩) n cap) x (W.set i o') := by
  obtain ⟨ac, ha, hb⟩ := h.blk
  have hgr : g ≠ r := fun e => h.nr (by rw [← e]; rfl)
  have ho : ∀ k, k ≠ g → (w.setCell ⟨g, off + i * 3 + q, none⟩ u).heap[k]? = w.heap[k]? := fun k hk => blk_set_other _ _ _ _ hk
  refine ⟨⟨ac, ha, (ho r (fun e => hgr e.symm)).trans hb⟩, h.lo, wy_set h.row i hi o' q u hq he, fun p hp => ?_, ?_⟩
  · have key : DB B w p.2 p.1.2.1 ∧ ∀ z, p.2.ownBlock = some z → z ≠ r ∧ z ≠ g := by
      rcases List.mem_or_eq_of_mem_set hp with hp | rfl
      · exact ⟨(h.dat p hp).1, fun z e => ⟨((h.dat p hp).2 z e).1, fun e2 => ((h.dat p hp).2 z e).2 (by rw [e2]; rfl)⟩⟩
      · exact ⟨hd, hdr⟩
    exact ⟨key.1.same (by simp) (fun z e => ho z (key.2 z e).2), fun z e => ⟨(key.2 z e).1, fun e2 => (key.2 z e).2 (by simpa [Value.ownBlock] using e2.symm)⟩⟩
  · have : (W.set i o').map (·.1.1.toList) = W.map (·.1.1.toList) := by
      rw [List.map_set, hn]
      apply List.ext_getElem?
      intro j
      by_cases hj : i = j
      · subst hj
        rw [List.getElem?_set_self (by simpa using hi), List.getElem?_map, List.getElem?_eq_getElem hi]
        rfl
      · rw [List.getElem?_set_ne hj]
    rw [this]
    exact h.srt
end
end Go.Proofs.Ytgkdecjlanbmhaa
