/- VOver -/
import Derived.Test.YtgldcchleoklcaaGreatDoorK44
import Derived.Test.YtgldcchleoklcaaGreatDoorK18
namespace Go.Proofs.YtgldcchleoklcaaGreatDoor

open Go.RowKit
set_option linter.unusedVariables false
set_option linter.unusedSimpArgs false

theorem put5_set {w : World} {b : Nat} {l : List V} {y : V} {t : TypeId} {m j : Nat} (h : Blk w b t m) (hr : Row w b 0 l) (hj : j < l.length) (hm : l.length * 5 ≤ m) : Row (put5 w b (j * 5) y) b 0 (l.set j y) := by
  intro i hi
  have hi' : i < l.length := by simpa using hi
  by_cases h1 : i = j
  · subst h1
    rw [List.getElem_set_self]
    simp only [Nat.zero_add]
    have hm5 : i * 5 + 5 ≤ m := by omega
    exact ⟨put5_cell h hm5 0 (by omega), put5_cell h hm5 1 (by omega), put5_cell h hm5 2 (by omega), put5_cell h hm5 3 (by omega), put5_cell h hm5 4 (by omega)⟩
  · rw [List.getElem_set_ne (by omega)]
    obtain ⟨h0, h2, h3, h4, h5⟩ := hr i hi'
    have hs : ∀ q, q < 5 → (put5 w b (j * 5) y).cell? ⟨b, 0 + i * 5 + q, none⟩ = w.cell? ⟨b, 0 + i * 5 + q, none⟩ := fun q hq =>
      World.cell?_setCells_out b (words y) _ w _ (fun _ _ => by simp [words]; omega)
    exact ⟨(hs 0 (by omega)).trans h0, (hs 1 (by omega)).trans h2, (hs 2 (by omega)).trans h3, (hs 3 (by omega)).trans h4, (hs 4 (by omega)).trans h5⟩

/-- how far Over has come -/
structure OverSoFar (l m : List V) (g : Nat → Nat) (b lo hi j : Nat) (w wr : World) (lr : List V) : Prop where
  turns : Turns lo hi w wr
  blk : Blk wr b 42 ((l.length + 3) * 5)
  len : lr.length = l.length
  row : Row wr b 0 (lr ++ marks l.length)
  lent : ∀ i (h : i < lr.length), Lent wr lr[i] (g i) (g (i + 1))
  done : ∀ i (h : i < lr.length) (h' : i < m.length), i < j → lr[i].t = m[i].t
  rest : ∀ i (h : i < lr.length) (h' : i < l.length), j ≤ i → lr[i] = l[i]

theorem OverSoFar.next {l m : List V} {g : Nat → Nat} {b lo hi j : Nat} {w wr w1 : World} {lr : List V} {z : V} (h : OverSoFar l m g b lo hi j w wr lr) (hg : ∀ i (h : i < l.length), Lent w l[i] (g i) (g (i + 1))) (h0 : b < g 0) (hgh : g l.length ≤ hi) (hlo : lo ≤ b) (hhi : hi ≤ w.heap.size) (hj : j < l.length) (hjm : j < m.length)
    (h1 : Turns (g j) (g (j + 1)) wr w1) (hz : Lent w1 z (g j) (g (j + 1))) (hzt : z.t = m[j].t) : OverSoFar l m g b lo hi (j + 1) w (put5 w1 b (j * 5) z) (lr.set j z) := by
  have hm := g_mono hg
  have hsz := h.turns.size
  have hlen := h.len
  have gj := hm j (by omega) 0 (by omega)
  have gj1 := hm l.length (Nat.le_refl _) (j + 1) (by omega)
  have gr := (hg j hj).rise
  have hb : b < hi := by omega
  have hw1 : Turns lo hi wr w1 := h1.wide (by omega) (by omega)
  have hk1 : Blk w1 b 42 ((l.length + 3) * 5) := by
    obtain ⟨cs, q1, q2⟩ := h.blk
    exact ⟨cs, (h1.block b (by omega) (by omega)).trans q1, q2⟩
  have hr1 : Row w1 b 0 (lr ++ marks l.length) := h.row.same (h1.same (by omega) (by omega))
  refine ⟨(h.turns.trans hw1).put5 hlo hb _ _, put5_blk hk1 _ _, by simp [hlen], ?_, fun i hi' => ?_, fun i hi' hm' hij => ?_, fun i hi' hl' hij => ?_⟩
  · have := put5_set (y := z) hk1 hr1 (j := j) (by rw [List.length_append]; omega) (by simp [marks, hlen])
    rwa [List.set_append_left _ _ (by omega)] at this
  · have hi2 : i < lr.length := by simpa using hi'
    have keep : ∀ (v : V) lo' hi'', b < lo' → Lent w1 v lo' hi'' → Lent (put5 w1 b (j * 5) z) v lo' hi'' := fun v lo' hi'' q hv => hv.keep (fun b' o q1 q2 q3 => by rw [heap_put5 _ _ _ _ _ (by omega)]; exact q3)
    by_cases e : i = j
    · subst e
      rw [List.getElem_set_self]
      exact keep _ _ _ (by omega) hz
    · rw [List.getElem_set_ne (by omega)]
      have gi := hm i (by omega) 0 (by omega)
      have gi1 := hm l.length (Nat.le_refl _) (i + 1) (by omega)
      refine keep _ _ _ (by omega) ((h.lent i hi2).keep (fun b' o q1 q2 q3 => (h1.block b' (by omega) ?_).trans q3))
      by_cases lt : i < j
      · have := hm j (by omega) (i + 1) (by omega)
        omega
      · have := hm i (by omega) (j + 1) (by omega)
        omega
  · have hi2 : i < lr.length := by simpa using hi'
    by_cases e : i = j
    · subst e
      rw [List.getElem_set_self]
      exact hzt
    · rw [List.getElem_set_ne (by omega)]
      exact h.done i hi2 hm' (by omega)
  · have hi2 : i < lr.length := by simpa using hi'
    rw [List.getElem_set_ne (by omega)]
    exact h.rest i hi2 hl' (by omega)
theorem OverSoFar.alloc {l m : List V} {g : Nat → Nat} {b lo hi j : Nat} {w wr : World} {lr : List V} (h : OverSoFar l m g b lo hi j w wr lr) (o : Obj) : OverSoFar l m g b lo hi j w (wr.alloc o) lr := by
  have hb := bel1 (Below.refl wr.heap.size wr) (Nat.le_refl _) o
  exact ⟨h.turns.trans (Turns.of_below hb), h.blk.below hb h.blk.lt, h.len, h.row.below hb h.blk.lt, fun i hi => (h.lent i hi).keep (fun b' o' _ _ q => (hb.block b' (Array.getElem?_eq_some_iff.1 q).1).trans q), h.done, h.rest⟩
theorem Lent.ok {W : World} {k n : Int} {s : ByteArray} {a : Option Addr} {c : Nat} {e : Int} {l : List V} {lo hi : Nat} (h : Lent W (V.of k n s a c e l) lo hi) : Ok k n s c e l.length := by
  obtain ⟨b, q1, q2, q3, q4, _⟩ := (Lent.iff _ _ _ _ _ _ _ _ _ _).1 h
  exact q4
end Go.Proofs.YtgldcchleoklcaaGreatDoor
namespace Go.Proofs.YtgldcchleoklcaaGreatDoor

open Go.RowKit
set_option linter.unusedVariables false
set_option linter.unusedSimpArgs false

end Go.Proofs.YtgldcchleoklcaaGreatDoor
