
/- Stage 18: which bindings have come, in a range over the table. -/
import Derived.Test.YtmanfakdbmlfeaaDoorRMap2
namespace Go.Proofs.YtmanfakdbmlfeaaDoor
open Go.RowKit Go.Maps
set_option linter.unusedVariables false
set_option linter.unusedSimpArgs false
/-- those that have come -/
def come (L : List Bd) (left : Lit → Bool) : List Bd := L.filter fun b => !left (.string (kb b).data.toList)
theorem come_done {L : List Bd} {left : Lit → Bool} (h : ∀ k : Bd, left (.string (kb k).data.toList) = false) : come L left = L := by
  unfold come
  exact List.filter_eq_self.2 (fun p _ => by simp [h])
theorem come_start {L : List Bd} {D : DataW Value} (h0 : ∀ x, x ∈ L → okB x) (hR : Rp unV D (tb L)) : come L (Maps.has D) = [] := by
  unfold come
  rw [List.filter_eq_nil_iff]
  intro p hp
  rw [hR.has, tb_any h0 (h0 p hp), hasB_iff.2 hp]
  simp
theorem come_step : ∀ {L : List Bd}, L.Nodup → (∀ x, x ∈ L → okB x) → ∀ {left : Lit → Bool} {x : Bd}, x ∈ L → left (.string (kb x).data.toList) = true →
    (come L (fun z => left z && !z.sameKey (.string (kb x).data.toList))).Perm (come L left ++ [x])
  | [], _, _, _, _, hm, _ => by cases hm
  | y :: t, hn, h0, left, x, hm, hl => by
    have hn' := List.nodup_cons.1 hn
    have hx0 := h0 x hm
    have ht0 : ∀ z, z ∈ t → okB z := fun z hz => h0 z (List.mem_cons_of_mem _ hz)
    have same : ∀ q, okB q → ((Lit.string (kb q).data.toList).sameKey (.string (kb x).data.toList)) = decide (q = x) := fun q hq => by
      rw [lit_same, Bool.eq_iff_iff, decide_eq_true_eq, decide_eq_true_eq]
      exact ⟨fun e => kb_inj hq hx0 e, fun e => by rw [e]⟩
    unfold come
    rcases List.mem_cons.1 hm with e | hm'
    · subst e
      have ht : (t.filter fun q => !(left (.string (kb q).data.toList) && !(Lit.string (kb q).data.toList).sameKey (.string (kb x).data.toList))) = t.filter fun q => !left (.string (kb q).data.toList) := by
        refine List.filter_congr fun q hq => ?_
        have hne : q ≠ x := fun e => hn'.1 (by rw [← e]; exact hq)
        rw [same q (ht0 q hq)]
        simp [hne]
      rw [List.filter_cons_of_pos (by show (!(left _ && !_)) = true; rw [same x hx0]; simp), List.filter_cons_of_neg (by simp [hl]), ht]
      exact (List.perm_append_singleton _ _).symm
    · have hne : y ≠ x := fun e => hn'.1 (by rw [e]; exact hm')
      have ih := come_step hn'.2 ht0 hm' hl
      unfold come at ih
      have sy := same y (h0 y (List.mem_cons_self ..))
      by_cases hy : left (.string (kb y).data.toList) = true
      · rw [List.filter_cons_of_neg (by show ¬ (!(left _ && !_)) = true; rw [sy]; simp [hy, hne]), List.filter_cons_of_neg (by simp [hy])]
        exact ih
      · rw [List.filter_cons_of_pos (by simp [hy]), List.filter_cons_of_pos (by simp [hy]), List.cons_append]
        exact ih.cons y
/-- the queues of those whose pattern fits -/
def qof (t : ByteArray) (l : List Bd) : List ByteArray := (l.filter fun b => fitP (pcs b.1) (pcs t)).map (·.2)
theorem qof_step_yes {t : ByteArray} {l : List Bd} {x : Bd} (h : fitP (pcs x.1) (pcs t) = true) : qof t (l ++ [x]) = qof t l ++ [x.2] := by simp [qof, h]
theorem qof_step_no {t : ByteArray} {l : List Bd} {x : Bd} (h : fitP (pcs x.1) (pcs t) = false) : qof t (l ++ [x]) = qof t l := by simp [qof, h]
theorem qof_perm {t : ByteArray} {l l' : List Bd} (h : l.Perm l') : (qof t l).Perm (qof t l') := (h.filter _).map _
theorem qof_len (t : ByteArray) (l : List Bd) : (qof t l).length ≤ l.length := by
  unfold qof
  rw [List.length_map]
  exact List.length_filter_le _ _
theorem come_len (L : List Bd) (left : Lit → Bool) : (come L left).length ≤ L.length := List.length_filter_le _ _
end Go.Proofs.YtmanfakdbmlfeaaDoor
