import Derived.Test.YtondbhdlccpklaaQStateM9
import Derived.Test.YtondbhdlccpklaaQSameM9

/- SessionRanges: the mathematics. -/
namespace Go.Proofs.Ytondbhdlccpklaa
open Go.RowKit Go.Maps
set_option linter.unusedVariables false
set_option linter.unusedSimpArgs false

theorem mem_gsL {L : List (Int × Pd)} {f r e : Int} : e ∈ gsL L f r ↔ (∃ p ∈ L, gapZ f p.1 = e) ∧ 0 ≤ e ∧ e ≤ r := by
  unfold gsL
  rw [(srt_perm_self _).mem_iff]
  simp only [List.mem_filter, List.mem_map, gin, Bool.and_eq_true, decide_eq_true_eq]
theorem gsL_nodup {L : List (Int × Pd)} {f r : Int} (hn : (L.map (·.1)).Nodup) (hw : Words L) (hf : 0 ≤ f ∧ f ≤ 4294967295) : (gsL L f r).Nodup := by
  unfold gsL
  rw [(srt_perm_self _).nodup_iff]
  refine List.Nodup.sublist List.filter_sublist ?_
  rw [List.Nodup, List.pairwise_map]
  rw [List.Nodup, List.pairwise_map] at hn
  refine List.Pairwise.imp_of_mem ?_ hn
  intro a b ha hb hne he
  exact hne (gap_inj hf (hw a ha) (hw b hb) he)
theorem gsL_sorted (L : List (Int × Pd)) (f r : Int) : (gsL L f r).Pairwise (fun x y => x ≤ y) := srt_sorted _
theorem range_split {C : List (Int × Pd)} (hn : (C.map (·.1)).Nodup) (hw : Words C) {b one two : Int} (hb : 0 ≤ b ∧ b ≤ 4294967295) (h1 : 0 ≤ one ∧ one ≤ 1000000000) (h2 : 0 ≤ two ∧ two ≤ 1000000000) {mid last nx : Int} (hm : mid = (b + one) % 4294967296) (hl : last = (mid + 1 + two) % 4294967296) (hx : nx = (mid + 1) % 4294967296) :
    rangeL C b mid ++ rangeL C nx last = rangeL C b last := by
  have e1 : isW b = true := isW_iff.2 hb
  have e2 : isW mid = true := isW_iff.2 (by omega)
  have e3 : isW last = true := isW_iff.2 (by omega)
  have e4 : isW nx = true := isW_iff.2 (by omega)
  have g1 : gapZ b mid = one := by unfold gapZ; omega
  have g2 : gapZ nx last = two := by unfold gapZ; omega
  have g3 : gapZ b last = one + 1 + two := by unfold gapZ; omega
  unfold rangeL
  rw [e1, e2, e3, e4, Bool.and_self, if_pos rfl, if_pos rfl, if_pos rfl]
  unfold rgL
  rw [g1, g2, g3]
  have hk : gsL C b (one + 1 + two) = gsL C b one ++ (gsL C nx two).map (fun x => x + (one + 1)) := by
    apply sorted_eq (gsL_sorted _ _ _)
    · rw [List.pairwise_append]
      refine ⟨gsL_sorted _ _ _, ?_, ?_⟩
      · rw [List.pairwise_map]
        exact (gsL_sorted _ _ _).imp (fun h => by omega)
      · intro x hx y hy
        obtain ⟨z, hz, rfl⟩ := List.mem_map.1 hy
        have a1 := mem_gsL.1 hx
        have a2 := mem_gsL.1 hz
        omega
    · rw [List.perm_ext_iff_of_nodup (gsL_nodup hn hw hb)]
      · intro e
        rw [List.mem_append, List.mem_map, mem_gsL, mem_gsL]
        constructor
        · rintro ⟨⟨p, hp, he⟩, h3, h4⟩
          by_cases h : e ≤ one
          · exact .inl ⟨⟨p, hp, he⟩, h3, h⟩
          · refine .inr ⟨e - (one + 1), mem_gsL.2 ⟨⟨p, hp, ?_⟩, by omega, by omega⟩, by omega⟩
            have := hw p hp
            unfold gapZ at he ⊢
            omega
        · rintro (⟨⟨p, hp, he⟩, h3, h4⟩ | ⟨z, hz, rfl⟩)
          · exact ⟨⟨p, hp, he⟩, h3, by omega⟩
          · obtain ⟨⟨p, hp, he⟩, h3, h4⟩ := mem_gsL.1 hz
            refine ⟨⟨p, hp, ?_⟩, by omega, by omega⟩
            have := hw p hp
            unfold gapZ at he ⊢
            omega
      · rw [List.nodup_append]
        refine ⟨gsL_nodup hn hw hb, ?_, ?_⟩
        · rw [List.Nodup, List.pairwise_map]
          have := gsL_nodup (r := two) hn hw (show 0 ≤ nx ∧ nx ≤ 4294967295 by omega)
          rw [List.Nodup] at this
          exact this.imp (fun h => by omega)
        · intro x hx y hy e
          obtain ⟨z, hz, rfl⟩ := List.mem_map.1 hy
          have a1 := mem_gsL.1 hx
          have a2 := mem_gsL.1 hz
          omega
  rw [hk, List.map_append, List.map_map]
  congr 1
  apply List.map_congr_left
  intro z hz
  unfold thing
  simp only [Function.comp]
  congr 1
  omega
/-- every delivery lies at its own number -/
def Reg (C : List (Int × Pd)) : Prop := ∀ q ∈ C, q.2.1 = q.1
theorem gs_key {C : List (Int × Pd)} (hw : Words C) {b r e : Int} (hb : 0 ≤ b ∧ b ≤ 4294967295) (he : e ∈ gsL C b r) : hasK C ((b + e) % 4294967296) = true := by
  obtain ⟨⟨p, hp, hg⟩, _, _⟩ := mem_gsL.1 he
  rw [← hg, gap_add hb (hw p hp)]
  exact any_iff.2 (List.mem_map_of_mem hp)
theorem thing_id {C : List (Int × Pd)} (hw : Words C) (hr : Reg C) {b r e : Int} (hb : 0 ≤ b ∧ b ≤ 4294967295) (he : e ∈ gsL C b r) : (thing C b e).1 = (b + e) % 4294967296 := hr _ (lu_mem (d := pd0) (gs_key hw hb he))
/-- what is told when i of those that were told are forgotten -/
structure Fg (C : List (Int × Pd)) (A : List Pd) (i : Nat) (Ci : List (Int × Pd)) : Prop where
  sub : ∀ q ∈ Ci, q ∈ C
  nd : (Ci.map (·.1)).Nodup
  gone : ∀ j (hj : j < A.length), j < i → hasK Ci A[j].1 = false
  left : ∀ j (hj : j < A.length), i ≤ j → hasK Ci A[j].1 = true
  len : Ci.length + i = C.length
theorem hasK_filter {Ci : List (Int × Pd)} {id k : Int} : hasK (Ci.filter fun p => p.1 != id) k = (hasK Ci k && k != id) := by
  unfold hasK
  rw [Bool.eq_iff_iff, List.any_eq_true, Bool.and_eq_true, List.any_eq_true]
  constructor
  · rintro ⟨p, hp, he⟩
    rw [List.mem_filter] at hp
    simp at he hp
    exact ⟨⟨p, hp.1, by simp [he]⟩, by simp [← he, hp.2]⟩
  · rintro ⟨⟨p, hp, he⟩, hk⟩
    simp at he hk
    exact ⟨p, List.mem_filter.2 ⟨hp, by simp [he, hk]⟩, by simp [he]⟩
theorem filter_len {Ci : List (Int × Pd)} {id : Int} (hn : (Ci.map (·.1)).Nodup) (h : hasK Ci id = true) : (Ci.filter fun p => p.1 != id).length + 1 = Ci.length := by
  induction Ci with
  | nil => cases h
  | cons p t ih =>
    simp only [List.map_cons, List.nodup_cons] at hn
    by_cases e : p.1 = id
    · have : id ∉ t.map (·.1) := e ▸ hn.1
      rw [List.filter_cons_of_neg (by simp [e]), filter_none this]
      rfl
    · have h' : hasK t id = true := by
        unfold hasK at h ⊢
        rw [List.any_cons] at h
        simpa [e] using h
      rw [List.filter_cons_of_pos (by simp [e]), List.length_cons, List.length_cons, ih hn.2 h']
theorem Fg.step {C : List (Int × Pd)} {A : List Pd} {i : Nat} {Ci : List (Int × Pd)} (h : Fg C A i Ci) (hi : i < A.length) (hd : ∀ j k (hj : j < A.length) (hk : k < A.length), j ≠ k → A[j].1 ≠ A[k].1) : Fg C A (i + 1) (Ci.filter fun p => p.1 != A[i].1) := by
  refine ⟨fun q hq => h.sub q (List.mem_filter.1 hq).1, nodup_filter h.nd _, fun j hj hji => ?_, fun j hj hji => ?_, ?_⟩
  · rw [hasK_filter]
    by_cases e : j = i
    · subst e
      simp
    · rw [h.gone j hj (by omega)]
      rfl
  · rw [hasK_filter, h.left j hj (by omega)]
    simpa using hd j i hj hi (by omega)
  · have := filter_len h.nd (h.left i hi (Nat.le_refl _))
    have := h.len
    omega
theorem all_apart {C : List (Int × Pd)} (hn : (C.map (·.1)).Nodup) (hw : Words C) (hr : Reg C) {b r : Int} (hb : 0 ≤ b ∧ b ≤ 4294967295) (hr2 : r ≤ 2147483647) : ∀ j k (hj : j < ((gsL C b r).map (thing C b)).length) (hk : k < ((gsL C b r).map (thing C b)).length), j ≠ k → (((gsL C b r).map (thing C b))[j]).1 ≠ (((gsL C b r).map (thing C b))[k]).1 := by
  intro j k hj hk hne he
  rw [List.length_map] at hj hk
  rw [List.getElem_map, List.getElem_map, thing_id hw hr hb (List.getElem_mem hj), thing_id hw hr hb (List.getElem_mem hk)] at he
  have m1 := mem_gsL.1 (List.getElem_mem hj)
  have m2 := mem_gsL.1 (List.getElem_mem hk)
  have e : (gsL C b r)[j] = (gsL C b r)[k] := by omega
  exact hne ((List.getElem_inj (gsL_nodup hn hw hb)).1 e)
theorem Fg.start {C : List (Int × Pd)} (hn : (C.map (·.1)).Nodup) (hw : Words C) (hr : Reg C) {b last : Int} (hb : 0 ≤ b ∧ b ≤ 4294967295) : Fg C (rangeL C b last) 0 C := by
  refine ⟨fun q hq => hq, hn, fun j hj h => by omega, fun j hj _ => ?_, rfl⟩
  unfold rangeL at *
  split at hj
  · simp only [*, if_true]
    unfold rgL at *
    rw [List.length_map] at hj
    rw [List.getElem_map, thing_id hw hr hb (List.getElem_mem hj)]
    exact gs_key hw hb (List.getElem_mem hj)
  · simp at hj
theorem Fg.done {C : List (Int × Pd)} (hw : Words C) (hr : Reg C) {b last : Int} (hb : 0 ≤ b ∧ b ≤ 4294967295) (hl : 0 ≤ last ∧ last ≤ 4294967295) {Ci : List (Int × Pd)} (h : Fg C (rangeL C b last) (rangeL C b last).length Ci) : rangeL Ci b last = [] := by
  have e1 : isW b = true := isW_iff.2 hb
  have e2 : isW last = true := isW_iff.2 hl
  have hg := h.gone
  have eC : rangeL C b last = (gsL C b (gapZ b last)).map (thing C b) := by
    unfold rangeL rgL
    rw [e1, e2, Bool.and_self, if_pos rfl]
  unfold rangeL
  rw [e1, e2, Bool.and_self, if_pos rfl]
  unfold rgL
  rw [List.map_eq_nil_iff]
  rw [List.eq_nil_iff_forall_not_mem]
  intro e he
  obtain ⟨⟨p, hp, hpe⟩, h3, h4⟩ := mem_gsL.1 he
  have hm : e ∈ gsL C b (gapZ b last) := mem_gsL.2 ⟨⟨p, h.sub p hp, hpe⟩, h3, h4⟩
  obtain ⟨j, hj, hje⟩ := List.getElem_of_mem hm
  have hjl : j < (rangeL C b last).length := by rw [eC, List.length_map]; exact hj
  have h5 := hg j hjl hjl
  have h6 : ((rangeL C b last)[j]).1 = p.1 := by
    have : (rangeL C b last)[j] = thing C b e := by
      simp only [eC, List.getElem_map, hje]
    rw [this, thing_id hw hr hb hm, ← hpe, gap_add hb (hw p (h.sub p hp))]
  rw [h6] at h5
  have h7 : hasK Ci p.1 = true := any_iff.2 (List.mem_map_of_mem hp)
  rw [h5] at h7
  cases h7
theorem rangeL_len (C : List (Int × Pd)) (b last : Int) : (rangeL C b last).length ≤ C.length := by
  unfold rangeL
  split
  · unfold rgL
    rw [List.length_map]
    exact gsL_len _ _ _
  · exact Nat.zero_le _
theorem rangeL_nil (b last : Int) : rangeL [] b last = [] := List.length_eq_zero_iff.1 (Nat.le_zero.1 (rangeL_len [] b last))
end Go.Proofs.Ytondbhdlccpklaa
