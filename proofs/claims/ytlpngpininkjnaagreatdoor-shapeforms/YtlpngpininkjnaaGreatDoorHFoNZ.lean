import Derived.Test.YtlpngpininkjnaaGreatDoorHBkPZ
import Derived.Test.YtlpngpininkjnaaGreatDoorHFoDZ

/- Other forms of a composite say the same: no program. -/
namespace Go.Proofs.YtlpngpininkjnaaGreatDoor
open Go.RowKit
set_option linter.unusedVariables false
set_option linter.unusedSimpArgs false
/-- a kind's name is its descriptor too -/
theorem kind_name {k : Int} {fs : List FS} (h : ftab k = some fs) : kindL (leaf 20 0 (nameOf k)) krows = some k := by
  obtain ⟨r, hr, rfl⟩ := ftab_mem h
  obtain ⟨r', hr', hn, hk⟩ : ∃ r' ∈ krows, nameOf r.1 = r'.2.1 ∧ r'.1 = r.1 := by
    unfold nameOf
    cases hf : krows.find? (fun q => q.1 == r.1) with
    | none =>
      rw [List.find?_eq_none] at hf
      exact absurd (hf r hr) (by simp)
    | some q => exact ⟨q, List.mem_of_find?_eq_some hf, rfl, by simpa using List.find?_some hf⟩
  have hrow : isRow (leaf 20 0 (nameOf r.1)).t r' = true := by
    unfold isRow
    rw [← hn, eqT_refl, Bool.or_true]
  have hlt := leaf_t 20 0 (nameOf r.1)
  cases hkk : kindL (leaf 20 0 (nameOf r.1)) krows with
  | none =>
    have := kindL_none hkk r' hr'
    rw [← hlt] at this
    rw [hrow] at this
    cases this
  | some k' =>
    obtain ⟨r2, h1, h2, h3⟩ := kindL_some hkk
    rw [← hlt] at h3
    rw [← h2, ← row_once hr' h1 hrow h3, hk]
/-- a list that says fields: each as it was, a Null or its default where it is the default -/
def Says (fs : List FS) (ts L : List T) : Prop := L.length ≤ fs.length ∧ ∀ i (h1 : i < ts.length) (h2 : i < fs.length), (L[i]?).getD nul = ts[i] ∨ (fs[i].must = false ∧ ts[i] = fs[i].d ∧ ((L[i]?).getD nul = nul ∨ (L[i]?).getD nul = fs[i].d))
/-- the descriptor in either form -/
theorem says_unp {re : T → T × Int} {k : Int} {fs : List FS} {ts L : List T} {d : T} (hf : ftab k = some fs) (hd : kindL d.t krows = some k) (hl : ts.length = fs.length)
    (hfill : ∀ i (h1 : i < ts.length) (h2 : i < fs.length), fillT re fs[i] ts[i] = (ts[i], 0)) (hs : Says fs ts L) :
    unpT re (T.of 24 0 ⟨#[]⟩ 0 [d, T.of 21 0 ⟨#[]⟩ 0 L]) = ((k, ts), 0, 0) := by
  have hok := ftab_r hf
  have hk : kindV (T.of 24 0 ⟨#[]⟩ 0 [d, T.of 21 0 ⟨#[]⟩ 0 L]).k (T.of 24 0 ⟨#[]⟩ 0 [d, T.of 21 0 ⟨#[]⟩ 0 L]).l = some k := by
    show kindV 24 (V.l (V.of 24 0 ⟨#[]⟩ none 0 0 _)) = _
    rw [V.l_of, kindV_two]
    exact hd
  have hy : (((T.of 24 0 ⟨#[]⟩ 0 [d, T.of 21 0 ⟨#[]⟩ 0 L]).l)[1]?).getD nul = T.of 21 0 ⟨#[]⟩ 0 L := by
    show (((V.l (V.of 24 0 ⟨#[]⟩ none 0 0 _)))[1]?).getD nul = _
    rw [V.l_of]
    rfl
  unfold unpT
  rw [hk]
  simp only [hf]
  rw [hy]
  have hyl : V.l (T.of 21 0 ⟨#[]⟩ 0 L) = L := V.l_of _ _ _ _ _ _ _
  rw [hyl, if_neg (show ¬ V.k (T.of 21 0 ⟨#[]⟩ 0 _) ≠ 21 from fun h => h rfl), if_neg (by have := hs.1; omega)]
  have hrs : fillsT re fs L = ts.map fun t => (t, (0 : Int)) := by
    refine List.ext_getElem? fun i => ?_
    unfold fillsT
    rw [List.getElem?_mapIdx, List.getElem?_map]
    by_cases hi : i < ts.length
    · have hif : i < fs.length := by omega
      rw [List.getElem?_eq_getElem hi, List.getElem?_eq_getElem hif, Option.map_some, Option.map_some]
      congr 1
      rcases hs.2 i hi hif with e | ⟨hm, e1, e2 | e2⟩
      · rw [e]; exact hfill i hi hif
      · rw [e2, fill_nul re hm, e1]
      · rw [e2, fill_dflt re (hok _ (List.getElem_mem hif)) hm, e1]
    · rw [List.getElem?_eq_none (show fs.length ≤ i by omega), List.getElem?_eq_none (show ts.length ≤ i by omega)]
      rfl
  rw [hrs, rowT_good (fun j hj => by rw [List.getElem_map])]
  congr 2
  rw [List.map_map]
  conv => rhs; rw [← List.map_id ts]
  rfl
/-- what a field with a Null in it says -/
theorem null_says {re : T → T × Int} {f : FS} {t : T} (hfill : fillT re f t = (t, 0)) (hmust : f.must = true → t.k ≠ 0) (hk : t.k = 0) : f.must = false ∧ t = f.d := by
  have hm : f.must = false := by
    cases hm : f.must
    · rfl
    · exact absurd hk (hmust hm)
  refine ⟨hm, ?_⟩
  unfold fillT at hfill
  rw [if_pos hk, hm, if_neg (by simp)] at hfill
  exact (Prod.mk.inj hfill).1.symm
/-- Nulls at the end may be left out -/
theorem says_take {re : T → T × Int} {k : Int} {fs : List FS} {ts L : List T} (hg : Good re k fs ts) (hs : Says fs ts L) (m : Nat) (hz : ∀ i (h : i < L.length), m ≤ i → L[i].k = 0) : Says fs ts (L.take m) := by
  refine ⟨by rw [List.length_take]; have := hs.1; omega, fun i h1 h2 => ?_⟩
  by_cases hm : i < m
  · rw [List.getElem?_take_of_lt hm]
    exact hs.2 i h1 h2
  · rw [List.getElem?_eq_none (show (L.take m).length ≤ i by rw [List.length_take]; omega)]
    have hnull : ((L[i]?).getD nul).k = 0 := by
      by_cases hi : i < L.length
      · rw [List.getElem?_eq_getElem hi]
        exact hz i hi (by omega)
      · rw [List.getElem?_eq_none (by omega)]
        rfl
    refine .inr ?_
    rcases hs.2 i h1 h2 with e | ⟨q1, q2, _⟩
    · rw [e] at hnull
      obtain ⟨q1, q2⟩ := null_says (hg.2.2.1 i h1 h2) (hg.2.2.2.1 i h1 h2) hnull
      exact ⟨q1, q2, .inl rfl⟩
    · exact ⟨q1, q2, .inl rfl⟩
theorem longL_says {re : T → T × Int} {k : Int} {fs : List FS} {ts : List T} (hf : ftab k = some fs) (hg : Good re k fs ts) (raws : List Bool) : Says fs ts (longL fs ((outs ts (fs.map FS.d)).take (saidN ts (fs.map FS.d) ts.length)) raws) := by
  have hdl : (fs.map FS.d).length = ts.length := by rw [List.length_map, hg.1]
  have hol := outs_len ts (fs.map FS.d) hdl
  have hok := ftab_r hf
  refine ⟨by unfold longL; rw [List.length_mapIdx]; exact Nat.le_refl _, fun i h1 h2 => ?_⟩
  have hget : ((longL fs ((outs ts (fs.map FS.d)).take (saidN ts (fs.map FS.d) ts.length)) raws)[i]?).getD nul = if (raws[i]?).getD false = true ∧ (((((outs ts (fs.map FS.d)).take (saidN ts (fs.map FS.d) ts.length)))[i]?).getD nul).k = 0 then fs[i].d else ((((outs ts (fs.map FS.d)).take (saidN ts (fs.map FS.d) ts.length)))[i]?).getD nul := by
    unfold longL
    rw [List.getElem?_mapIdx, List.getElem?_eq_getElem h2]
    rfl
  rw [hget]
  have hdi : (fs.map FS.d)[i]'(by rw [List.length_map]; exact h2) = fs[i].d := List.getElem_map _
  have hdef : eqT ts[i].t ((fs.map FS.d)[i]'(by rw [List.length_map]; exact h2)).t = true → fs[i].must = false ∧ ts[i] = fs[i].d := fun he => by
    have e1 := eqT_yes he
    rw [(hg.2.1 _ (List.getElem_mem h1)).1, hdi, fs_d_t] at e1
    refine ⟨?_, e1⟩
    cases hm : fs[i].must
    · rfl
    · have h3 := hg.2.2.2.1 i h1 h2 hm
      have h4 := (okR_out (hok _ (List.getElem_mem h2))).2.1 hm
      rw [e1] at h3
      exact absurd h4 h3
  have hcase : (((((outs ts (fs.map FS.d)).take (saidN ts (fs.map FS.d) ts.length)))[i]?).getD nul = nul ∧ fs[i].must = false ∧ ts[i] = fs[i].d) ∨ (((((outs ts (fs.map FS.d)).take (saidN ts (fs.map FS.d) ts.length)))[i]?).getD nul = ts[i] ∧ eqT ts[i].t ((fs.map FS.d)[i]'(by rw [List.length_map]; exact h2)).t = false) := by
    by_cases hs : i < saidN ts (fs.map FS.d) ts.length
    · rw [List.getElem?_take_of_lt hs, outs_get ts (fs.map FS.d) i hdl h1]
      simp only [Option.getD_some]
      by_cases he : eqT ts[i].t ((fs.map FS.d)[i]'(by rw [List.length_map]; exact h2)).t = true
      · rw [if_pos he]
        exact .inl ⟨rfl, hdef he⟩
      · rw [if_neg he]
        exact .inr ⟨rfl, Bool.eq_false_iff.2 he⟩
    · rw [List.getElem?_eq_none (by rw [List.length_take, hol]; omega)]
      exact .inl ⟨rfl, hdef (saidN_ge ts (fs.map FS.d) hdl ts.length (Nat.le_refl _) i h1 (by omega) h1)⟩
  rcases hcase with ⟨e, hm, ht⟩ | ⟨e, hne⟩
  · rw [e]
    refine .inr ⟨hm, ht, ?_⟩
    split
    · exact .inr rfl
    · exact .inl rfl
  · rw [e]
    refine .inl ?_
    rw [if_neg]
    rintro ⟨_, hk⟩
    obtain ⟨_, e2⟩ := null_says (hg.2.2.1 i h1 h2) (hg.2.2.2.1 i h1 h2) hk
    rw [hdi, ← e2, eqT_refl] at hne
    cases hne
end Go.Proofs.YtlpngpininkjnaaGreatDoor


/- Other forms of a composite: they may be. -/
namespace Go.Proofs.YtlpngpininkjnaaGreatDoor
open Go.RowKit
set_option linter.unusedVariables false
set_option linter.unusedSimpArgs false
set_option maxRecDepth 100000 in
theorem names_right : krows.all (fun r => decide (faultT 1 (leaf 20 0 r.2.1) = 0)) = true := by kernel_rfl
theorem name_right {k : Int} {fs : List FS} (h : ftab k = some fs) : faultT 1 (leaf 20 0 (nameOf k)) = 0 := by
  obtain ⟨r, hr, rfl⟩ := ftab_mem h
  unfold nameOf
  cases hf : krows.find? (fun q => q.1 == r.1) with
  | none =>
    rw [List.find?_eq_none] at hf
    exact absurd (hf r hr) (by simp)
  | some q => exact of_decide_eq_true (List.all_eq_true.1 names_right q (List.mem_of_find?_eq_some hf))
/-- what is said is not deep -/
theorem said_dp {k : Int} {fs : List FS} (hf : ftab k = some fs) {ts : List T} (hl : ts.length = fs.length) (htt : ∀ t ∈ ts, t.t = t) (h : T.dp (laidT k ts) ≤ 32) : ∀ i (h1 : i < ts.length) (h2 : i < fs.length), ts[i] ≠ fs[i].d → T.dp ts[i] ≤ 30 := by
  intro i h1 h2 hne
  have hds : dsOf k = fs.map FS.d := by unfold dsOf; rw [hf]; rfl
  have hdl : (fs.map FS.d).length = ts.length := by rw [List.length_map, hl]
  have hol := outs_len ts (fs.map FS.d) hdl
  have hdi : (fs.map FS.d)[i]'(by rw [List.length_map]; exact h2) = fs[i].d := List.getElem_map _
  have hef : ¬ eqT ts[i].t ((fs.map FS.d)[i]'(by rw [List.length_map]; exact h2)).t = true := fun he => by
    have e1 := eqT_yes he
    rw [htt _ (List.getElem_mem h1), hdi, fs_d_t] at e1
    exact hne e1
  have hs : i < saidN ts (fs.map FS.d) ts.length := by
    refine Decidable.byContradiction fun hs => hef ?_
    exact saidN_ge ts (fs.map FS.d) hdl ts.length (Nat.le_refl _) i h1 (by omega) h1
  have hmem : ts[i] ∈ (outs ts (fs.map FS.d)).take (saidN ts (fs.map FS.d) ts.length) := by
    refine List.mem_of_getElem? (i := i) ?_
    rw [List.getElem?_take_of_lt hs, outs_get ts (fs.map FS.d) i hdl h1, if_neg hef]
  unfold laidT at h
  rw [hds] at h
  have e1 : T.dp (V.of 21 0 ⟨#[]⟩ none 0 0 ((outs ts (fs.map FS.d)).take (saidN ts (fs.map FS.d) ts.length))) + 1 ≤ T.dp (V.of 24 0 ⟨#[]⟩ none 0 0 [leaf 5 k ⟨#[]⟩, V.of 21 0 ⟨#[]⟩ none 0 0 ((outs ts (fs.map FS.d)).take (saidN ts (fs.map FS.d) ts.length))]) := dp_mem (by rw [V.l_of]; simp)
  have e2 : T.dp ts[i] + 1 ≤ T.dp (V.of 21 0 ⟨#[]⟩ none 0 0 ((outs ts (fs.map FS.d)).take (saidN ts (fs.map FS.d) ts.length))) := dp_mem (by rw [V.l_of]; exact hmem)
  have e3 : T.dp (V.of 24 0 ⟨#[]⟩ none 0 0 [leaf 5 k ⟨#[]⟩, V.of 21 0 ⟨#[]⟩ none 0 0 ((outs ts (fs.map FS.d)).take (saidN ts (fs.map FS.d) ts.length))]) ≤ 32 := h
  omega
/-- a described list of right values, not deep, may be -/
theorem form_chk {w : V} {d : T} {L : List T} (hw : w.t = T.of 24 0 ⟨#[]⟩ 0 [d, T.of 21 0 ⟨#[]⟩ 0 L]) (hd : Nd d) (hdd : T.dp d = 1) (hL : ∀ x ∈ L, Nd x ∧ T.dp x ≤ 30) : chkE w = 0 := by
  rw [chk_iff, ← nd_t, ← dp_t, hw]
  refine ⟨?_, ?_⟩
  · show Nd (V.of 24 0 ⟨#[]⟩ none 0 0 [d, V.of 21 0 ⟨#[]⟩ none 0 0 L])
    rw [nd_of]
    refine ⟨fault_desc _ _ _ _, fun x hx => ?_⟩
    simp only [List.mem_cons, List.not_mem_nil, or_false] at hx
    rcases hx with rfl | rfl
    · exact hd
    · rw [nd_of]
      exact ⟨fault_lst2 _ _ _, fun x hx => (hL x hx).1⟩
  · show T.dp (V.of 24 0 ⟨#[]⟩ none 0 0 [d, V.of 21 0 ⟨#[]⟩ none 0 0 L]) ≤ 32
    rw [dp_of]
    show mxn [T.dp d, T.dp (V.of 21 0 ⟨#[]⟩ none 0 0 L)] + 1 ≤ 32
    rw [hdd, dp_of]
    have h1 : mxn (L.map T.dp) ≤ 30 := mxn_le (fun y hy => by
      obtain ⟨x, hx, rfl⟩ := List.mem_map.1 hy
      exact (hL x hx).2)
    simp only [mxn]
    omega
theorem says_right {k : Int} {fs : List FS} {ts L : List T} (hf : ftab k = some fs) (hg : Good rep k fs ts) (hdp : T.dp (laidT k ts) ≤ 32) (hs : Says fs ts L) : ∀ x ∈ L, Nd x ∧ T.dp x ≤ 30 := by
  intro x hx
  obtain ⟨i, hi, rfl⟩ := List.mem_iff_getElem.1 hx
  have h2 : i < fs.length := by have := hs.1; omega
  have h1 : i < ts.length := by rw [hg.1]; exact h2
  have hd1 : T.dp fs[i].d = 1 := dp_leaf _ _ _
  have hnd : Nd fs[i].d := nd_leaf (okR_out (ftab_r hf _ (List.getElem_mem h2))).2.2.1
  have hgt : (L[i]?).getD nul = L[i] := by rw [List.getElem?_eq_getElem hi]; rfl
  have hcs := hs.2 i h1 h2
  rw [hgt] at hcs
  rcases hcs with e | ⟨_, _, e | e⟩
  · rw [e]
    refine ⟨(hg.2.1 _ (List.getElem_mem h1)).2, ?_⟩
    by_cases hne : ts[i] = fs[i].d
    · rw [hne]; omega
    · exact said_dp hf hg.1 (fun t ht => (hg.2.1 t ht).1) hdp i h1 h2 hne
  · rw [e]
    exact ⟨nd_nul, by rw [show T.dp nul = 1 from dp_leaf _ _ _]; omega⟩
  · rw [e]
    exact ⟨hnd, by omega⟩
/-- ShapeForms: the same record -/
theorem forms_unp {k : Int} {fs : List FS} {ts L : List T} (hf : ftab k = some fs) (hg : Good rep k fs ts) (hdp : T.dp (laidT k ts) ≤ 32) (hs : Says fs ts L) {w : V} (hw : w.t = T.of 24 0 ⟨#[]⟩ 0 [leaf 20 0 (nameOf k), T.of 21 0 ⟨#[]⟩ 0 L]) : unpR w = ((k, ts), 0, 0) := by
  have hc := form_chk hw (nd_leaf (name_right hf)) (dp_leaf _ _ _) (says_right hf hg hdp hs)
  unfold unpR
  rw [if_neg (by simpa using hc), hw]
  exact says_unp hf (by rw [leaf_t]; exact kind_name hf) hg.1 hg.2.2.1 hs
/-- ShapeForms: one value more is too many -/
theorem forms_more {k : Int} {fs : List FS} {ts L : List T} (hf : ftab k = some fs) (hg : Good rep k fs ts) (hdp : T.dp (laidT k ts) ≤ 32) (hs : Says fs ts L) (hL : L.length = fs.length) {w : V} (hw : w.t = T.of 24 0 ⟨#[]⟩ 0 [leaf 20 0 (nameOf k), T.of 21 0 ⟨#[]⟩ 0 (L ++ [nul])]) : unpR w = ((0, []), (fs.length : Int), 71) := by
  have hc := form_chk hw (nd_leaf (name_right hf)) (dp_leaf _ _ _) (fun x hx => by
    rcases List.mem_append.1 hx with hx | hx
    · exact says_right hf hg hdp hs x hx
    · rw [List.mem_singleton] at hx
      subst hx
      exact ⟨nd_nul, by rw [show T.dp nul = 1 from dp_leaf _ _ _]; omega⟩)
  unfold unpR
  rw [if_neg (by simpa using hc), hw]
  have hk : kindV (T.of 24 0 ⟨#[]⟩ 0 [leaf 20 0 (nameOf k), T.of 21 0 ⟨#[]⟩ 0 (L ++ [nul])]).k (T.of 24 0 ⟨#[]⟩ 0 [leaf 20 0 (nameOf k), T.of 21 0 ⟨#[]⟩ 0 (L ++ [nul])]).l = some k := by
    show kindV 24 (V.l (V.of 24 0 ⟨#[]⟩ none 0 0 _)) = _
    rw [V.l_of, kindV_two, leaf_t]
    exact kind_name hf
  have hy : (((T.of 24 0 ⟨#[]⟩ 0 [leaf 20 0 (nameOf k), T.of 21 0 ⟨#[]⟩ 0 (L ++ [nul])]).l)[1]?).getD nul = T.of 21 0 ⟨#[]⟩ 0 (L ++ [nul]) := by
    show (((V.l (V.of 24 0 ⟨#[]⟩ none 0 0 _)))[1]?).getD nul = _
    rw [V.l_of]
    rfl
  unfold unpT
  rw [hk]
  simp only [hf]
  rw [hy]
  have hyl : V.l (T.of 21 0 ⟨#[]⟩ 0 (L ++ [nul])) = L ++ [nul] := V.l_of _ _ _ _ _ _ _
  rw [hyl, if_neg (show ¬ V.k (T.of 21 0 ⟨#[]⟩ 0 _) ≠ 21 from fun h => h rfl), if_pos (by rw [List.length_append]; simp; omega)]
end Go.Proofs.YtlpngpininkjnaaGreatDoor
