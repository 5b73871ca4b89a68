import Derived.Test.YtlpngpininkjnaaGreatDoorHGFaceZ
import Derived.Test.YtlpngpininkjnaaGreatDoorHLiveZ
import Derived.Test.YtlpngpininkjnaaGreatDoorCGreatZ
import Derived.Test.YtlpngpininkjnaaGreatDoorHKindZ

/- What Pack makes: its form. -/
namespace Go.Proofs.YtlpngpininkjnaaGreatDoor
open Go.RowKit
set_option linter.unusedVariables false
set_option linter.unusedSimpArgs false
theorem repT_k {N : Nat} {x : T} (h : (repT (N + 1) x).2 = 0) : (repT (N + 1) x).1.k = 24 := by
  unfold repT at h ⊢
  split at h
  · rename_i hne
    exact absurd h hne
  · rename_i hz
    rw [if_neg hz]
    rfl
theorem rep_k {x : T} (h : (rep x).2 = 0) : (rep x).1.k = 24 := repT_k h
/-- what fills a field is Null only where that is its default -/
theorem fillT_null {s : FS} {x : T} (h : (fillT rep s x).2 = 0) (hk : (fillT rep s x).1.k = 0) : (fillT rep s x).1 = s.d := by
  unfold fillT at h hk ⊢
  by_cases h0 : x.k = 0
  · rw [if_pos h0] at h hk ⊢
    cases hm : s.must
    · rfl
    · simp [hm] at h
  · rw [if_neg h0] at h hk ⊢
    exfalso
    by_cases h1 : s.ty = 100
    · rw [if_pos h1] at hk; exact h0 hk
    rw [if_neg h1] at h hk
    by_cases h2 : s.ty = 101
    · rw [if_pos h2] at h hk
      by_cases h3 : x.k = 20
      · rw [if_pos h3] at hk
        exact absurd hk (by show ¬ (23 : Int) = 0; decide)
      · rw [if_neg h3] at h hk
        by_cases h4 : x.k = 23 ∧ x.e = 20
        · rw [if_pos h4] at hk; exact h0 hk
        · rw [if_neg h4] at h; exact absurd h (by decide)
    rw [if_neg h2] at h hk
    by_cases h3 : s.ty = 102
    · rw [if_pos h3] at h hk
      cases hkv : kindV x.k x.l with
      | none => simp [hkv] at h
      | some k =>
        rw [hkv] at h hk
        dsimp only at h hk
        by_cases h4 : s.ks.contains k = true
        · rw [if_pos h4] at h hk
          rw [rep_k h] at hk
          exact absurd hk (by decide)
        · rw [if_neg h4] at h; exact absurd h (by decide)
    rw [if_neg h3] at h hk
    by_cases h4 : x.k = s.ty
    · rw [if_pos h4] at hk; exact h0 hk
    · rw [if_neg h4] at h; exact absurd h (by decide)
theorem chkV_ok {s : FS} {v : V} (h : (chkV rep s v).2 = 0) : chkV rep s v = fillT rep s v.t ∧ chkE v = 0 := by
  unfold chkV at h ⊢
  by_cases h1 : (s.must && decide (v.k = 0)) = true
  · rw [if_pos h1] at h; exact absurd h (by decide)
  rw [if_neg h1] at h ⊢
  by_cases h2 : chkE v = 0
  · rw [if_neg (by simpa using h2)] at h ⊢
    by_cases h3 : s.ty = 101 ∧ v.k = 20
    · rw [if_pos h3] at h; exact absurd h (by decide)
    · rw [if_neg h3]; exact ⟨rfl, h2⟩
  · rw [if_pos h2] at h; exact absurd h h2
/-- a record that is packed -/
theorem packR_ok {kind : Int} {l : List V} (h : (packR kind l).2 = 0) : ∃ fs ts, ftab kind = some fs ∧ l.length = fs.length ∧ ts.length = fs.length ∧ packR kind l = (laidT kind ts, 0) ∧ T.dp (laidT kind ts) ≤ 32 ∧
    ∀ i (h1 : i < ts.length) (h2 : i < fs.length) (h3 : i < l.length), fillT rep fs[i] l[i].t = (ts[i], 0) ∧ chkV rep fs[i] l[i] = (ts[i], 0) := by
  unfold packR packT at h ⊢
  cases hf : ftab kind with
  | none => simp [hf] at h
  | some fs =>
    rw [hf] at h
    dsimp only at h ⊢
    by_cases hl : l.length = fs.length
    · rw [if_neg (by simpa using hl)] at h ⊢
      generalize hr : rowT kind (List.zipWith (chkV rep) fs l) = r at h ⊢
      unfold endT at h ⊢
      by_cases hz : r.2.2 = 0
      · rw [if_neg (by simpa using hz)] at h ⊢
        rw [← hr] at hz
        obtain ⟨he, hall⟩ := rowT_ok hz
        rw [he] at hr
        rw [← hr] at h ⊢
        dsimp only at h ⊢
        by_cases hd : 32 < T.dp (laidT kind ((List.zipWith (chkV rep) fs l).map Prod.fst))
        · rw [if_pos hd] at h; exact absurd h (by decide)
        · rw [if_neg hd]
          refine ⟨fs, (List.zipWith (chkV rep) fs l).map Prod.fst, rfl, hl, by rw [List.length_map, List.length_zipWith, hl, Nat.min_self], rfl, by omega, ?_⟩
          intro i h1 h2 h3
          have hz1 : i < (List.zipWith (chkV rep) fs l).length := by simpa using h1
          have hq := hall i hz1
          rw [List.getElem_zipWith] at hq
          rw [List.getElem_map, List.getElem_zipWith]
          have hc := chkV_ok hq
          refine ⟨?_, ?_⟩
          · rw [← hc.1]; exact Prod.ext rfl hq
          · exact Prod.ext rfl hq
      · rw [if_pos hz] at h; exact absurd h hz
    · rw [if_pos hl] at h; exact absurd h (by decide)
theorem eqT_refl (x : T) : eqT x x = true := by
  have h := neg_ord x x
  have h0 : T.ord x x = 0 := by omega
  unfold eqT
  simp [h0]
theorem outs_at (l ds : List V) (i : Nat) (h : ds.length = l.length) (hi : i < l.length) (ho : i < (outs l ds).length) : (outs l ds)[i] = if eqT l[i].t (ds[i]'(by omega)).t = true then nul else l[i] := by
  have h1 := outs_get l ds i h hi
  rw [List.getElem?_eq_getElem ho] at h1
  exact Option.some.inj h1
theorem saidN_pos (l ds : List V) (h : ds.length = l.length) : ∀ n, n ≤ l.length → 0 < saidN l ds n → ∃ (h1 : saidN l ds n - 1 < l.length), eqT (l[saidN l ds n - 1]'h1).t (ds[saidN l ds n - 1]'(by omega)).t = false := by
  intro n
  induction n with
  | zero => intro _ h0; exact absurd h0 (by simp [saidN])
  | succ n ih =>
    intro hn h0
    have hs := saidN_step l ds n (by omega) (by omega)
    by_cases he : eqT l[n].t (ds[n]'(by omega)).t = true
    · rw [if_pos he] at hs
      rw [hs] at h0
      obtain ⟨h1, h2⟩ := ih (by omega) h0
      simp only [hs]
      exact ⟨h1, h2⟩
    · rw [if_neg he] at hs
      have e : saidN l ds (n + 1) - 1 = n := by omega
      simp only [e]
      exact ⟨by omega, Bool.eq_false_iff.2 he⟩
end Go.Proofs.YtlpngpininkjnaaGreatDoor


/- What is laid is short. -/
namespace Go.Proofs.YtlpngpininkjnaaGreatDoor
open Go.RowKit
set_option linter.unusedVariables false
set_option linter.unusedSimpArgs false
theorem lies_bare {n₀ : Nat} {w : World} {x : V} (h : Lies n₀ w x) : Lies n₀ w (V.of 0 0 ⟨#[]⟩ x.a x.c 0 x.l) := by
  obtain ⟨k, n, s, a, c, e, l, rfl⟩ := V.ex x
  rw [V.a_of, V.c_of, V.l_of]
  have ho := h.ok
  exact .mk ⟨by decide, by decide, by decide, by decide, ho.l, ho.c⟩ (fun h0 => h.row h0) (fun x hx => h.sub x hx)
/-- a value that reads as what is laid -/
theorem form_laid {y : V} {k : Int} {ts : List T} (h : y.t = laidT k ts) : ∃ a2 c2 d a3 c3 ol, y = V.of 24 0 ⟨#[]⟩ a2 c2 0 [d, V.of 21 0 ⟨#[]⟩ a3 c3 0 ol] ∧ d.t = leaf 5 k ⟨#[]⟩ ∧ V.ts ol = (outs ts (dsOf k)).take (saidN ts (dsOf k) ts.length) := by
  obtain ⟨k1, n1, s1, a1, c1, e1, l1, rfl⟩ := V.ex y
  rw [V.t_of] at h
  unfold laidT at h
  obtain ⟨rfl, rfl, rfl, rfl, hl⟩ := T_inj h
  have hlen : l1.length = 2 := by have := congrArg List.length hl; rwa [V.ts_length] at this
  match l1, hlen, hl with
  | [d, m], _, hl =>
    have h1 := (List.cons.inj hl).1
    have h2 := (List.cons.inj (List.cons.inj hl).2).1
    obtain ⟨k2, n2, s2, a2, c2, e2, l2, rfl⟩ := V.ex m
    rw [V.t_of] at h2
    obtain ⟨rfl, rfl, rfl, rfl, hl2⟩ := T_inj h2
    exact ⟨a1, c1, d, a2, c2, l2, rfl, h1, hl2⟩
/-- what is laid has no default in it, and no Null at its end -/
theorem laid_short {ol : List V} {ts : List T} {ds : List V} (hd : ds.length = ts.length) (hnul : ∀ i (h1 : i < ts.length) (h2 : i < ds.length), ts[i].k = 0 → ts[i] = ds[i]) (htt : ∀ t ∈ ts, t.t = t) (hdd : ∀ d ∈ ds, d.t = d) (h : V.ts ol = (outs ts ds).take (saidN ts ds ts.length)) :
    ol.length ≤ ts.length ∧ (∀ (h0 : 0 < ol.length), (ol[ol.length - 1]'(by omega)).k ≠ 0) ∧ ∀ i (h1 : i < ol.length) (h2 : i < ds.length), eqT ol[i].t ds[i].t = true → ol[i].k = 0 := by
  have hsn := saidN_le ts ds ts.length
  have hol := outs_len ts ds hd
  have hlen : ol.length = saidN ts ds ts.length := by
    have := congrArg List.length h
    rw [V.ts_length, List.length_take, hol] at this
    omega
  have hat : ∀ i (h1 : i < ol.length), ol[i].t = if eqT (ts[i]'(by omega)).t (ds[i]'(by omega)).t = true then nul else ts[i]'(by omega) := fun i h1 => by
    have h2 : (V.ts ol)[i]? = ((outs ts ds).take (saidN ts ds ts.length))[i]? := by rw [h]
    rw [V.ts_map, List.getElem?_map, List.getElem?_eq_getElem h1, List.getElem?_take_of_lt (by omega), outs_get ts ds i hd (by omega)] at h2
    exact Option.some.inj h2
  refine ⟨by omega, fun h0 => ?_, fun i h1 h2 he => ?_⟩
  · intro hk
    obtain ⟨h1, h2⟩ := saidN_pos ts ds hd ts.length (Nat.le_refl _) (by omega)
    have h3 := hat (ol.length - 1) (by omega)
    simp only [hlen] at h3 hk
    rw [if_neg (by rw [h2]; decide)] at h3
    have h4 : (ts[saidN ts ds ts.length - 1]'h1).k = 0 := by rw [← h3, k_t]; exact hk
    have h5 := hnul _ h1 (by omega) h4
    rw [h5, eqT_refl] at h2
    cases h2
  · have h3 := hat i h1
    by_cases he2 : eqT (ts[i]'(by omega)).t (ds[i]'(by omega)).t = true
    · rw [if_pos he2] at h3
      rw [← k_t, h3]
      rfl
    · rw [if_neg he2] at h3
      rw [h3] at he
      rw [htt _ (List.getElem_mem _)] at he2
      exact absurd he he2
theorem laidT_t (k : Int) (l : List T) (h : ∀ t ∈ l, t.t = t) : (laidT k l).t = laidT k l := by
  have hl : V.ts l = l := by
    rw [V.ts_map]
    conv => rhs; rw [← List.map_id l]
    exact List.map_congr_left fun x hx => h x hx
  have hd : V.ts (dsOf k) = dsOf k := ds_ts _
  unfold laidT
  show (V.of 24 0 ⟨#[]⟩ none 0 0 [leaf 5 k ⟨#[]⟩, V.of 21 0 ⟨#[]⟩ none 0 0 ((outs l (dsOf k)).take (saidN l (dsOf k) l.length))]).t = _
  rw [V.t_of]
  show T.of 24 0 ⟨#[]⟩ 0 [(leaf 5 k ⟨#[]⟩).t, (V.of 21 0 ⟨#[]⟩ none 0 0 ((outs l (dsOf k)).take (saidN l (dsOf k) l.length))).t] = _
  rw [leaf_t, V.t_of, V.ts_map, List.map_take, ← V.ts_map, outs_ts, hl, hd]
theorem fillT_t {re : T → T × Int} (hre : ∀ x : T, x.t = x → (re x).1.t = (re x).1) (s : FS) {x : T} (hx : x.t = x) : (fillT re s x).1.t = (fillT re s x).1 := by
  unfold fillT
  split
  · split
    · exact nul_t
    · exact fs_d_t s
  · split
    · exact hx
    · split
      · split
        · show (V.of 23 0 ⟨#[]⟩ none 0 20 [x]).t = _
          rw [V.t_of]
          show T.of 23 0 ⟨#[]⟩ 20 [x.t] = _
          rw [hx]
        · split
          · exact hx
          · exact nul_t
      · split
        · split
          · split
            · exact hre x hx
            · exact nul_t
          · exact nul_t
        · split
          · exact hx
          · exact nul_t
theorem sub_tree {x y : T} (hx : x.t = x) (h : y ∈ x.l) : y.t = y := by
  have h1 : V.ts x.l = x.l := by rw [← l_t, hx]
  rw [← h1, V.ts_map] at h
  obtain ⟨z, _, rfl⟩ := List.mem_map.1 h
  exact t_t z
theorem repT_t (N : Nat) : ∀ x : T, x.t = x → (repT N x).1.t = (repT N x).1 := by
  induction N with
  | zero => intro x _; exact nul_t
  | succ N ih =>
    intro x hx
    unfold repT
    split
    · exact nul_t
    · rename_i hz
      have hz' : (unpT (repT N) x).2.2 = 0 := Decidable.byContradiction hz
      obtain ⟨k, fs, d, y, _, hl, _, _, _, _, hu⟩ := unpT_ok hz'
      rw [hu] at hz' ⊢
      obtain ⟨he, _⟩ := rowT_ok hz'
      rw [he]
      refine laidT_t _ _ (fun t ht => ?_)
      obtain ⟨r, hr, rfl⟩ := List.mem_map.1 ht
      unfold fillsT at hr
      obtain ⟨i, hi, rfl⟩ := List.mem_iff_getElem.1 hr
      rw [List.getElem_mapIdx]
      refine fillT_t ih _ ?_
      have hy : y.t = y := sub_tree hx (by rw [hl]; simp)
      cases hq : y.l[i]? with
      | none => exact nul_t
      | some z => exact sub_tree hy (List.mem_of_getElem? hq)
theorem fill_tree {s : FS} {v : V} {t : T} (h : fillT rep s v.t = (t, 0)) : t.t = t := by
  have := fillT_t (re := rep) (repT_t 40) s (t_t v)
  rw [h] at this
  exact this
end Go.Proofs.YtlpngpininkjnaaGreatDoor


/- Which kind: each descriptor stands once. -/
namespace Go.Proofs.YtlpngpininkjnaaGreatDoor
open Go.RowKit
set_option linter.unusedVariables false
set_option linter.unusedSimpArgs false
/-- is it this row's number or name? -/
def isRow (x : T) (r : Int × ByteArray × Value) : Bool := eqT x (leaf 5 r.1 ⟨#[]⟩).t || eqT x (leaf 20 0 r.2.1).t
theorem kindL_some {x : T} {l : List (Int × ByteArray × Value)} {k : Int} (h : kindL x l = some k) : ∃ r ∈ l, r.1 = k ∧ isRow x r = true := by
  induction l with
  | nil => cases h
  | cons r l ih =>
    rw [kindL] at h
    split at h
    · exact ⟨r, List.mem_cons_self, Option.some.inj h, by assumption⟩
    · obtain ⟨r', h1, h2⟩ := ih h
      exact ⟨r', List.mem_cons_of_mem _ h1, h2⟩
theorem kindL_none {x : T} {l : List (Int × ByteArray × Value)} (h : kindL x l = none) : ∀ r ∈ l, isRow x r = false := by
  induction l with
  | nil => intro r hr; cases hr
  | cons r l ih =>
    rw [kindL] at h
    split at h
    · cases h
    · rename_i hn
      intro r' hr'
      rcases List.mem_cons.1 hr' with rfl | hr'
      · exact Bool.eq_false_iff.2 hn
      · exact ih h r' hr'
/-- what a tree that equals a leaf is -/
theorem eqT_leaf_of {x : V} {k n : Int} {s : ByteArray} (h : eqT x.t (leaf k n s).t = true) : x.k = k ∧ x.n = n ∧ x.s.toList = s.toList := by
  obtain ⟨k', n', s', a, c, e, l, rfl⟩ := V.ex x
  unfold leaf at h
  rw [eqT_of] at h
  simp only [Bool.and_eq_true, decide_eq_true_eq] at h
  rw [V.k_of, V.n_of, V.s_of]
  exact ⟨h.1.1.1.1, h.1.1.1.2, h.1.1.2⟩
theorem rows_apart {x : V} {r r' : Int × ByteArray × Value} (hr : isRow x.t r = true) (hr' : isRow x.t r' = true) : r.1 = r'.1 ∨ r.2.1.toList = r'.2.1.toList := by
  unfold isRow at hr hr'
  rw [Bool.or_eq_true] at hr hr'
  rcases hr with h | h <;> rcases hr' with h' | h'
  · exact .inl ((eqT_leaf_of h).2.1.symm.trans (eqT_leaf_of h').2.1)
  · have := (eqT_leaf_of h).1.symm.trans (eqT_leaf_of h').1
    exact absurd this (by decide)
  · have := (eqT_leaf_of h).1.symm.trans (eqT_leaf_of h').1
    exact absurd this (by decide)
  · exact .inr ((eqT_leaf_of h).2.2.symm.trans (eqT_leaf_of h').2.2)
set_option maxRecDepth 100000 in
theorem names_apart : (krows.map fun r => (r.1, r.2.1.toList)).all (fun p => (krows.map fun r => (r.1, r.2.1.toList)).all fun q => decide (p.2 = q.2 → p.1 = q.1)) = true := by kernel_rfl
theorem row_once {x : V} {r r' : Int × ByteArray × Value} (h : r ∈ krows) (h' : r' ∈ krows) (hr : isRow x.t r = true) (hr' : isRow x.t r' = true) : r.1 = r'.1 := by
  rcases rows_apart hr hr' with e | e
  · exact e
  · have h1 := List.all_eq_true.1 (List.all_eq_true.1 names_apart (r.1, r.2.1.toList) (List.mem_map.2 ⟨r, h, rfl⟩)) (r'.1, r'.2.1.toList) (List.mem_map.2 ⟨r', h', rfl⟩)
    exact of_decide_eq_true h1 e
end Go.Proofs.YtlpngpininkjnaaGreatDoor


/- What was unpacked is packed as it was: no program. -/
namespace Go.Proofs.YtlpngpininkjnaaGreatDoor
open Go.RowKit
set_option linter.unusedVariables false
set_option linter.unusedSimpArgs false
theorem lexz {a b : Int} : lex a b = 0 ↔ a = 0 ∧ b = 0 := by unfold lex; split <;> simp_all
theorem cmpZz {a b : Int} : cmpZ a b = 0 ↔ a = b := by unfold cmpZ; split <;> (try split) <;> omega
theorem bytes_eq {s s' : ByteArray} (h : s.toList = s'.toList) : s = s' := by
  rw [ByteArray.toList_eq, ByteArray.toList_eq] at h
  cases s
  cases s'
  simp only at h
  rw [Array.toList_inj.1 h]
theorem ords_z {l m : List T} (ih : ∀ x ∈ l, ∀ y, T.ord x y = 0 → y.t = y → x = y) (hm : ∀ y ∈ m, y.t = y) (h : T.ords l m = 0) : l = m := by
  induction l generalizing m with
  | nil => cases m with
    | nil => rfl
    | cons y m => simp [T.ords] at h
  | cons x l ihl => cases m with
    | nil => simp [T.ords] at h
    | cons y m =>
      rw [T.ords, lexz] at h
      rw [ih x (by simp) y h.1 (hm y (by simp)), ihl (fun z hz => ih z (by simp [hz])) (fun z hz => hm z (by simp [hz])) h.2]
theorem ts_tree {l : List V} {y : T} (h : y ∈ V.ts l) : y.t = y := by
  rw [V.ts_map] at h
  obtain ⟨z, _, rfl⟩ := List.mem_map.1 h
  exact t_t z
theorem ord_z : ∀ v : V, ∀ w : V, T.ord v.t w.t = 0 → v.t = w.t := by
  refine V.ind ?_
  intro k n s a c e l ih w h
  obtain ⟨k', n', s', a', c', e', l', rfl⟩ := V.ex w
  rw [V.t_of, V.t_of, T.of, T.of, T.ord_of, V.l_of] at h
  simp only [lexz, cmpZz, cmpB_zero, V.k_of, V.n_of, V.s_of, V.e_of] at h
  obtain ⟨h1, h2, h3, h4, h5⟩ := h
  rw [V.t_of, V.t_of, h1, h2, bytes_eq h3, h5]
  have : V.ts l = V.ts l' := by
    refine ords_z (fun x hx y hxy hy => ?_) (fun y hy => ts_tree hy) h4
    rw [V.ts_map] at hx
    obtain ⟨z, hz, rfl⟩ := List.mem_map.1 hx
    rw [← hy] at hxy ⊢
    exact ih z hz y hxy
  rw [this]
theorem eqT_yes {v w : V} (h : eqT v.t w.t = true) : v.t = w.t := ord_z v w (by unfold eqT at h; exact of_decide_eq_true h)
/-- each part is right, but for its depth -/
def Nd : V → Prop := V.para (fun p bs => faultT 1 (V.mk' p (bs.map Prod.fst)).t = 0 ∧ ∀ b ∈ bs, b.2) True
theorem nd_of (k n : Int) (s : ByteArray) (a : Option Addr) (c : Nat) (e : Int) (l : List V) : Nd (V.of k n s a c e l) ↔ faultT 1 (V.of k n s a c e l).t = 0 ∧ ∀ x ∈ l, Nd x := by
  unfold Nd
  rw [V.para_of, List.map_map]
  have h1 : (Prod.fst ∘ fun x => (x, V.para (fun p bs => faultT 1 (V.mk' p (bs.map Prod.fst)).t = 0 ∧ ∀ b ∈ bs, b.2) True x)) = (id : V → V) := rfl
  rw [h1, List.map_id]
  constructor
  · rintro ⟨h2, h3⟩
    exact ⟨h2, fun x hx => h3 (x, _) (List.mem_map.2 ⟨x, hx, rfl⟩)⟩
  · rintro ⟨h2, h3⟩
    refine ⟨h2, fun b hb => ?_⟩
    obtain ⟨x, hx, rfl⟩ := List.mem_map.1 hb
    exact h3 x hx
theorem faultT_d (d : Int) (x : T) : faultT d x = 0 ↔ d ≤ 32 ∧ faultT 1 x = 0 := by
  unfold faultT faultB
  by_cases hk : x.k < 0 ∨ 24 < x.k
  · rw [if_pos hk, if_pos hk]
    constructor
    · intro h; exact absurd h (by decide)
    · rintro ⟨_, h⟩; exact absurd h (by decide)
  rw [if_neg hk, if_neg hk]
  by_cases hd : 32 < d
  · rw [if_pos hd]
    constructor
    · intro h; exact absurd h (by decide)
    · rintro ⟨h, _⟩; omega
  rw [if_neg hd, if_neg (show ¬ (32 : Int) < 1 by decide)]
  constructor
  · intro h; exact ⟨by omega, h⟩
  · rintro ⟨_, h⟩; exact h
theorem chk_at (v : V) : ∀ d : Int, 1 ≤ d → d ≤ 33 → ((∀ p ∈ v.all d, checkZ p = 0) ↔ Nd v ∧ d + T.dp v ≤ 33) := by
  refine V.ind (Q := fun v => ∀ d : Int, 1 ≤ d → d ≤ 33 → ((∀ p ∈ v.all d, checkZ p = 0) ↔ Nd v ∧ d + T.dp v ≤ 33)) ?_ v
  intro k n s a c e l ih d h1 h2
  rw [V.all_of, dp_of, nd_of, wrap_low (by omega) (by omega)]
  constructor
  · intro h
    have h3 := h _ List.mem_cons_self
    unfold checkZ at h3
    rw [faultT_d] at h3
    have h4 : ∀ x ∈ l, Nd x ∧ (d + 1) + T.dp x ≤ 33 := fun x hx => (ih x hx (d + 1) (by omega) (by have := h3.1; simp only at this; omega)).1 (fun p hp => h p (List.mem_cons_of_mem _ (alls_mem.2 ⟨x, hx, hp⟩)))
    refine ⟨⟨h3.2, fun x hx => (h4 x hx).1⟩, ?_⟩
    have h5 : mxn (l.map T.dp) ≤ (32 - d).toNat := mxn_le (fun y hy => by
      obtain ⟨x, hx, rfl⟩ := List.mem_map.1 hy
      have := (h4 x hx).2
      omega)
    have := h3.1
    simp only at this
    omega
  · rintro ⟨⟨h3, h4⟩, h5⟩ p hp
    rcases List.mem_cons.1 hp with rfl | hp
    · show faultT d _ = 0
      rw [faultT_d]
      exact ⟨by omega, h3⟩
    · obtain ⟨x, hx, hpx⟩ := alls_mem.1 hp
      have h6 := mxn_mem (List.mem_map.2 ⟨x, hx, rfl⟩ : T.dp x ∈ l.map T.dp)
      exact (ih x hx (d + 1) (by omega) (by omega)).2 ⟨h4 x hx, by omega⟩ p hpx
theorem chk_iff (v : V) : chkE v = 0 ↔ Nd v ∧ T.dp v ≤ 32 := by
  have h := chk_at v 1 (by omega) (by omega)
  constructor
  · intro h0
    have := h.1 (firstE_zero h0)
    exact ⟨this.1, by have := this.2; omega⟩
  · rintro ⟨h1, h2⟩
    exact firstE_none _ _ (h.2 ⟨h1, by omega⟩)
theorem nd_t (v : V) : Nd v.t ↔ Nd v := by
  refine V.ind (Q := fun v => Nd v.t ↔ Nd v) ?_ v
  intro k n s a c e l ih
  rw [V.t_of]
  show Nd (V.of k n s none 0 e (V.ts l)) ↔ _
  have ht : (V.of k n s none 0 e (V.ts l)).t = (V.of k n s a c e l).t := by rw [V.t_of, V.t_of, ts_ts]
  rw [nd_of, nd_of, ht]
  constructor
  · rintro ⟨h1, h2⟩
    exact ⟨h1, fun x hx => (ih x hx).1 (h2 x.t (by rw [V.ts_map]; exact List.mem_map.2 ⟨x, hx, rfl⟩))⟩
  · rintro ⟨h1, h2⟩
    refine ⟨h1, fun x hx => ?_⟩
    rw [V.ts_map] at hx
    obtain ⟨z, hz, rfl⟩ := List.mem_map.1 hx
    exact (ih z hz).2 (h2 z hz)
/-- how many composites may stand in one another, from a kind on -/
def rk (k : Int) : Nat := if k = 18 ∨ k = 20 ∨ k = 21 then 3 else if k = 40 ∨ k = 52 then 2 else if k = 22 ∨ k = 23 ∨ k = 24 ∨ k = 37 then 1 else 0
/-- a row of the table -/
def okR (k : Int) (f : FS) : Bool := (decide (f.dk = 0) || (decide (f.dk = f.ty) && decide (f.ty < 100))) && (!f.must || decide (f.dk = 0)) && decide (faultT 1 f.d = 0) && (decide (f.ty ≠ 102) || f.ks.all fun k' => decide (rk k' < rk k)) && decide (f.dk = 0 → f.dn = 0 ∧ f.ds.toList = [])
set_option maxRecDepth 100000 in
theorem ftab_rk : ftabL.all (fun p => (p.2.getD []).all (okR p.1)) = true := by kernel_rfl
theorem ftab_r {k : Int} {fs : List FS} (h : ftab k = some fs) : ∀ f ∈ fs, okR k f = true := by
  unfold ftab at h
  cases hf : ftabL.find? (fun p => p.1 == k) with
  | none => rw [hf] at h; cases h
  | some p =>
    have hk : p.1 = k := by simpa using List.find?_some hf
    rw [hf] at h
    have h1 := List.all_eq_true.1 ftab_rk p (List.mem_of_find?_eq_some hf)
    have h2 : p.2 = some fs := h
    rw [h2, hk] at h1
    exact fun f hf => List.all_eq_true.1 h1 f hf
theorem ftab_mem {k : Int} {fs : List FS} (h : ftab k = some fs) : ∃ r ∈ krows, r.1 = k := by
  unfold ftab at h
  cases hf : ftabL.find? (fun p => p.1 == k) with
  | none => rw [hf] at h; cases h
  | some p =>
    have hk : p.1 = k := by simpa using List.find?_some hf
    have h1 : p.1 ∈ ftabL.map (fun p => p.1) := List.mem_map.2 ⟨p, List.mem_of_find?_eq_some hf, rfl⟩
    rw [← ftab_rows] at h1
    obtain ⟨r, hr, e⟩ := List.mem_map.1 h1
    exact ⟨r, hr, e.trans hk⟩
theorem kind_num {k : Int} {fs : List FS} (h : ftab k = some fs) : kindL (leaf 5 k ⟨#[]⟩) krows = some k := by
  obtain ⟨r, hr, rfl⟩ := ftab_mem h
  have hrow : isRow (leaf 5 r.1 ⟨#[]⟩).t r = true := by
    unfold isRow
    rw [eqT_refl]
    rfl
  have hlt := leaf_t 5 r.1 ⟨#[]⟩
  cases hkk : kindL (leaf 5 r.1 ⟨#[]⟩) krows with
  | none =>
    have := kindL_none hkk r hr
    rw [← hlt] at this
    rw [hrow] at this
    cases this
  | some k' =>
    obtain ⟨r', h1, h2, h3⟩ := kindL_some hkk
    rw [← hlt] at h3
    rw [← h2, ← row_once hr h1 hrow h3]
/-- what a field becomes: the ways -/
theorem fill_ways {re : T → T × Int} {s : FS} {x t : T} (h : fillT re s x = (t, 0)) : (x.k = 0 ∧ s.must = false ∧ t = s.d) ∨ (x.k ≠ 0 ∧ t = x ∧ (∀ re', fillT re' s x = (x, 0)) ∧ ¬ (s.ty = 101 ∧ x.k = 20)) ∨ (s.ty = 101 ∧ x.k = 20 ∧ t = T.of 23 0 ⟨#[]⟩ 20 [x]) ∨ (s.ty = 102 ∧ x.k ≠ 0 ∧ ∃ k, kindV x.k x.l = some k ∧ k ∈ s.ks ∧ re x = (t, 0)) := by
  unfold fillT at h
  by_cases h0 : x.k = 0
  · rw [if_pos h0] at h
    cases hm : s.must
    · rw [hm, if_neg (by simp)] at h
      exact .inl ⟨h0, rfl, (Prod.mk.inj h).1.symm⟩
    · rw [hm, if_pos rfl] at h
      exact absurd (Prod.mk.inj h).2 (by decide)
  rw [if_neg h0] at h
  by_cases h1 : s.ty = 100
  · rw [if_pos h1] at h
    refine .inr (.inl ⟨h0, (Prod.mk.inj h).1.symm, fun re' => ?_, fun hh => by omega⟩)
    unfold fillT
    rw [if_neg h0, if_pos h1]
  rw [if_neg h1] at h
  by_cases h2 : s.ty = 101
  · rw [if_pos h2] at h
    by_cases h3 : x.k = 20
    · rw [if_pos h3] at h
      exact .inr (.inr (.inl ⟨h2, h3, (Prod.mk.inj h).1.symm⟩))
    · rw [if_neg h3] at h
      by_cases h4 : x.k = 23 ∧ x.e = 20
      · rw [if_pos h4] at h
        refine .inr (.inl ⟨h0, (Prod.mk.inj h).1.symm, fun re' => ?_, fun hh => h3 hh.2⟩)
        unfold fillT
        rw [if_neg h0, if_neg h1, if_pos h2, if_neg h3, if_pos h4]
      · rw [if_neg h4] at h
        exact absurd (Prod.mk.inj h).2 (by decide)
  rw [if_neg h2] at h
  by_cases h3 : s.ty = 102
  · rw [if_pos h3] at h
    cases hk : kindV x.k x.l with
    | none =>
      simp only [hk] at h
      exact absurd (Prod.mk.inj h).2 (by decide)
    | some k =>
      simp only [hk] at h
      by_cases h4 : s.ks.contains k = true
      · rw [if_pos h4] at h
        exact .inr (.inr (.inr ⟨h3, h0, k, rfl, List.contains_iff_mem.1 h4, h⟩))
      · rw [if_neg h4] at h
        exact absurd (Prod.mk.inj h).2 (by decide)
  rw [if_neg h3] at h
  by_cases h4 : x.k = s.ty
  · rw [if_pos h4] at h
    refine .inr (.inl ⟨h0, (Prod.mk.inj h).1.symm, fun re' => ?_, fun hh => h2 hh.1⟩)
    unfold fillT
    rw [if_neg h0, if_neg h1, if_neg h2, if_neg h3, if_pos h4]
  · rw [if_neg h4] at h
    exact absurd (Prod.mk.inj h).2 (by decide)
theorem okR_out {k : Int} {f : FS} (h : okR k f = true) : (f.dk = 0 ∨ (f.dk = f.ty ∧ f.ty < 100)) ∧ (f.must = true → f.dk = 0) ∧ faultT 1 f.d = 0 ∧ (f.ty = 102 → ∀ k' ∈ f.ks, rk k' < rk k) ∧ (f.dk = 0 → f.dn = 0 ∧ f.ds.toList = []) := by
  unfold okR at h
  simp only [Bool.and_eq_true, Bool.or_eq_true, decide_eq_true_eq, Bool.not_eq_true', List.all_eq_true] at h
  obtain ⟨⟨⟨⟨h1, h2⟩, h3⟩, h4⟩, h5⟩ := h
  refine ⟨h1, fun hm => ?_, h3, fun ht k' hk' => ?_, h5⟩
  · rcases h2 with h2 | h2
    · rw [hm] at h2; cases h2
    · exact h2
  · rcases h4 with h4 | h4
    · exact absurd ht h4
    · exact h4 k' hk'
/-- a default stays -/
theorem fill_dflt (re : T → T × Int) {k : Int} {f : FS} (h : okR k f = true) (hm : f.must = false) : fillT re f f.d = (f.d, 0) := by
  obtain ⟨h1, _, _, _, _⟩ := okR_out h
  have hk : f.d.k = f.dk := rfl
  unfold fillT
  rw [hk]
  by_cases h0 : f.dk = 0
  · rw [if_pos h0, hm, if_neg (by simp)]
  · rw [if_neg h0]
    rcases h1 with h1 | ⟨h1, h2⟩
    · exact absurd h1 h0
    · rw [if_neg (by omega), if_neg (by omega), if_neg (by omega), if_pos h1]
theorem fill_nul (re : T → T × Int) {f : FS} (hm : f.must = false) : fillT re f nul = (f.d, 0) := by
  unfold fillT
  rw [if_pos (show V.k nul = 0 from rfl), hm, if_neg (by simp)]
theorem nd_leaf {k n : Int} {s : ByteArray} (h : faultT 1 (leaf k n s) = 0) : Nd (leaf k n s) := by
  unfold leaf at h ⊢
  rw [nd_of]
  refine ⟨?_, fun x hx => by cases hx⟩
  have := leaf_t k n s
  unfold leaf at this
  rw [this]
  exact h
theorem saidN_ge (l ds : List V) (h : ds.length = l.length) : ∀ n, n ≤ l.length → ∀ i (hi : i < l.length), saidN l ds n ≤ i → i < n → eqT l[i].t (ds[i]'(by omega)).t = true := by
  intro n
  induction n with
  | zero => intro _ i _ _ h0; omega
  | succ n ih =>
    intro hn i hi h1 h2
    have hs := saidN_step l ds n (by omega) (by omega)
    by_cases he : eqT l[n].t (ds[n]'(by omega)).t = true
    · rw [if_pos he] at hs
      by_cases hin : i = n
      · subst hin; exact he
      · exact ih (by omega) i hi (by omega) (by omega)
    · rw [if_neg he] at hs
      omega
/-- what is laid is unpacked as it was -/
theorem unp_laid {re : T → T × Int} {k : Int} {fs : List FS} {ts : List T} (hf : ftab k = some fs) (hl : ts.length = fs.length) (htt : ∀ t ∈ ts, t.t = t)
    (hfill : ∀ i (h1 : i < ts.length) (h2 : i < fs.length), fillT re fs[i] ts[i] = (ts[i], 0)) (hmust : ∀ i (h1 : i < ts.length) (h2 : i < fs.length), fs[i].must = true → ts[i].k ≠ 0) :
    unpT re (laidT k ts) = ((k, ts), 0, 0) := by
  have hds : dsOf k = fs.map FS.d := by unfold dsOf; rw [hf]; rfl
  have hdl : (fs.map FS.d).length = ts.length := by rw [List.length_map, hl]
  have hol := outs_len ts (fs.map FS.d) hdl
  have hsn := saidN_le ts (fs.map FS.d) ts.length
  have hok := ftab_r hf
  have hk : kindV (laidT k ts).k (laidT k ts).l = some k := by
    unfold laidT
    show kindV 24 (V.l (V.of 24 0 ⟨#[]⟩ none 0 0 _)) = _
    rw [V.l_of, kindV_two, leaf_t]
    exact kind_num hf
  have hy : (((laidT k ts).l)[1]?).getD nul = T.of 21 0 ⟨#[]⟩ 0 ((outs ts (dsOf k)).take (saidN ts (dsOf k) ts.length)) := by
    unfold laidT
    show (((V.l (V.of 24 0 ⟨#[]⟩ none 0 0 _)))[1]?).getD nul = _
    rw [V.l_of]
    rfl
  unfold unpT
  rw [hk]
  simp only [hf]
  rw [hy, hds]
  have hyl : V.l (T.of 21 0 ⟨#[]⟩ 0 ((outs ts (fs.map FS.d)).take (saidN ts (fs.map FS.d) ts.length))) = (outs ts (fs.map FS.d)).take (saidN ts (fs.map FS.d) ts.length) := V.l_of _ _ _ _ _ _ _
  rw [hyl, if_neg (show ¬ V.k (T.of 21 0 ⟨#[]⟩ 0 _) ≠ 21 from fun h => h rfl), if_neg (by rw [List.length_take, hol]; omega)]
  have hrs : fillsT re fs ((outs ts (fs.map FS.d)).take (saidN ts (fs.map FS.d) ts.length)) = ts.map fun t => (t, (0 : Int)) := by
    refine List.ext_getElem? fun i => ?_
    unfold fillsT
    rw [List.getElem?_mapIdx, List.getElem?_map]
    by_cases hi : i < ts.length
    · have hif : i < fs.length := by omega
      rw [List.getElem?_eq_getElem hi, List.getElem?_eq_getElem hif, Option.map_some, Option.map_some]
      congr 1
      have hdi : (fs.map FS.d)[i]'(by rw [List.length_map]; exact hif) = fs[i].d := List.getElem_map _
      have hnul : eqT ts[i].t ((fs.map FS.d)[i]'(by rw [List.length_map]; exact hif)).t = true → fillT re fs[i] nul = (ts[i], 0) := fun he => by
        have h1 := eqT_yes he
        rw [htt _ (List.getElem_mem hi), hdi, fs_d_t] at h1
        have hm : fs[i].must = false := by
          cases hm : fs[i].must
          · rfl
          · have h2 := hmust i hi hif hm
            have h3 := (okR_out (hok _ (List.getElem_mem hif))).2.1 hm
            rw [h1] at h2
            exact absurd h3 h2
        rw [fill_nul re hm, h1]
      by_cases hs : i < saidN ts (fs.map FS.d) ts.length
      · rw [List.getElem?_take_of_lt hs, outs_get ts (fs.map FS.d) i hdl hi]
        simp only [Option.getD_some]
        by_cases he : eqT ts[i].t ((fs.map FS.d)[i]'(by rw [List.length_map]; exact hif)).t = true
        · rw [if_pos he]
          exact hnul he
        · rw [if_neg he]
          exact hfill i hi hif
      · rw [List.getElem?_eq_none (by rw [List.length_take, hol]; omega)]
        exact hnul (saidN_ge ts (fs.map FS.d) hdl ts.length (Nat.le_refl _) i hi (by omega) hi)
    · rw [List.getElem?_eq_none (show fs.length ≤ i by omega), List.getElem?_eq_none (show ts.length ≤ i by omega)]
      rfl
  rw [hrs, rowT_good (fun j hj => by rw [List.getElem_map])]
  congr 2
  rw [List.map_map]
  conv => rhs; rw [← List.map_id ts]
  rfl
end Go.Proofs.YtlpngpininkjnaaGreatDoor


/- What was unpacked is packed as it was: all depths. -/
namespace Go.Proofs.YtlpngpininkjnaaGreatDoor
open Go.RowKit
set_option linter.unusedVariables false
set_option linter.unusedSimpArgs false
theorem nd_nul : Nd nul := by
  refine nd_leaf ?_
  kernel_rfl
theorem fault_num {k : Int} (h0 : 0 ≤ k) : faultT 1 (leaf 5 k ⟨#[]⟩) = 0 := by
  unfold faultT leaf
  rw [V.k_of, V.n_of, V.s_of, V.e_of, V.l_of]
  unfold faultB
  have h1 : extraT 5 k ⟨#[]⟩ ([] : List V).length 0 = false := by unfold extraT; first | (simp; done) | (simp; rfl)
  have h2 : numT 5 k = true := by unfold numT; simp
  have h3 : textT 5 ⟨#[]⟩ = true := by unfold textT; simp
  rw [h1, h2, h3]
  simp
theorem fault_desc (a : Option Addr) (c : Nat) (x y : V) : faultT 1 (V.of 24 0 ⟨#[]⟩ a c 0 [x, y]).t = 0 := by
  rw [faultT_of]
  unfold faultB
  have h1 : extraT 24 0 ⟨#[]⟩ ([x, y] : List V).length 0 = false := by unfold extraT; first | (simp; done) | (simp; rfl)
  have h2 : numT 24 0 = true := by unfold numT; simp
  have h3 : textT 24 ⟨#[]⟩ = true := by unfold textT; simp
  rw [h1, h2, h3]
  simp
theorem fault_lst2 (a : Option Addr) (c : Nat) (l : List V) : faultT 1 (V.of 21 0 ⟨#[]⟩ a c 0 l).t = 0 := by
  rw [faultT_of]
  unfold faultB
  have h1 : extraT 21 0 ⟨#[]⟩ l.length 0 = false := by unfold extraT; first | (simp; done) | (simp; rfl)
  have h2 : numT 21 0 = true := by unfold numT; simp
  have h3 : textT 21 ⟨#[]⟩ = true := by unfold textT; simp
  rw [h1, h2, h3]
  simp
theorem fault_arr (a : Option Addr) (c : Nat) (x : V) (h : x.k = 20) : faultT 1 (V.of 23 0 ⟨#[]⟩ a c 20 [x]).t = 0 := by
  rw [faultT_of]
  unfold faultB
  have h1 : extraT 23 0 ⟨#[]⟩ ([x] : List V).length 20 = false := by unfold extraT; first | (simp; done) | (simp; rfl)
  have h2 : numT 23 0 = true := by unfold numT; simp
  have h3 : textT 23 ⟨#[]⟩ = true := by unfold textT; simp
  have h4 : arrT 20 (V.ts [x]) = true := by
    unfold arrT
    rw [V.ts_map]
    simp [k_t, h]
  rw [h1, h2, h3, h4]
  simp
theorem nd_laid {k : Int} {ts : List T} (hk : 0 ≤ k) (h : ∀ t ∈ ts, Nd t) : Nd (laidT k ts) := by
  unfold laidT
  show Nd (V.of 24 0 ⟨#[]⟩ none 0 0 [leaf 5 k ⟨#[]⟩, V.of 21 0 ⟨#[]⟩ none 0 0 _])
  rw [nd_of]
  refine ⟨fault_desc _ _ _ _, fun x hx => ?_⟩
  simp only [List.mem_cons, List.not_mem_nil, or_false] at hx
  rcases hx with rfl | rfl
  · exact nd_leaf (fault_num hk)
  · rw [nd_of]
    refine ⟨fault_lst2 _ _ _, fun x hx => ?_⟩
    rcases outs_mem _ _ x (List.mem_of_mem_take hx) with rfl | h1
    · exact nd_nul
    · exact h x h1
theorem nd_sub {x y : V} (h : Nd x) (hy : y ∈ x.l) : Nd y := by
  obtain ⟨k, n, s, a, c, e, l, rfl⟩ := V.ex x
  rw [V.l_of] at hy
  exact ((nd_of _ _ _ _ _ _ _).1 h).2 y hy
theorem dp_one (v : V) : 1 ≤ T.dp v := by
  obtain ⟨k, n, s, a, c, e, l, rfl⟩ := V.ex v
  rw [dp_of]
  omega
theorem dp_leaf (k n : Int) (s : ByteArray) : T.dp (leaf k n s) = 1 := by
  unfold leaf
  rw [dp_of]
  rfl
theorem dp_mem {x y : V} (hy : y ∈ x.l) : T.dp y + 1 ≤ T.dp x := by
  obtain ⟨k, n, s, a, c, e, l, rfl⟩ := V.ex x
  rw [V.l_of] at hy
  exact dp_sub hy
/-- a Symbol that may be has no parts -/
theorem sym_dp {x : T} (h : Nd x) (hk : x.k = 20) : T.dp x = 1 := by
  obtain ⟨k, n, s, a, c, e, l, rfl⟩ := V.ex x
  have h1 := ((nd_of _ _ _ _ _ _ _).1 h).1
  rw [V.k_of] at hk
  subst hk
  rw [faultT_of] at h1
  unfold faultB at h1
  rw [if_neg (by decide), if_neg (by decide)] at h1
  have h2 : extraT 20 n s l.length e = false := by
    cases hx : extraT 20 n s l.length e
    · rfl
    · rw [hx, if_pos rfl] at h1; exact absurd h1 (by decide)
  unfold extraT at h2
  rw [if_neg (by decide), if_pos (by decide)] at h2
  simp only [Bool.or_eq_false_iff, decide_eq_false_iff_not] at h2
  have h3 : l = [] := List.eq_nil_of_length_eq_zero (by omega)
  rw [dp_of, h3]
  rfl
/-- what is asked of what becomes of a composite -/
def Re (re : T → T × Int) (n : Nat) : Prop := ∀ (x : T) (k : Int), x.t = x → Nd x → kindV x.k x.l = some k → rk k < n → ∀ t, re x = (t, 0) → t.t = t ∧ Nd t ∧ re t = (t, 0) ∧ kindV t.k t.l = some k ∧ t.k = 24 ∧ T.dp t ≤ max (T.dp x) (2 * rk k + 4)
/-- a field that was filled -/
theorem fill_good {re : T → T × Int} {n : Nat} (hR : Re re n) {k : Int} {f : FS} (ho : okR k f = true) (hn : rk k ≤ n) {x t : T} (hx : x.t = x) (hd : Nd x) (h : fillT re f x = (t, 0)) :
    t.t = t ∧ Nd t ∧ fillT re f t = (t, 0) ∧ (f.must = true → t.k ≠ 0) ∧ ¬ (f.ty = 101 ∧ t.k = 20) ∧ (t = f.d ∨ (x.k ≠ 0 ∧ T.dp t ≤ max (T.dp x) (2 * rk k + 2))) := by
  obtain ⟨o1, o2, o3, o4, o5⟩ := okR_out ho
  rcases fill_ways h with ⟨h0, hm, rfl⟩ | ⟨h0, rfl, hall, hns⟩ | ⟨h1, h2, rfl⟩ | ⟨h1, h0, k', hk', hm', hre⟩
  · refine ⟨fs_d_t f, nd_leaf o3, fill_dflt re ho hm, (fun h => by rw [hm] at h; exact absurd h (by decide)), fun hh => ?_, .inl rfl⟩
    have hk : f.d.k = f.dk := rfl
    rw [hk] at hh
    rcases o1 with o1 | o1 <;> omega
  · exact ⟨hx, hd, hall re, fun _ => h0, hns, .inr ⟨h0, by omega⟩⟩
  · refine ⟨?_, ?_, ?_, fun _ => by show (23 : Int) ≠ 0; decide, fun hh => absurd hh.2 (by show ¬ (23 : Int) = 20; decide), .inr ⟨by omega, ?_⟩⟩
    · show (V.of 23 0 ⟨#[]⟩ none 0 20 [x]).t = _
      rw [V.t_of]
      show T.of 23 0 ⟨#[]⟩ 20 [x.t] = _
      rw [hx]
    · show Nd (V.of 23 0 ⟨#[]⟩ none 0 20 [x])
      rw [nd_of]
      exact ⟨fault_arr _ _ _ h2, fun z hz => by rw [List.mem_singleton] at hz; subst hz; exact hd⟩
    · unfold fillT
      rw [if_neg (show ¬ V.k (T.of 23 0 ⟨#[]⟩ 20 [x]) = 0 by show ¬ (23 : Int) = 0; decide), if_neg (by omega), if_pos h1, if_neg (show ¬ V.k (T.of 23 0 ⟨#[]⟩ 20 [x]) = 20 by show ¬ (23 : Int) = 20; decide), if_pos (show V.k (T.of 23 0 ⟨#[]⟩ 20 [x]) = 23 ∧ V.e (T.of 23 0 ⟨#[]⟩ 20 [x]) = 20 from ⟨rfl, rfl⟩)]
    · have h3 : T.dp (T.of 23 0 ⟨#[]⟩ 20 [x]) = 2 := by
        show T.dp (V.of 23 0 ⟨#[]⟩ none 0 20 [x]) = 2
        rw [dp_of]
        show mxn [T.dp x] + 1 = 2
        rw [sym_dp hd h2]
        rfl
      omega
  · have hrk := o4 h1 k' hm'
    obtain ⟨q1, q2, q3, q4, q5, q6⟩ := hR x k' hx hd hk' (by omega) t hre
    refine ⟨q1, q2, ?_, fun _ => by rw [q5]; decide, fun hh => by omega, .inr ⟨h0, by omega⟩⟩
    unfold fillT
    rw [if_neg (by rw [q5]; decide), if_neg (by omega), if_neg (by omega), if_pos h1, q4]
    simp only
    rw [if_pos (List.contains_iff_mem.2 hm')]
    exact q3
/-- fields that were filled -/
def Good (re : T → T × Int) (k : Int) (fs : List FS) (ts : List T) : Prop := ts.length = fs.length ∧ (∀ t ∈ ts, t.t = t ∧ Nd t) ∧ (∀ i (h1 : i < ts.length) (h2 : i < fs.length), fillT re fs[i] ts[i] = (ts[i], 0)) ∧ (∀ i (h1 : i < ts.length) (h2 : i < fs.length), fs[i].must = true → ts[i].k ≠ 0) ∧ (∀ i (h1 : i < ts.length) (h2 : i < fs.length), ¬ (fs[i].ty = 101 ∧ ts[i].k = 20))
theorem good_of {re : T → T × Int} {n : Nat} (hR : Re re n) {k : Int} {fs : List FS} (hf : ftab k = some fs) (hn : rk k ≤ n) {xs ts : List T} (hlx : xs.length = fs.length) (hl : ts.length = fs.length) (hx : ∀ x ∈ xs, x.t = x ∧ Nd x)
    (h : ∀ i (h1 : i < ts.length) (h2 : i < fs.length) (h3 : i < xs.length), fillT re fs[i] xs[i] = (ts[i], 0)) : Good re k fs ts := by
  have hg := fun i (h1 : i < ts.length) => fill_good hR (ftab_r hf _ (List.getElem_mem (show i < fs.length by omega))) hn (hx _ (List.getElem_mem (show i < xs.length by omega))).1 (hx _ (List.getElem_mem (show i < xs.length by omega))).2 (h i h1 (by omega) (by omega))
  refine ⟨hl, fun t ht => ?_, fun i h1 h2 => (hg i h1).2.2.1, fun i h1 h2 => (hg i h1).2.2.2.1, fun i h1 h2 => (hg i h1).2.2.2.2.1⟩
  obtain ⟨i, hi, rfl⟩ := List.mem_iff_getElem.1 ht
  exact ⟨(hg i hi).1, (hg i hi).2.1⟩
theorem Good.unp {re : T → T × Int} {k : Int} {fs : List FS} {ts : List T} (h : Good re k fs ts) (hf : ftab k = some fs) : unpT re (laidT k ts) = ((k, ts), 0, 0) := unp_laid hf h.1 (fun t ht => (h.2.1 t ht).1) h.2.2.1 h.2.2.2.1
theorem laid_kind {k : Int} {fs : List FS} (hf : ftab k = some fs) (ts : List T) : kindV (laidT k ts).k (laidT k ts).l = some k := by
  unfold laidT
  show kindV 24 (V.l (V.of 24 0 ⟨#[]⟩ none 0 0 _)) = _
  rw [V.l_of, kindV_two, leaf_t]
  exact kind_num hf
theorem laid_dp {k : Int} {fs : List FS} (hf : ftab k = some fs) {ts : List T} (hl : ts.length = fs.length) (htt : ∀ t ∈ ts, t.t = t) {m : Nat} (hm : 4 ≤ m) (h : ∀ i (h1 : i < ts.length) (h2 : i < fs.length), ts[i] ≠ fs[i].d → T.dp ts[i] + 2 ≤ m) : T.dp (laidT k ts) ≤ m := by
  have hds : dsOf k = fs.map FS.d := by unfold dsOf; rw [hf]; rfl
  unfold laidT
  rw [hds]
  show T.dp (V.of 24 0 ⟨#[]⟩ none 0 0 [leaf 5 k ⟨#[]⟩, V.of 21 0 ⟨#[]⟩ none 0 0 ((outs ts (fs.map FS.d)).take (saidN ts (fs.map FS.d) ts.length))]) ≤ m
  rw [dp_of]
  show mxn [T.dp (leaf 5 k ⟨#[]⟩), T.dp (V.of 21 0 ⟨#[]⟩ none 0 0 ((outs ts (fs.map FS.d)).take (saidN ts (fs.map FS.d) ts.length)))] + 1 ≤ m
  rw [dp_leaf, dp_of]
  have h1 : mxn (((outs ts (fs.map FS.d)).take (saidN ts (fs.map FS.d) ts.length)).map T.dp) ≤ m - 2 := mxn_le (fun y hy => by
    obtain ⟨x, hx, rfl⟩ := List.mem_map.1 hy
    obtain ⟨i, hi, rfl⟩ := List.mem_iff_getElem.1 (List.mem_of_mem_take hx)
    have hol := outs_len ts (fs.map FS.d) (by rw [List.length_map, hl])
    rw [outs_at ts (fs.map FS.d) i (by rw [List.length_map, hl]) (by omega) hi]
    split
    · have : T.dp nul = 1 := dp_leaf _ _ _
      omega
    · rename_i hne
      have := h i (by omega) (by omega) (fun e => hne (by rw [e, List.getElem_map]; exact eqT_refl _))
      omega)
  simp only [mxn]
  omega
theorem fillsT_get (re : T → T × Int) (fs : List FS) (th : List T) (i : Nat) (h : i < (fillsT re fs th).length) (h2 : i < fs.length) : (fillsT re fs th)[i] = fillT re fs[i] ((th[i]?).getD nul) := by
  have h1 : (fillsT re fs th)[i]? = some (fillT re fs[i] ((th[i]?).getD nul)) := by
    unfold fillsT
    rw [List.getElem?_mapIdx, List.getElem?_eq_getElem h2]
    rfl
  rw [List.getElem?_eq_getElem h] at h1
  exact Option.some.inj h1
theorem re_step {N : Nat} (hR : Re (repT N) N) : Re (repT (N + 1)) (N + 1) := by
  intro x k hx hd hk hrk t ht
  have hz : (unpT (repT N) x).2.2 = 0 := by
    refine Decidable.byContradiction fun hne => ?_
    rw [repT, if_pos hne] at ht
    exact hne (Prod.mk.inj ht).2
  obtain ⟨k2, fs, d, y, hk2, hl, h24, hf, h21, hle, hu⟩ := unpT_ok hz
  obtain rfl : k = k2 := Option.some.inj (hk.symm.trans hk2)
  rw [hu] at hz
  obtain ⟨he, hall⟩ := rowT_ok hz
  have htt : t = laidT k ((fillsT (repT N) fs y.l).map Prod.fst) := by
    have hu2 := hu.trans he
    rw [repT, hu2, if_neg (by simp)] at ht
    exact (Prod.mk.inj ht).1.symm
  have hym : y ∈ x.l := by rw [hl]; simp
  have hyt : y.t = y := sub_tree hx hym
  have hyd : Nd y := nd_sub hd hym
  have hxi : ∀ i : Nat, ((y.l[i]?).getD nul).t = (y.l[i]?).getD nul ∧ Nd ((y.l[i]?).getD nul) := fun i => by
    cases hq : y.l[i]? with
    | none => exact ⟨nul_t, nd_nul⟩
    | some z => exact ⟨sub_tree hyt (List.mem_of_getElem? hq), nd_sub hyd (List.mem_of_getElem? hq)⟩
  have hfl := fillsT_len (repT N) fs y.l
  have hfi : ∀ i (h1 : i < (fillsT (repT N) fs y.l).length) (h2 : i < fs.length), fillT (repT N) fs[i] ((y.l[i]?).getD nul) = ((fillsT (repT N) fs y.l)[i].1, 0) := fun i h1 h2 => by
    have h3 : (fillsT (repT N) fs y.l)[i] = fillT (repT N) fs[i] ((y.l[i]?).getD nul) := fillsT_get _ _ _ i h1 h2
    have h4 := hall i h1
    rw [h3] at h4 ⊢
    exact Prod.ext rfl h4
  generalize hts : (fillsT (repT N) fs y.l).map Prod.fst = ts at htt
  have htl : ts.length = fs.length := by rw [← hts, List.length_map, hfl]
  have hfi2 : ∀ i (h1 : i < ts.length) (h2 : i < fs.length), fillT (repT N) fs[i] ((y.l[i]?).getD nul) = (ts[i], 0) := fun i h1 h2 => by
    have h3 : ts[i]? = ((fillsT (repT N) fs y.l).map Prod.fst)[i]? := by rw [hts]
    rw [List.getElem?_eq_getElem h1, List.getElem?_map, List.getElem?_eq_getElem (by omega), Option.map_some] at h3
    rw [hfi i (by omega) h2, Option.some.inj h3]
  have hg : Good (repT N) k fs ts := good_of hR hf (by omega) (xs := (List.range fs.length).map fun (i : Nat) => (y.l[i]?).getD nul) (by simp) htl (fun z hz => by
    obtain ⟨i, _, rfl⟩ := List.mem_map.1 hz
    exact hxi i) (fun i h1 h2 h3 => by
    have : ((List.range fs.length).map fun (i : Nat) => (y.l[i]?).getD nul)[i] = (y.l[i]?).getD nul := by simp
    rw [this]
    exact hfi2 i h1 h2)
  subst htt
  have hpos := ftab_pos hf
  refine ⟨laidT_t _ _ (fun t ht => (hg.2.1 t ht).1), nd_laid (by omega) (fun t ht => (hg.2.1 t ht).2), ?_, laid_kind hf ts, rfl, ?_⟩
  · rw [repT, hg.unp hf, if_neg (by simp)]
  · refine laid_dp hf htl (fun t ht => (hg.2.1 t ht).1) (by omega) (fun i h1 h2 hne => ?_)
    have hgi := (fill_good hR (ftab_r hf _ (List.getElem_mem h2)) (by omega) (hxi i).1 (hxi i).2 (hfi2 i h1 h2)).2.2.2.2.2
    rcases hgi with e | ⟨h0, hdp⟩
    · exact absurd e hne
    · have hxm : (y.l[i]?).getD nul ∈ y.l := by
        cases hq : y.l[i]? with
        | none => rw [hq] at h0; exact absurd rfl h0
        | some z => exact List.mem_of_getElem? hq
      have e1 := dp_mem hxm
      have e2 := dp_mem hym
      omega
theorem re_all : ∀ N, Re (repT N) N := by
  intro N
  induction N with
  | zero => intro x k _ _ _ h; omega
  | succ N ih => exact re_step ih
theorem rk_le (k : Int) : rk k ≤ 3 := by
  unfold rk
  split
  · omega
  · split
    · omega
    · split <;> omega
theorem rep_re : Re rep 40 := re_all 40
end Go.Proofs.YtlpngpininkjnaaGreatDoor


/- Pack and Unpack there and back: no program. -/
namespace Go.Proofs.YtlpngpininkjnaaGreatDoor
open Go.RowKit
set_option linter.unusedVariables false
set_option linter.unusedSimpArgs false
theorem good_dp {re : T → T × Int} {n : Nat} (hR : Re re n) {k : Int} {fs : List FS} (hf : ftab k = some fs) (hn : rk k ≤ n) {xs ts : List T} (hlx : xs.length = fs.length) (hl : ts.length = fs.length) (hx : ∀ x ∈ xs, x.t = x ∧ Nd x) (hxd : ∀ x ∈ xs, T.dp x ≤ 32)
    (h : ∀ i (h1 : i < ts.length) (h2 : i < fs.length) (h3 : i < xs.length), fillT re fs[i] xs[i] = (ts[i], 0)) : ∀ t ∈ ts, T.dp t ≤ 32 := by
  intro t ht
  obtain ⟨i, hi, rfl⟩ := List.mem_iff_getElem.1 ht
  have h1 : i < xs.length := by omega
  have hg := (fill_good hR (ftab_r hf _ (List.getElem_mem (show i < fs.length by omega))) hn (hx _ (List.getElem_mem h1)).1 (hx _ (List.getElem_mem h1)).2 (h i hi (by omega) h1)).2.2.2.2.2
  rcases hg with e | ⟨_, hd⟩
  · rw [e]
    have : T.dp (fs[i]'(by omega)).d = 1 := dp_leaf _ _ _
    omega
  · have := hxd _ (List.getElem_mem h1)
    have := rk_le k
    omega
/-- what Unpack answers where it is right -/
theorem unpR_good {v : V} (h : (unpR v).2.2 = 0) : ∃ k fs ts, unpR v = ((k, ts), 0, 0) ∧ ftab k = some fs ∧ Good rep k fs ts ∧ T.dp (laidT k ts) ≤ 32 ∧ ∀ t ∈ ts, T.dp t ≤ 32 := by
  unfold unpR at h ⊢
  by_cases hc : chkE v = 0
  · rw [if_neg (by simpa using hc)] at h ⊢
    obtain ⟨hnd, hdp⟩ := (chk_iff v).1 hc
    rw [← nd_t] at hnd
    rw [← dp_t] at hdp
    have hx := t_t v
    generalize v.t = x at h hnd hdp hx ⊢
    obtain ⟨k, fs, d, y, hk, hl, h24, hf, h21, hle, hu⟩ := unpT_ok h
    have hrk := rk_le k
    rw [hu] at h
    obtain ⟨he, hall⟩ := rowT_ok h
    have hym : y ∈ x.l := by rw [hl]; simp
    have hyt : y.t = y := sub_tree hx hym
    have hyd : Nd y := nd_sub hnd hym
    have hyp := dp_mem hym
    have hxi : ∀ i : Nat, (((y.l[i]?).getD nul).t = (y.l[i]?).getD nul ∧ Nd ((y.l[i]?).getD nul)) ∧ T.dp ((y.l[i]?).getD nul) ≤ 32 ∧ (((y.l[i]?).getD nul).k ≠ 0 → T.dp ((y.l[i]?).getD nul) + 2 ≤ 32) := fun i => by
      cases hq : y.l[i]? with
      | none => exact ⟨⟨nul_t, nd_nul⟩, by show T.dp nul ≤ 32; rw [show T.dp nul = 1 from dp_leaf _ _ _]; omega, fun h0 => absurd rfl h0⟩
      | some z =>
        have hz := dp_mem (List.mem_of_getElem? hq)
        exact ⟨⟨sub_tree hyt (List.mem_of_getElem? hq), nd_sub hyd (List.mem_of_getElem? hq)⟩, by show T.dp z ≤ 32; omega, fun _ => by show T.dp z + 2 ≤ 32; omega⟩
    have hfl := fillsT_len rep fs y.l
    have hfi : ∀ i (h1 : i < (fillsT rep fs y.l).length) (h2 : i < fs.length), fillT rep fs[i] ((y.l[i]?).getD nul) = ((fillsT rep fs y.l)[i].1, 0) := fun i h1 h2 => by
      have h3 : (fillsT rep fs y.l)[i] = fillT rep fs[i] ((y.l[i]?).getD nul) := fillsT_get _ _ _ i h1 h2
      have h4 := hall i h1
      rw [h3] at h4 ⊢
      exact Prod.ext rfl h4
    rw [hu, he]
    generalize hts : (fillsT rep fs y.l).map Prod.fst = ts
    have htl : ts.length = fs.length := by rw [← hts, List.length_map, hfl]
    have hfi2 : ∀ i (h1 : i < ts.length) (h2 : i < fs.length), fillT rep fs[i] ((y.l[i]?).getD nul) = (ts[i], 0) := fun i h1 h2 => by
      have h3 : ts[i]? = ((fillsT rep fs y.l).map Prod.fst)[i]? := by rw [hts]
      rw [List.getElem?_eq_getElem h1, List.getElem?_map, List.getElem?_eq_getElem (by omega), Option.map_some] at h3
      rw [hfi i (by omega) h2, Option.some.inj h3]
    have hxs : ∀ z ∈ (List.range fs.length).map fun (i : Nat) => (y.l[i]?).getD nul, (z.t = z ∧ Nd z) ∧ T.dp z ≤ 32 := fun z hz => by
      obtain ⟨i, _, rfl⟩ := List.mem_map.1 hz
      exact ⟨(hxi i).1, (hxi i).2.1⟩
    have hfx : ∀ i (h1 : i < ts.length) (h2 : i < fs.length) (h3 : i < ((List.range fs.length).map fun (i : Nat) => (y.l[i]?).getD nul).length), fillT rep fs[i] ((List.range fs.length).map fun (i : Nat) => (y.l[i]?).getD nul)[i] = (ts[i], 0) := fun i h1 h2 h3 => by
      have : ((List.range fs.length).map fun (i : Nat) => (y.l[i]?).getD nul)[i] = (y.l[i]?).getD nul := by simp
      rw [this]
      exact hfi2 i h1 h2
    have hg := good_of rep_re hf (by omega) (by simp) htl (fun z hz => (hxs z hz).1) hfx
    refine ⟨k, fs, ts, rfl, hf, hg, ?_, good_dp rep_re hf (by omega) (by simp) htl (fun z hz => (hxs z hz).1) (fun z hz => (hxs z hz).2) hfx⟩
    refine laid_dp hf htl (fun t ht => (hg.2.1 t ht).1) (by omega) (fun i h1 h2 hne => ?_)
    have hgi := (fill_good rep_re (ftab_r hf _ (List.getElem_mem h2)) (show rk k ≤ 40 by omega) (hxi i).1.1 (hxi i).1.2 (hfi2 i h1 h2)).2.2.2.2.2
    rcases hgi with e | ⟨h0, hdp2⟩
    · exact absurd e hne
    · have := (hxi i).2.2 h0
      omega
  · rw [if_pos hc] at h
    exact absurd h hc
/-- what Pack makes where it is right -/
theorem packR_good {kind : Int} {l : List V} (h : (packR kind l).2 = 0) : ∃ fs ts, packR kind l = (laidT kind ts, 0) ∧ ftab kind = some fs ∧ l.length = fs.length ∧ Good rep kind fs ts ∧ T.dp (laidT kind ts) ≤ 32 ∧ ∀ t ∈ ts, T.dp t ≤ 32 := by
  obtain ⟨fs, ts, hf, hl, htl, he, hdp, hall⟩ := packR_ok h
  have hrk := rk_le kind
  have hchk : ∀ i (h1 : i < l.length), chkE l[i] = 0 := fun i h1 => by
    have h2 := (hall i (by omega) (by omega) h1).2
    exact (chkV_ok (by rw [h2])).2
  have hxs : ∀ z ∈ V.ts l, (z.t = z ∧ Nd z) ∧ T.dp z ≤ 32 := fun z hz => by
    rw [V.ts_map] at hz
    obtain ⟨v, hv, rfl⟩ := List.mem_map.1 hz
    obtain ⟨i, hi, rfl⟩ := List.mem_iff_getElem.1 hv
    obtain ⟨h1, h2⟩ := (chk_iff _).1 (hchk i hi)
    exact ⟨⟨t_t _, (nd_t _).2 h1⟩, by rw [dp_t]; exact h2⟩
  have hfx : ∀ i (h1 : i < ts.length) (h2 : i < fs.length) (h3 : i < (V.ts l).length), fillT rep fs[i] (V.ts l)[i] = (ts[i], 0) := fun i h1 h2 h3 => by
    have h4 : i < l.length := by rw [V.ts_length] at h3; exact h3
    have : (V.ts l)[i] = l[i].t := by simp only [V.ts_map, List.getElem_map]
    rw [this]
    exact (hall i h1 h2 h4).1
  exact ⟨fs, ts, he, hf, hl, good_of rep_re hf (by omega) (by rw [V.ts_length, hl]) htl (fun z hz => (hxs z hz).1) hfx, hdp, good_dp rep_re hf (by omega) (by rw [V.ts_length, hl]) htl (fun z hz => (hxs z hz).1) (fun z hz => (hxs z hz).2) hfx⟩
/-- what is right is packed -/
theorem pack_of_good {k : Int} {fs : List FS} {ts : List T} (hf : ftab k = some fs) (hg : Good rep k fs ts) (hdp : T.dp (laidT k ts) ≤ 32) (htd : ∀ t ∈ ts, T.dp t ≤ 32) {ys : List V} (hy : V.ts ys = ts) : packR k ys = (laidT k ts, 0) := by
  have hyl : ys.length = fs.length := by rw [← V.ts_length, hy]; exact hg.1
  have hyi : ∀ i (h1 : i < ys.length) (h2 : i < ts.length), ys[i].t = ts[i] := fun i h1 h2 => by
    have h3 : (V.ts ys)[i]? = ts[i]? := by rw [hy]
    rw [V.ts_map, List.getElem?_map, List.getElem?_eq_getElem h1, List.getElem?_eq_getElem h2] at h3
    exact Option.some.inj h3
  have hz : List.zipWith (chkV rep) fs ys = ts.map fun t => (t, (0 : Int)) := by
    refine List.ext_getElem (by rw [List.length_zipWith, List.length_map, hyl, Nat.min_self, hg.1]) (fun i h1 h2 => ?_)
    have hi : i < ts.length := by simpa using h2
    have hif : i < fs.length := by rw [← hg.1]; exact hi
    have hiy : i < ys.length := by omega
    rw [List.getElem_zipWith, List.getElem_map]
    have e := hyi i hiy hi
    have hk : (ys[i]'hiy).k = ts[i].k := by rw [← e, k_t]
    unfold chkV
    rw [if_neg, if_neg, if_neg]
    · rw [e]
      exact hg.2.2.1 i hi hif
    · rw [hk]
      exact hg.2.2.2.2 i hi hif
    · have hc : chkE (ys[i]'hiy) = 0 := (chk_iff _).2 ⟨(nd_t _).1 (by rw [e]; exact (hg.2.1 _ (List.getElem_mem hi)).2), by rw [← dp_t, e]; exact htd _ (List.getElem_mem hi)⟩
      simpa using hc
    · intro hm
      rw [Bool.and_eq_true, decide_eq_true_eq, hk] at hm
      exact hg.2.2.2.1 i hi hif hm.1 hm.2
  unfold packR packT
  simp only [hf]
  rw [if_neg (by simpa using hyl), hz, rowT_good (fun j hj => by rw [List.getElem_map])]
  have hm : (ts.map fun t => (t, (0 : Int))).map Prod.fst = ts := by
    rw [List.map_map]
    conv => rhs; rw [← List.map_id ts]
    rfl
  rw [hm]
  unfold endT
  rw [if_neg (by simp), if_neg (by simpa using hdp)]
/-- what is laid is unpacked -/
theorem unp_of_good {k : Int} {fs : List FS} {ts : List T} (hf : ftab k = some fs) (hg : Good rep k fs ts) (hdp : T.dp (laidT k ts) ≤ 32) {w : V} (hw : w.t = laidT k ts) : unpR w = ((k, ts), 0, 0) := by
  have hpos := ftab_pos hf
  have hc : chkE w = 0 := (chk_iff w).2 ⟨(nd_t w).1 (by rw [hw]; exact nd_laid (by omega) (fun t ht => (hg.2.1 t ht).2)), by rw [← dp_t, hw]; exact hdp⟩
  unfold unpR
  rw [if_neg (by simpa using hc), hw]
  exact hg.unp hf
end Go.Proofs.YtlpngpininkjnaaGreatDoor
