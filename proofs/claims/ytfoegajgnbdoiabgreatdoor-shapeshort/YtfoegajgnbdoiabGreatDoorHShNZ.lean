import Derived.Test.YtfoegajgnbdoiabGreatDoorHGFaceZ
import Derived.Test.YtfoegajgnbdoiabGreatDoorHLiveZ
import Derived.Test.YtfoegajgnbdoiabGreatDoorVWeighAZ

/- What Pack makes: its form. -/
namespace Go.Proofs.YtfoegajgnbdoiabGreatDoor
open Go.RowKit
set_option linter.unusedVariables false
set_option linter.unusedSimpArgs false
theorem repT_k {N : Nat} {x : T} (h : (repT (N + 1) x).2 = 0) : (repT (N + 1) x).1.k = 24 := by
  unfold repT at h ⊢
  split at h
  · rename_i hne
    exact absurd h hne
  · rename_i hz
    rw [if_neg hz]
    rfl
theorem rep_k {x : T} (h : (rep x).2 = 0) : (rep x).1.k = 24 := repT_k h
/-- what fills a field is Null only where that is its default -/
theorem fillT_null {s : FS} {x : T} (h : (fillT rep s x).2 = 0) (hk : (fillT rep s x).1.k = 0) : (fillT rep s x).1 = s.d := by
  unfold fillT at h hk ⊢
  by_cases h0 : x.k = 0
  · rw [if_pos h0] at h hk ⊢
    cases hm : s.must
    · rfl
    · simp [hm] at h
  · rw [if_neg h0] at h hk ⊢
    exfalso
    by_cases h1 : s.ty = 100
    · rw [if_pos h1] at hk; exact h0 hk
    rw [if_neg h1] at h hk
    by_cases h2 : s.ty = 101
    · rw [if_pos h2] at h hk
      by_cases h3 : x.k = 20
      · rw [if_pos h3] at hk
        exact absurd hk (by show ¬ (23 : Int) = 0; decide)
      · rw [if_neg h3] at h hk
        by_cases h4 : x.k = 23 ∧ x.e = 20
        · rw [if_pos h4] at hk; exact h0 hk
        · rw [if_neg h4] at h; exact absurd h (by decide)
    rw [if_neg h2] at h hk
    by_cases h3 : s.ty = 102
    · rw [if_pos h3] at h hk
      cases hkv : kindV x.k x.l with
      | none => simp [hkv] at h
      | some k =>
        rw [hkv] at h hk
        dsimp only at h hk
        by_cases h4 : s.ks.contains k = true
        · rw [if_pos h4] at h hk
          rw [rep_k h] at hk
          exact absurd hk (by decide)
        · rw [if_neg h4] at h; exact absurd h (by decide)
    rw [if_neg h3] at h hk
    by_cases h4 : x.k = s.ty
    · rw [if_pos h4] at hk; exact h0 hk
    · rw [if_neg h4] at h; exact absurd h (by decide)
theorem chkV_ok {s : FS} {v : V} (h : (chkV rep s v).2 = 0) : chkV rep s v = fillT rep s v.t ∧ chkE v = 0 := by
  unfold chkV at h ⊢
  by_cases h1 : (s.must && decide (v.k = 0)) = true
  · rw [if_pos h1] at h; exact absurd h (by decide)
  rw [if_neg h1] at h ⊢
  by_cases h2 : chkE v = 0
  · rw [if_neg (by simpa using h2)] at h ⊢
    by_cases h3 : s.ty = 101 ∧ v.k = 20
    · rw [if_pos h3] at h; exact absurd h (by decide)
    · rw [if_neg h3]; exact ⟨rfl, h2⟩
  · rw [if_pos h2] at h; exact absurd h h2
/-- a record that is packed -/
theorem packR_ok {kind : Int} {l : List V} (h : (packR kind l).2 = 0) : ∃ fs ts, ftab kind = some fs ∧ l.length = fs.length ∧ ts.length = fs.length ∧ packR kind l = (laidT kind ts, 0) ∧ T.dp (laidT kind ts) ≤ 32 ∧
    ∀ i (h1 : i < ts.length) (h2 : i < fs.length) (h3 : i < l.length), fillT rep fs[i] l[i].t = (ts[i], 0) ∧ chkV rep fs[i] l[i] = (ts[i], 0) := by
  unfold packR packT at h ⊢
  cases hf : ftab kind with
  | none => simp [hf] at h
  | some fs =>
    rw [hf] at h
    dsimp only at h ⊢
    by_cases hl : l.length = fs.length
    · rw [if_neg (by simpa using hl)] at h ⊢
      generalize hr : rowT kind (List.zipWith (chkV rep) fs l) = r at h ⊢
      unfold endT at h ⊢
      by_cases hz : r.2.2 = 0
      · rw [if_neg (by simpa using hz)] at h ⊢
        rw [← hr] at hz
        obtain ⟨he, hall⟩ := rowT_ok hz
        rw [he] at hr
        rw [← hr] at h ⊢
        dsimp only at h ⊢
        by_cases hd : 32 < T.dp (laidT kind ((List.zipWith (chkV rep) fs l).map Prod.fst))
        · rw [if_pos hd] at h; exact absurd h (by decide)
        · rw [if_neg hd]
          refine ⟨fs, (List.zipWith (chkV rep) fs l).map Prod.fst, rfl, hl, by rw [List.length_map, List.length_zipWith, hl, Nat.min_self], rfl, by omega, ?_⟩
          intro i h1 h2 h3
          have hz1 : i < (List.zipWith (chkV rep) fs l).length := by simpa using h1
          have hq := hall i hz1
          rw [List.getElem_zipWith] at hq
          rw [List.getElem_map, List.getElem_zipWith]
          have hc := chkV_ok hq
          refine ⟨?_, ?_⟩
          · rw [← hc.1]; exact Prod.ext rfl hq
          · exact Prod.ext rfl hq
      · rw [if_pos hz] at h; exact absurd h hz
    · rw [if_pos hl] at h; exact absurd h (by decide)
theorem eqT_refl (x : T) : eqT x x = true := by
  have h := neg_ord x x
  have h0 : T.ord x x = 0 := by omega
  unfold eqT
  simp [h0]
theorem outs_at (l ds : List V) (i : Nat) (h : ds.length = l.length) (hi : i < l.length) (ho : i < (outs l ds).length) : (outs l ds)[i] = if eqT l[i].t (ds[i]'(by omega)).t = true then nul else l[i] := by
  have h1 := outs_get l ds i h hi
  rw [List.getElem?_eq_getElem ho] at h1
  exact Option.some.inj h1
theorem saidN_pos (l ds : List V) (h : ds.length = l.length) : ∀ n, n ≤ l.length → 0 < saidN l ds n → ∃ (h1 : saidN l ds n - 1 < l.length), eqT (l[saidN l ds n - 1]'h1).t (ds[saidN l ds n - 1]'(by omega)).t = false := by
  intro n
  induction n with
  | zero => intro _ h0; exact absurd h0 (by simp [saidN])
  | succ n ih =>
    intro hn h0
    have hs := saidN_step l ds n (by omega) (by omega)
    by_cases he : eqT l[n].t (ds[n]'(by omega)).t = true
    · rw [if_pos he] at hs
      rw [hs] at h0
      obtain ⟨h1, h2⟩ := ih (by omega) h0
      simp only [hs]
      exact ⟨h1, h2⟩
    · rw [if_neg he] at hs
      have e : saidN l ds (n + 1) - 1 = n := by omega
      simp only [e]
      exact ⟨by omega, Bool.eq_false_iff.2 he⟩
end Go.Proofs.YtfoegajgnbdoiabGreatDoor


/- What is laid is short. -/
namespace Go.Proofs.YtfoegajgnbdoiabGreatDoor
open Go.RowKit
set_option linter.unusedVariables false
set_option linter.unusedSimpArgs false
theorem lies_bare {n₀ : Nat} {w : World} {x : V} (h : Lies n₀ w x) : Lies n₀ w (V.of 0 0 ⟨#[]⟩ x.a x.c 0 x.l) := by
  obtain ⟨k, n, s, a, c, e, l, rfl⟩ := V.ex x
  rw [V.a_of, V.c_of, V.l_of]
  have ho := h.ok
  exact .mk ⟨by decide, by decide, by decide, by decide, ho.l, ho.c⟩ (fun h0 => h.row h0) (fun x hx => h.sub x hx)
/-- a value that reads as what is laid -/
theorem form_laid {y : V} {k : Int} {ts : List T} (h : y.t = laidT k ts) : ∃ a2 c2 d a3 c3 ol, y = V.of 24 0 ⟨#[]⟩ a2 c2 0 [d, V.of 21 0 ⟨#[]⟩ a3 c3 0 ol] ∧ d.t = leaf 5 k ⟨#[]⟩ ∧ V.ts ol = (outs ts (dsOf k)).take (saidN ts (dsOf k) ts.length) := by
  obtain ⟨k1, n1, s1, a1, c1, e1, l1, rfl⟩ := V.ex y
  rw [V.t_of] at h
  unfold laidT at h
  obtain ⟨rfl, rfl, rfl, rfl, hl⟩ := T_inj h
  have hlen : l1.length = 2 := by have := congrArg List.length hl; rwa [V.ts_length] at this
  match l1, hlen, hl with
  | [d, m], _, hl =>
    have h1 := (List.cons.inj hl).1
    have h2 := (List.cons.inj (List.cons.inj hl).2).1
    obtain ⟨k2, n2, s2, a2, c2, e2, l2, rfl⟩ := V.ex m
    rw [V.t_of] at h2
    obtain ⟨rfl, rfl, rfl, rfl, hl2⟩ := T_inj h2
    exact ⟨a1, c1, d, a2, c2, l2, rfl, h1, hl2⟩
/-- what is laid has no default in it, and no Null at its end -/
theorem laid_short {ol : List V} {ts : List T} {ds : List V} (hd : ds.length = ts.length) (hnul : ∀ i (h1 : i < ts.length) (h2 : i < ds.length), ts[i].k = 0 → ts[i] = ds[i]) (htt : ∀ t ∈ ts, t.t = t) (hdd : ∀ d ∈ ds, d.t = d) (h : V.ts ol = (outs ts ds).take (saidN ts ds ts.length)) :
    ol.length ≤ ts.length ∧ (∀ (h0 : 0 < ol.length), (ol[ol.length - 1]'(by omega)).k ≠ 0) ∧ ∀ i (h1 : i < ol.length) (h2 : i < ds.length), eqT ol[i].t ds[i].t = true → ol[i].k = 0 := by
  have hsn := saidN_le ts ds ts.length
  have hol := outs_len ts ds hd
  have hlen : ol.length = saidN ts ds ts.length := by
    have := congrArg List.length h
    rw [V.ts_length, List.length_take, hol] at this
    omega
  have hat : ∀ i (h1 : i < ol.length), ol[i].t = if eqT (ts[i]'(by omega)).t (ds[i]'(by omega)).t = true then nul else ts[i]'(by omega) := fun i h1 => by
    have h2 : (V.ts ol)[i]? = ((outs ts ds).take (saidN ts ds ts.length))[i]? := by rw [h]
    rw [V.ts_map, List.getElem?_map, List.getElem?_eq_getElem h1, List.getElem?_take_of_lt (by omega), outs_get ts ds i hd (by omega)] at h2
    exact Option.some.inj h2
  refine ⟨by omega, fun h0 => ?_, fun i h1 h2 he => ?_⟩
  · intro hk
    obtain ⟨h1, h2⟩ := saidN_pos ts ds hd ts.length (Nat.le_refl _) (by omega)
    have h3 := hat (ol.length - 1) (by omega)
    simp only [hlen] at h3 hk
    rw [if_neg (by rw [h2]; decide)] at h3
    have h4 : (ts[saidN ts ds ts.length - 1]'h1).k = 0 := by rw [← h3, k_t]; exact hk
    have h5 := hnul _ h1 (by omega) h4
    rw [h5, eqT_refl] at h2
    cases h2
  · have h3 := hat i h1
    by_cases he2 : eqT (ts[i]'(by omega)).t (ds[i]'(by omega)).t = true
    · rw [if_pos he2] at h3
      rw [← k_t, h3]
      rfl
    · rw [if_neg he2] at h3
      rw [h3] at he
      rw [htt _ (List.getElem_mem _)] at he2
      exact absurd he he2
theorem laidT_t (k : Int) (l : List T) (h : ∀ t ∈ l, t.t = t) : (laidT k l).t = laidT k l := by
  have hl : V.ts l = l := by
    rw [V.ts_map]
    conv => rhs; rw [← List.map_id l]
    exact List.map_congr_left fun x hx => h x hx
  have hd : V.ts (dsOf k) = dsOf k := ds_ts _
  unfold laidT
  show (V.of 24 0 ⟨#[]⟩ none 0 0 [leaf 5 k ⟨#[]⟩, V.of 21 0 ⟨#[]⟩ none 0 0 ((outs l (dsOf k)).take (saidN l (dsOf k) l.length))]).t = _
  rw [V.t_of]
  show T.of 24 0 ⟨#[]⟩ 0 [(leaf 5 k ⟨#[]⟩).t, (V.of 21 0 ⟨#[]⟩ none 0 0 ((outs l (dsOf k)).take (saidN l (dsOf k) l.length))).t] = _
  rw [leaf_t, V.t_of, V.ts_map, List.map_take, ← V.ts_map, outs_ts, hl, hd]
theorem fillT_t {re : T → T × Int} (hre : ∀ x : T, x.t = x → (re x).1.t = (re x).1) (s : FS) {x : T} (hx : x.t = x) : (fillT re s x).1.t = (fillT re s x).1 := by
  unfold fillT
  split
  · split
    · exact nul_t
    · exact fs_d_t s
  · split
    · exact hx
    · split
      · split
        · show (V.of 23 0 ⟨#[]⟩ none 0 20 [x]).t = _
          rw [V.t_of]
          show T.of 23 0 ⟨#[]⟩ 20 [x.t] = _
          rw [hx]
        · split
          · exact hx
          · exact nul_t
      · split
        · split
          · split
            · exact hre x hx
            · exact nul_t
          · exact nul_t
        · split
          · exact hx
          · exact nul_t
theorem sub_tree {x y : T} (hx : x.t = x) (h : y ∈ x.l) : y.t = y := by
  have h1 : V.ts x.l = x.l := by rw [← l_t, hx]
  rw [← h1, V.ts_map] at h
  obtain ⟨z, _, rfl⟩ := List.mem_map.1 h
  exact t_t z
theorem repT_t (N : Nat) : ∀ x : T, x.t = x → (repT N x).1.t = (repT N x).1 := by
  induction N with
  | zero => intro x _; exact nul_t
  | succ N ih =>
    intro x hx
    unfold repT
    split
    · exact nul_t
    · rename_i hz
      have hz' : (unpT (repT N) x).2.2 = 0 := Decidable.byContradiction hz
      obtain ⟨k, fs, d, y, _, hl, _, _, _, _, hu⟩ := unpT_ok hz'
      rw [hu] at hz' ⊢
      obtain ⟨he, _⟩ := rowT_ok hz'
      rw [he]
      refine laidT_t _ _ (fun t ht => ?_)
      obtain ⟨r, hr, rfl⟩ := List.mem_map.1 ht
      unfold fillsT at hr
      obtain ⟨i, hi, rfl⟩ := List.mem_iff_getElem.1 hr
      rw [List.getElem_mapIdx]
      refine fillT_t ih _ ?_
      have hy : y.t = y := sub_tree hx (by rw [hl]; simp)
      cases hq : y.l[i]? with
      | none => exact nul_t
      | some z => exact sub_tree hy (List.mem_of_getElem? hq)
theorem fill_tree {s : FS} {v : V} {t : T} (h : fillT rep s v.t = (t, 0)) : t.t = t := by
  have := fillT_t (re := rep) (repT_t 40) s (t_t v)
  rw [h] at this
  exact this
end Go.Proofs.YtfoegajgnbdoiabGreatDoor
