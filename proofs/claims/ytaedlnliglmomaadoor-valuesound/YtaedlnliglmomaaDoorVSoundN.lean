/- ValueSound's mathematics: lists and maps. -/
import Derived.Test.YtaedlnliglmomaaDoorVSoundM
import Derived.RangeFuncOwn
namespace Go.Proofs.YtaedlnliglmomaaDoor
open Go.RowKit
set_option linter.unusedVariables false
set_option linter.unusedSimpArgs false

theorem nilTL : (⟨#[]⟩ : ByteArray).toList = [] := by
  first | (unfold ByteArray.toList ByteArray.toList.loop; rfl) | (unfold ByteArray.toList; rw [ByteArray.toList.loop]; rfl) | (simp [ByteArray.toList, ByteArray.toList.loop, ByteArray.size]; done)
theorem firstE_bareS (p q : List (Int × V)) (h : bare p = bare q) : firstE checkZ p = firstE checkZ q := by
  induction p generalizing q with
  | nil =>
    cases q with
    | nil => rfl
    | cons y q => simp [bare] at h
  | cons x p ih =>
    cases q with
    | nil => simp [bare] at h
    | cons y q =>
      simp only [bare, List.map_cons, List.cons.injEq] at h
      obtain ⟨h1, h2⟩ := h
      have hz : checkZ x = checkZ y := by
        unfold checkZ
        simp only [Prod.mk.injEq] at h1
        rw [h1.1, h1.2]
      rw [firstE, firstE, hz, ih q h2]
theorem bare_appendS (p q : List (Int × V)) : bare (p ++ q) = bare p ++ bare q := by unfold bare; simp
theorem all_bareS : ∀ x : V, ∀ (y : V) (d : Int), x.t = y.t → bare (x.all d) = bare (y.all d) := by
  refine V.ind ?_
  intro k n s a c e l ih y d h
  obtain ⟨k', n', s', a', c', e', m, rfl⟩ := V.ex y
  have h' := h
  rw [V.t_of, V.t_of] at h
  obtain ⟨rfl, rfl, rfl, _, _, rfl, hl⟩ := V.of_inj h
  rw [V.all_of, V.all_of]
  have hall : ∀ (l m : List V), (∀ x ∈ l, ∀ (y : V) (d : Int), x.t = y.t → bare (x.all d) = bare (y.all d)) → V.ts l = V.ts m → bare (V.alls (wrap64 (d + 1)) l) = bare (V.alls (wrap64 (d + 1)) m) := by
    intro l
    induction l with
    | nil =>
      intro m _ hm
      cases m with
      | nil => rfl
      | cons y m => simp [V.ts] at hm
    | cons x l ihl =>
      intro m hi hm
      cases m with
      | nil => simp [V.ts] at hm
      | cons y m =>
        simp only [V.ts, List.cons.injEq] at hm
        rw [V.alls, V.alls, bare_appendS, bare_appendS, hi x (by simp) y _ hm.1, ihl m (fun z hz => hi z (by simp [hz])) hm.2]
  have := hall l m ih hl
  unfold bare at this ⊢
  rw [List.map_cons, List.map_cons, this, h']
theorem check_sameS {x y : V} (h : x.t = y.t) (d : Int) : firstE checkZ (x.all d) = firstE checkZ (y.all d) := firstE_bareS _ _ (all_bareS x y d h)
/-- it may stand in another one -/
def Inn (x : V) : Prop := firstE checkZ (x.all 1) = 0 ∧ mx (x.all 1) < 32
theorem inn_iff (x : V) (hw : T.wt x.t ≤ 100000) : (∀ p ∈ x.all 2, checkZ p = 0) ↔ Inn x := by
  rw [at_iff x hw 2 (by omega) (by omega)]
  unfold Inn
  rw [good_iff x hw]
  exact ⟨fun h => ⟨⟨by omega, h.2⟩, by omega⟩, fun h => ⟨by omega, h.1.2⟩⟩
theorem row_iff (K : Int) (L : List V) (y : V) (hy : y.t = T.of K 0 ⟨#[]⟩ 0 (V.ts L)) (hw : ∀ x ∈ L, T.wt x.t ≤ 100000) : firstE checkZ (y.all 1) = 0 ↔ faultT 1 y.t = 0 ∧ ∀ x ∈ L, Inn x := by
  have ht : y.t = (V.of K 0 ⟨#[]⟩ none 0 0 L).t := by rw [hy, V.t_of]
  rw [check_sameS ht 1, firstE_zero, V.all_of, ht, sm_wrap (by omega) (by omega)]
  simp only [List.mem_cons, forall_eq_or_imp]
  refine and_congr Iff.rfl ⟨fun h x hx => ?_, fun h p hp => ?_⟩
  · exact (inn_iff x (hw x hx)).1 (fun p hp => h p (alls_mem.2 ⟨x, hx, hp⟩))
  · obtain ⟨x, hx, hpx⟩ := alls_mem.1 hp
    exact (inn_iff x (hw x hx)).2 (h x hx) p hpx
theorem list_fault (y : V) (L : List V) (hy : y.t = T.of 21 0 ⟨#[]⟩ 0 (V.ts L)) : faultT 1 y.t = 0 := by
  have ht : y.t = (V.of 21 0 ⟨#[]⟩ none 0 0 L).t := by rw [hy, V.t_of]
  rw [ht, faultT_of]
  have h1 : extraT 21 0 ⟨#[]⟩ L.length 0 = false := by
    unfold extraT
    simp [nilTL]
  have h2 : numT 21 0 = true := by unfold numT; simp
  have h3 : textT 21 ⟨#[]⟩ = true := by unfold textT; simp
  rw [h1, h2, h3]
  unfold faultB
  simp
theorem map_fault (y : V) (L : List V) (hy : y.t = T.of 22 0 ⟨#[]⟩ 0 (V.ts L)) : faultT 1 y.t = 0 ↔ mapT (V.ts L) = true := by
  have ht : y.t = (V.of 22 0 ⟨#[]⟩ none 0 0 L).t := by rw [hy, V.t_of]
  rw [ht, faultT_of]
  have h1 : extraT 22 0 ⟨#[]⟩ L.length 0 = false := by
    unfold extraT
    simp [nilTL]
  have h2 : numT 22 0 = true := by unfold numT; simp
  have h3 : textT 22 ⟨#[]⟩ = true := by unfold textT; simp
  rw [h1, h2, h3]
  unfold faultB
  cases mapT (V.ts L) <;> simp
theorem list_iff (v y : V) (hy : y.t = T.of 21 0 ⟨#[]⟩ 0 (V.ts [v])) (hw : T.wt v.t ≤ 100000) : firstE checkZ (y.all 1) = 0 ↔ Inn v := by
  rw [row_iff 21 [v] y hy (by simpa using hw)]
  simp [list_fault y [v] hy]
theorem map4 (v k l : V) : mapT (V.ts [k, v, l, k]) = true ↔ T.ord k.t l.t ≠ 0 := by
  simp [mapT, V.ts, evens, nodupT, eqT]
theorem map_iff (v k l y : V) (hy : y.t = T.of 22 0 ⟨#[]⟩ 0 (V.ts [k, v, l, k])) (hv : T.wt v.t ≤ 100000) (hk : T.wt k.t ≤ 100000) (hl : T.wt l.t ≤ 100000) :
    firstE checkZ (y.all 1) = 0 ↔ Inn v ∧ Inn k ∧ Inn l ∧ T.ord k.t l.t ≠ 0 := by
  rw [row_iff 22 [k, v, l, k] y hy (by simp [hv, hk, hl]), map_fault y _ hy, map4]
  simp only [List.mem_cons, List.not_mem_nil, or_false, forall_eq_or_imp, forall_eq]
  exact ⟨fun ⟨h, h1, h2, h3, h4⟩ => ⟨h2, h1, h3, h⟩, fun ⟨h1, h2, h3, h4⟩ => ⟨h4, h2, h1, h3, h2⟩⟩
theorem eqT_selfS (x : T) : eqT x x = true := by
  unfold eqT
  have := neg_ord x x
  simp only [decide_eq_true_eq]
  omega
theorem find4 (v k l m : V) (hm : m.t = T.of 22 0 ⟨#[]⟩ 0 (V.ts [k, v, l, k])) : findT m.t k.t = some v.t ∧ (T.ord k.t l.t ≠ 0 → findT m.t l.t = some k.t) := by
  rw [hm]
  have h22 : V.k (T.of 22 0 ⟨#[]⟩ 0 (V.ts [k, v, l, k])) = 22 := V.k_of _ _ _ _ _ _ _
  have hl : V.l (T.of 22 0 ⟨#[]⟩ 0 (V.ts [k, v, l, k])) = [k.t, v.t, l.t, k.t] := V.l_of _ _ _ _ _ _ _
  refine ⟨?_, fun h => ?_⟩
  · rw [findT_map h22, hl, findL, if_pos (eqT_selfS _)]
  · rw [findT_map h22, hl, findL, if_neg (by rw [(eqT_false _ _).2 h]; simp), findL, if_pos (eqT_selfS _)]
/-- a value lies as it did where a world grows and only a record of its own (no cells) turns -/
theorem lies_some {Q Q' : Nat → Prop} {A B : World} (hc : ∀ (p : Addr) (u : Value), A.cell? p = some u → B.cell? p = some u) (hq : ∀ b, Q b → Q' b) (x : V) (h : LiesIn Q A x) : LiesIn Q' B x := by
  refine V.ind (Q := fun x => LiesIn Q A x → LiesIn Q' B x) ?_ x h
  intro k n s a c e l ih h
  obtain ⟨ok, row, sub⟩ := (LiesIn.iff _ _ _ _ _ _ _ _ _).1 h
  refine .mk ok (fun h0 => ?_) (fun y hy => ih y hy (sub y hy))
  obtain ⟨b, o, h1, h2, h3⟩ := row h0
  refine ⟨b, o, h1, hq b h2, fun i hi => ?_⟩
  obtain ⟨c0, c1, c2, c3, c4⟩ := h3 i hi
  exact ⟨hc _ _ c0, hc _ _ c1, hc _ _ c2, hc _ _ c3, hc _ _ c4⟩
theorem lies_grown {A B : World} {row : Option Nat} (hg : A.grownBy B row) (hr : ∀ r, row = some r → ∃ o : Obj, A.heap[r]? = some o ∧ o.isCells = false) (hs : A.heap.size ≤ B.heap.size) (x : V) (h : LiesIn (fun b => b < A.heap.size) A x) : LiesIn (fun b => b < B.heap.size) B x :=
  lies_some (fun p u hp => cell_kept hp hg hr) (fun b hb => Nat.lt_of_lt_of_le hb hs) x h
end Go.Proofs.YtaedlnliglmomaaDoor
