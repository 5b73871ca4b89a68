/- What is told of a value, without its places; what stands in it is no greater. -/
import Derived.Test.YtaedlnliglmomaaDoorVWeigh
import Derived.Test.YtaedlnliglmomaaDoorVAll
import Derived.Test.YtaedlnliglmomaaDoorVEq
namespace Go.Proofs.YtaedlnliglmomaaDoor.B
open Go.RowKit
set_option linter.unusedVariables false
set_option linter.unusedSimpArgs false

theorem sm_wrap {d : Int} (h0 : 0 ≤ d) (h : d ≤ 4611686018427387904) : wrap64 d = d := by
  unfold wrap64; omega
theorem alls_mem {d : Int} {l : List V} {p : Int × V} : p ∈ V.alls d l ↔ ∃ x ∈ l, p ∈ x.all d := by
  induction l with
  | nil => simp [V.alls]
  | cons x l ih => rw [V.alls, List.mem_append, ih]; simp
theorem wt_mem2 {l : List V} {x : V} (h : x ∈ l) : T.wt x.t ≤ T.wts (V.ts l) := by
  induction l with
  | nil => simp at h
  | cons y l ih =>
    rw [V.ts, T.wts]
    rcases List.mem_cons.1 h with rfl | h
    · omega
    · have := ih h
      omega
/-- what stands in what stands in it stands in it -/
theorem all_sub (x : V) (d : Int) (q : Int × V) (hd : 0 ≤ d) (hb : d + T.wt x.t ≤ 4611686018427387904) (hq : q ∈ x.all d) : (d ≤ q.1 ∧ q.1 + T.wt q.2.t ≤ d + T.wt x.t) ∧ ∀ p ∈ q.2.all q.1, p ∈ x.all d := by
  refine V.ind (Q := fun x => ∀ (d : Int) (q : Int × V), 0 ≤ d → d + T.wt x.t ≤ 4611686018427387904 → q ∈ x.all d → (d ≤ q.1 ∧ q.1 + T.wt q.2.t ≤ d + T.wt x.t) ∧ ∀ p ∈ q.2.all q.1, p ∈ x.all d) ?_ x d q hd hb hq
  intro k n s a c e l ih d q hd hb hq
  have hq' := hq
  rw [V.all_of] at hq
  rcases List.mem_cons.1 hq with rfl | hq
  · exact ⟨⟨by simp, by simp⟩, fun p hp => hp⟩
  · rw [V.t_of, T.wt_of] at hb
    rw [sm_wrap (by omega) (by omega)] at hq
    obtain ⟨y, hy, hqy⟩ := alls_mem.1 hq
    have hm := wt_mem2 hy
    obtain ⟨⟨h1, h2⟩, h3⟩ := ih y hy (d + 1) q (by omega) (by omega) hqy
    refine ⟨⟨by omega, ?_⟩, fun p hp => ?_⟩
    · rw [V.t_of, T.wt_of]; omega
    · rw [V.all_of, sm_wrap (by omega) (by omega)]
      exact List.mem_cons_of_mem _ (alls_mem.2 ⟨y, hy, h3 p hp⟩)

theorem bare_appendS (p q : List (Int × V)) : bare (p ++ q) = bare p ++ bare q := by unfold bare; simp
theorem all_bareS : ∀ x : V, ∀ (y : V) (d : Int), x.t = y.t → bare (x.all d) = bare (y.all d) := by
  refine V.ind ?_
  intro k n s a c e l ih y d h
  obtain ⟨k', n', s', a', c', e', m, rfl⟩ := V.ex y
  have h' := h
  rw [V.t_of, V.t_of] at h
  obtain ⟨rfl, rfl, rfl, _, _, rfl, hl⟩ := V.of_inj h
  rw [V.all_of, V.all_of]
  have hall : ∀ (l m : List V), (∀ x ∈ l, ∀ (y : V) (d : Int), x.t = y.t → bare (x.all d) = bare (y.all d)) → V.ts l = V.ts m → bare (V.alls (wrap64 (d + 1)) l) = bare (V.alls (wrap64 (d + 1)) m) := by
    intro l
    induction l with
    | nil =>
      intro m _ hm
      cases m with
      | nil => rfl
      | cons y m => simp [V.ts] at hm
    | cons x l ihl =>
      intro m hi hm
      cases m with
      | nil => simp [V.ts] at hm
      | cons y m =>
        simp only [V.ts, List.cons.injEq] at hm
        rw [V.alls, V.alls, bare_appendS, bare_appendS, hi x (by simp) y _ hm.1, ihl m (fun z hz => hi z (by simp [hz])) hm.2]
  have := hall l m ih hl
  unfold bare at this ⊢
  rw [List.map_cons, List.map_cons, this, h']
theorem eqT_selfS (x : T) : eqT x x = true := by
  unfold eqT
  have := neg_ord x x
  simp only [decide_eq_true_eq]
  omega
/-- a value lies as it did where a world grows and only a record of its own (no cells) turns -/
theorem lies_some {Q Q' : Nat → Prop} {A B : World} (hc : ∀ (p : Addr) (u : Value), A.cell? p = some u → B.cell? p = some u) (hq : ∀ b, Q b → Q' b) (x : V) (h : LiesIn Q A x) : LiesIn Q' B x := by
  refine V.ind (Q := fun x => LiesIn Q A x → LiesIn Q' B x) ?_ x h
  intro k n s a c e l ih h
  obtain ⟨ok, row, sub⟩ := (LiesIn.iff _ _ _ _ _ _ _ _ _).1 h
  refine .mk ok (fun h0 => ?_) (fun y hy => ih y hy (sub y hy))
  obtain ⟨b, o, h1, h2, h3⟩ := row h0
  refine ⟨b, o, h1, hq b h2, fun i hi => ?_⟩
  obtain ⟨c0, c1, c2, c3, c4⟩ := h3 i hi
  exact ⟨hc _ _ c0, hc _ _ c1, hc _ _ c2, hc _ _ c3, hc _ _ c4⟩
end Go.Proofs.YtaedlnliglmomaaDoor.B
