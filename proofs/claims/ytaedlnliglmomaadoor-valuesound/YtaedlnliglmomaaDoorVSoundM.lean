/- ValueSound's mathematics. -/
import Derived.Test.YtaedlnliglmomaaDoorVWeigh
import Derived.Test.YtaedlnliglmomaaDoorVDepth
import Derived.Test.YtaedlnliglmomaaDoorVAll
import Derived.Test.YtaedlnliglmomaaDoorVCheckA
import Derived.Test.YtaedlnliglmomaaDoorVFind
namespace Go.Proofs.YtaedlnliglmomaaDoor
open Go.RowKit
set_option linter.unusedVariables false
set_option linter.unusedSimpArgs false

theorem sm_fold (l : List (Int × V)) (a m : Int) : List.foldl (fun m x => max m x.1) a l ≤ m ↔ a ≤ m ∧ ∀ p ∈ l, p.1 ≤ m := by
  induction l generalizing a with
  | nil => simp
  | cons x l ih =>
    rw [List.foldl_cons, ih]
    simp only [List.mem_cons, forall_eq_or_imp]
    constructor
    · rintro ⟨h1, h2⟩; exact ⟨by omega, by omega, h2⟩
    · rintro ⟨h1, h2, h3⟩; exact ⟨by omega, h3⟩
theorem sm_le {l : List (Int × V)} {m : Int} (hm : 0 ≤ m) : mx l ≤ m ↔ ∀ p ∈ l, p.1 ≤ m := by
  unfold mx
  rw [sm_fold]
  exact ⟨fun h => h.2, fun h => ⟨hm, h⟩⟩
theorem sm_nonneg (l : List (Int × V)) : 0 ≤ mx l := by
  have := (sm_fold l 0 (mx l)).1 (Int.le_refl _)
  exact this.1
theorem firstE_zero (z : Int × V → Int) (l : List (Int × V)) : firstE z l = 0 ↔ ∀ x ∈ l, z x = 0 := by
  induction l with
  | nil => simp [firstE]
  | cons x l ih =>
    rw [firstE]
    by_cases h : z x = 0
    · rw [if_neg (by simp [h]), ih]
      simp [h]
    · rw [if_pos h]
      simp [h]
theorem faultT_deep (d : Int) (x : T) : faultT d x = 0 ↔ d ≤ 32 ∧ faultT 1 x = 0 := by
  unfold faultT faultB
  by_cases hk : V.k x < 0 ∨ 24 < V.k x
  · rw [if_pos hk, if_pos hk]; simp
  · rw [if_neg hk, if_neg hk]
    by_cases hd : 32 < d
    · rw [if_pos hd]
      exact ⟨fun h => by omega, fun h => by omega⟩
    · rw [if_neg hd, if_neg (show ¬ (32 : Int) < 1 by omega)]
      exact ⟨fun h => ⟨by omega, h⟩, fun h => h.2⟩
theorem sm_wrap {d : Int} (h0 : 0 ≤ d) (h : d ≤ 4611686018427387904) : wrap64 d = d := by
  unfold wrap64; omega
theorem wt_pos2 (v : V) : 1 ≤ T.wt v.t := by
  obtain ⟨k, n, s, a, c, e, l, rfl⟩ := V.ex v
  rw [V.t_of, T.wt_of]
  omega

/-- the same, deeper -/
def sft (j : Int) (p : Int × V) : Int × V := (p.1 + j, p.2)
theorem alls_shift (l : List V) (ih : ∀ x ∈ l, ∀ d j : Int, 0 ≤ d → 0 ≤ j → d + j + T.wt x.t ≤ 4611686018427387904 → x.all (d + j) = (x.all d).map (sft j)) (d j : Int) (hd : 0 ≤ d) (hj : 0 ≤ j) (hb : d + j + T.wts (V.ts l) ≤ 4611686018427387904) :
    V.alls (d + j) l = (V.alls d l).map (sft j) := by
  induction l with
  | nil => rfl
  | cons x l ihl =>
    rw [V.ts, T.wts] at hb
    rw [V.alls, V.alls, List.map_append, ih x (by simp) d j hd hj (by omega), ihl (fun y hy => ih y (by simp [hy])) (by omega)]
theorem all_shift (x : V) (d j : Int) (hd : 0 ≤ d) (hj : 0 ≤ j) (hb : d + j + T.wt x.t ≤ 4611686018427387904) : x.all (d + j) = (x.all d).map (sft j) := by
  refine V.ind (Q := fun x => ∀ d j : Int, 0 ≤ d → 0 ≤ j → d + j + T.wt x.t ≤ 4611686018427387904 → x.all (d + j) = (x.all d).map (sft j)) ?_ x d j hd hj hb
  intro k n s a c e l ih d j hd hj hb
  rw [V.t_of, T.wt_of] at hb
  rw [V.all_of, V.all_of, List.map_cons, sm_wrap (by omega) (by omega), sm_wrap (by omega) (by omega), ← alls_shift l ih (d + 1) j (by omega) hj (by omega)]
  rw [show d + j + 1 = d + 1 + j by omega]
  rfl
theorem alls_mem {d : Int} {l : List V} {p : Int × V} : p ∈ V.alls d l ↔ ∃ x ∈ l, p ∈ x.all d := by
  induction l with
  | nil => simp [V.alls]
  | cons x l ih => rw [V.alls, List.mem_append, ih]; simp
theorem wt_mem2 {l : List V} {x : V} (h : x ∈ l) : T.wt x.t ≤ T.wts (V.ts l) := by
  induction l with
  | nil => simp at h
  | cons y l ih =>
    rw [V.ts, T.wts]
    rcases List.mem_cons.1 h with rfl | h
    · omega
    · have := ih h
      omega
/-- what stands in what stands in it stands in it -/
theorem all_sub (x : V) (d : Int) (q : Int × V) (hd : 0 ≤ d) (hb : d + T.wt x.t ≤ 4611686018427387904) (hq : q ∈ x.all d) : (d ≤ q.1 ∧ q.1 + T.wt q.2.t ≤ d + T.wt x.t) ∧ ∀ p ∈ q.2.all q.1, p ∈ x.all d := by
  refine V.ind (Q := fun x => ∀ (d : Int) (q : Int × V), 0 ≤ d → d + T.wt x.t ≤ 4611686018427387904 → q ∈ x.all d → (d ≤ q.1 ∧ q.1 + T.wt q.2.t ≤ d + T.wt x.t) ∧ ∀ p ∈ q.2.all q.1, p ∈ x.all d) ?_ x d q hd hb hq
  intro k n s a c e l ih d q hd hb hq
  have hq' := hq
  rw [V.all_of] at hq
  rcases List.mem_cons.1 hq with rfl | hq
  · exact ⟨⟨by simp, by simp⟩, fun p hp => hp⟩
  · rw [V.t_of, T.wt_of] at hb
    rw [sm_wrap (by omega) (by omega)] at hq
    obtain ⟨y, hy, hqy⟩ := alls_mem.1 hq
    have hm := wt_mem2 hy
    obtain ⟨⟨h1, h2⟩, h3⟩ := ih y hy (d + 1) q (by omega) (by omega) hqy
    refine ⟨⟨by omega, ?_⟩, fun p hp => ?_⟩
    · rw [V.t_of, T.wt_of]; omega
    · rw [V.all_of, sm_wrap (by omega) (by omega)]
      exact List.mem_cons_of_mem _ (alls_mem.2 ⟨y, hy, h3 p hp⟩)

/-- nothing is wrong with it but, perhaps, its depth -/
def Fl (v : V) : Prop := ∀ p ∈ v.all 1, faultT 1 p.2.t = 0
theorem at_iff (v : V) (hw : T.wt v.t ≤ 100000) (d : Int) (hd : 1 ≤ d) (hd' : d ≤ 1000000) : (∀ p ∈ v.all d, checkZ p = 0) ↔ mx (v.all 1) + d ≤ 33 ∧ Fl v := by
  have hs := all_shift v 1 (d - 1) (by omega) (by omega) (by omega)
  rw [show 1 + (d - 1) = d by omega] at hs
  have hn := sm_nonneg (v.all 1)
  have h0 : ∃ q ∈ v.all 1, q.1 = 1 := by
    obtain ⟨k, n, s, a, c, e, l, rfl⟩ := V.ex v
    rw [V.all_of]
    exact ⟨_, List.mem_cons_self, rfl⟩
  rw [hs]
  simp only [List.mem_map, forall_exists_index, and_imp, forall_apply_eq_imp_iff₂]
  unfold checkZ sft
  constructor
  · intro h
    have hd33 : 0 ≤ 33 - d := by
      obtain ⟨q, hq, hq1⟩ := h0
      have := (faultT_deep _ _).1 (h q hq)
      have := this.1
      simp only at this
      omega
    refine ⟨?_, fun p hp => ((faultT_deep _ _).1 (h p hp)).2⟩
    have : mx (v.all 1) ≤ 33 - d := (sm_le hd33).2 (fun p hp => by
      have := ((faultT_deep _ _).1 (h p hp)).1
      simp only at this
      omega)
    omega
  · rintro ⟨h1, h2⟩ p hp
    refine (faultT_deep _ _).2 ⟨?_, h2 p hp⟩
    have := (sm_le (show 0 ≤ 33 - d by omega)).1 (by omega) p hp
    show p.1 + (d - 1) ≤ 32
    omega
theorem good_iff (v : V) (hw : T.wt v.t ≤ 100000) : firstE checkZ (v.all 1) = 0 ↔ mx (v.all 1) ≤ 32 ∧ Fl v := by
  rw [firstE_zero, at_iff v hw 1 (by omega) (by omega)]
  exact ⟨fun h => ⟨by omega, h.2⟩, fun h => ⟨by omega, h.2⟩⟩
/-- all that stands in a value that may be may be, and is no deeper than it -/
theorem sub_good (v : V) (hw : T.wt v.t ≤ 100000) (hg : firstE checkZ (v.all 1) = 0) (q : Int × V) (hq : q ∈ v.all 1) : firstE checkZ (q.2.all 1) = 0 ∧ q.1 + mx (q.2.all 1) - 1 ≤ mx (v.all 1) ∧ 1 ≤ q.1 ∧ q.1 ≤ 32 := by
  obtain ⟨⟨h1, h2⟩, h3⟩ := all_sub v 1 q (by omega) (by omega) hq
  have hz := (firstE_zero _ _).1 hg
  have hp := wt_pos2 q.2
  have hall : ∀ p ∈ q.2.all q.1, checkZ p = 0 := fun p hp => hz p (h3 p hp)
  obtain ⟨h4, h5⟩ := (at_iff q.2 (by omega) q.1 h1 (by omega)).1 hall
  have hn := sm_nonneg (q.2.all 1)
  have hq1 := ((faultT_deep _ _).1 (hz q hq)).1
  refine ⟨(good_iff q.2 (by omega)).2 ⟨by omega, h5⟩, ?_, h1, hq1⟩
  have hs := all_shift q.2 1 (q.1 - 1) (by omega) (by omega) (by omega)
  rw [show 1 + (q.1 - 1) = q.1 by omega] at hs
  have hm := (sm_le (sm_nonneg (v.all 1))).1 (Int.le_refl _)
  have : mx (q.2.all 1) ≤ mx (v.all 1) - (q.1 - 1) := (sm_le (by have := hm q hq; omega)).2 (fun p hp => by
    have := hm (sft (q.1 - 1) p) (h3 _ (by rw [hs]; exact List.mem_map_of_mem hp))
    have e : (sft (q.1 - 1) p).1 = p.1 + (q.1 - 1) := rfl
    omega)
  omega
end Go.Proofs.YtaedlnliglmomaaDoor
