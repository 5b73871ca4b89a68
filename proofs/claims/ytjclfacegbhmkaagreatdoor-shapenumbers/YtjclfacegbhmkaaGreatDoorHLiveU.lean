
/- live: Unpack. -/
import Derived.Test.YtjclfacegbhmkaaGreatDoorHLiveP
namespace Go.Proofs.YtjclfacegbhmkaaGreatDoor
open Go.RowKit
set_option linter.unusedVariables false
set_option linter.unusedSimpArgs false
theorem T_inj {k n k' n' e e' : Int} {s s' : ByteArray} {l l' : List T} (h : T.of k n s e l = T.of k' n' s' e' l') : k = k' ∧ n = n' ∧ s = s' ∧ e = e' ∧ l = l' := by
  have h1 : V.k (V.of k n s none 0 e l) = V.k (V.of k' n' s' none 0 e' l') := congrArg V.k h
  have h2 : V.n (V.of k n s none 0 e l) = V.n (V.of k' n' s' none 0 e' l') := congrArg V.n h
  have h3 : V.s (V.of k n s none 0 e l) = V.s (V.of k' n' s' none 0 e' l') := congrArg V.s h
  have h4 : V.e (V.of k n s none 0 e l) = V.e (V.of k' n' s' none 0 e' l') := congrArg V.e h
  have h5 : V.l (V.of k n s none 0 e l) = V.l (V.of k' n' s' none 0 e' l') := congrArg V.l h
  rw [V.k_of, V.k_of] at h1
  rw [V.n_of, V.n_of] at h2
  rw [V.s_of, V.s_of] at h3
  rw [V.e_of, V.e_of] at h4
  rw [V.l_of, V.l_of] at h5
  exact ⟨h1, h2, h3, h4, h5⟩
theorem ts_nil {l : List V} (h : V.ts l = []) : l = [] := by
  cases l with
  | nil => rfl
  | cons x l => simp [V.ts] at h
theorem of_leaf {x : V} {k n : Int} {s : ByteArray} (h : x.t = (leaf k n s).t) : ∃ a c, x = .of k n s a c 0 [] := by
  obtain ⟨k', n', s', a, c, e, l, rfl⟩ := V.ex x
  unfold leaf at h
  rw [V.t_of, V.t_of] at h
  obtain ⟨rfl, rfl, rfl, rfl, h5⟩ := T_inj h
  exact ⟨a, c, by rw [ts_nil h5]⟩
/-- its form, wherever it lies -/
theorem form22 {y v : V} (hv : P22 v) (h : y.t = v.t) : ∃ a2 c2 a3 c3 a4 c4 a5 c5, y = .of 24 0 ⟨#[]⟩ a2 c2 0 [.of 5 22 ⟨#[]⟩ a4 c4 0 [], .of 21 0 ⟨#[]⟩ a3 c3 0 [.of 4 7 ⟨#[]⟩ a5 c5 0 []]] := by
  obtain ⟨_, _, _, _, rfl⟩ := hv
  obtain ⟨k, n, s, a, c, e, l, rfl⟩ := V.ex y
  rw [V.t_of, V.t_of] at h
  obtain ⟨rfl, rfl, rfl, rfl, h5⟩ := T_inj h
  have hlen : l.length = 2 := by have := congrArg List.length h5; rwa [V.ts_length] at this
  match l, hlen with
  | [d, q], _ =>
    simp only [V.ts, List.cons.injEq, and_true] at h5
    obtain ⟨a4, c4, rfl⟩ := of_leaf h5.1
    obtain ⟨k2, n2, s2, a3, c3, e2, l2, rfl⟩ := V.ex q
    have h6 := h5.2
    rw [V.t_of, V.t_of] at h6
    obtain ⟨rfl, rfl, rfl, rfl, h7⟩ := T_inj h6
    have hlen2 : l2.length = 1 := by have := congrArg List.length h7; rwa [V.ts_length] at this
    match l2, hlen2 with
    | [x], _ =>
      simp only [V.ts, List.cons.injEq, and_true] at h7
      obtain ⟨a5, c5, rfl⟩ := of_leaf h7
      exact ⟨_, _, _, _, _, _, _, _, rfl⟩
theorem leafa_all (d k n : Int) (s : ByteArray) (a : Option Addr) (c : Nat) : (V.of k n s a c 0 []).all d = [(d, V.of k n s a c 0 [])] := by
  rw [V.all_of]
  rfl
theorem leafa_t (k n : Int) (s : ByteArray) (a : Option Addr) (c : Nat) : (V.of k n s a c 0 []).t = (leaf k n s).t := by
  unfold leaf
  rw [V.t_of, V.t_of]
theorem check22 (a2 a3 a4 a5 : Option Addr) (c2 c3 c4 c5 : Nat) : firstE checkZ ((V.of 24 0 ⟨#[]⟩ a2 c2 0 [.of 5 22 ⟨#[]⟩ a4 c4 0 [], .of 21 0 ⟨#[]⟩ a3 c3 0 [.of 4 7 ⟨#[]⟩ a5 c5 0 []]]).all 1) = 0 := by
  rw [deep22 _ _ _ _ _ _ (leafa_all _ _ _ _ _ _) (leafa_all _ _ _ _ _ _)]
  refine firstE_none _ _ (fun x hx => ?_)
  simp only [List.mem_cons, List.not_mem_nil, or_false] at hx
  rcases hx with rfl | rfl | rfl | rfl
  · show faultT 1 _ = 0
    rw [faultT_of]
    generalize mapT _ = m
    generalize arrT _ _ = r
    show faultB 24 1 (extraT 24 0 ⟨#[]⟩ 2 0) (numT 24 0) (textT 24 ⟨#[]⟩) m r 2 = 0
    first
    | (cases m <;> cases r <;> decide)
    | (cases m <;> cases r <;> decide +kernel)
    | (cases m <;> cases r <;> rfl)
  · show faultT 2 _ = 0
    rw [faultT_of]
    first
    | decide
    | decide +kernel
  · show faultT 2 _ = 0
    rw [faultT_of]
    generalize mapT _ = m
    generalize arrT _ _ = r
    show faultB 21 2 (extraT 21 0 ⟨#[]⟩ 1 0) (numT 21 0) (textT 21 ⟨#[]⟩) m r 1 = 0
    first
    | (cases m <;> cases r <;> decide)
    | (cases m <;> cases r <;> decide +kernel)
    | (cases m <;> cases r <;> rfl)
  · show faultT 3 _ = 0
    rw [faultT_of]
    first
    | decide
    | decide +kernel
theorem unpack22 {y v : V} (hv : P22 v) (hyt : y.t = v.t) (w : World) (hl : Lies w.heap.size w y) (hT : ∀ W, Below w.heap.size w W → Lib.Utf8Tabs 0 1 W) :
    Calls Tryz.prog 30 #[y.val] w (fun e w' => ∃ z : V, e = .returned (.tuple #[.agg #[.int .i64 22, .slice z.a z.l.length z.c], .int .i64 0, .int .i64 0]) ∧ Hid (V.ts z.l = V.ts l22 ∧ LiesIn (fun b => w.heap.size + 2 ≤ b ∧ b < w'.heap.size) w' z) ∧ Below w.heap.size w w') := by
  obtain ⟨a2, c2, a3, c3, a4, c4, a5, c5, rfl⟩ := form22 hv hyt
  have hl2 := hl.sub (.of 21 0 ⟨#[]⟩ a3 c3 0 [.of 4 7 ⟨#[]⟩ a5 c5 0 []]) (by simp)
  have hl4 := hl2.sub (.of 4 7 ⟨#[]⟩ a5 c5 0 []) (by simp)
  obtain ⟨lb, lo, rfl, hlb, hlr⟩ := hl2.row (by simp)
  have hk4 : (V.of 4 7 ⟨#[]⟩ a5 c5 0 []).k = 4 := V.k_of _ _ _ _ _ _ _
  refine (unpack_gen 22 _ [.of 4 7 ⟨#[]⟩ a5 c5 0 [], leaf 1 0 ⟨#[]⟩, leaf 0 0 ⟨#[]⟩] 3 rfl (by decide) w (fun x hx => ?_) (fun W hW => ?_) (fun W hW => ?_)).mono ?_
  · simp only [List.mem_cons, List.not_mem_nil, or_false] at hx
    rcases hx with rfl | rfl | rfl
    · exact hl4
    · exact leaf_lies _ _ _ _ _ (by decide) (by decide) (by decide)
    · exact leaf_lies _ _ _ _ _ (by decide) (by decide) (by decide)
  · have := check_any _ w.heap.size W hW.size (hl.keep hW (Nat.le_refl _)) (hT W hW)
    rw [check22] at this
    exact this
  · refine unpacked_gen 22 0 ⟨#[]⟩ a2 c2 0 _ 0 ⟨#[]⟩ lb lo c3 0 [.of 4 7 ⟨#[]⟩ a5 c5 0 []] _ m22 3 w.heap.size rfl rfl (by simp) (by decide) (by decide) W hW.size (hl.keep hW (Nat.le_refl _)) ⟨hlb, hlr.below hW hlb⟩ (by rw [leafa_t]; exact kind22) (fun W' _ => fields_like22 W') ?_
    intro i h2 h3 F hF W' hW'
    have h3' : i < 3 := h2
    obtain rfl | rfl | rfl : i = 0 ∨ i = 1 ∨ i = 2 := by omega
    · have ht : F.ty = 4 := congrArg Prod.fst hF
      exact filled_flat F (.of 4 7 ⟨#[]⟩ a5 c5 0 []) (by rw [hk4, ht]) (by rw [hk4]; decide) (by rw [ht]; decide) (by rw [ht]; decide) (by rw [ht]; decide) W'
    · have hm : F.must = false := congrArg (fun p => p.2.1) hF
      have hd : F.d = leaf 1 0 ⟨#[]⟩ := congrArg (fun p => p.2.2) hF
      have := filled_null F (leaf 0 0 ⟨#[]⟩) rfl hm W'
      rw [hd] at this
      exact this
    · have hm : F.must = false := congrArg (fun p => p.2.1) hF
      have hd : F.d = leaf 0 0 ⟨#[]⟩ := congrArg (fun p => p.2.2) hF
      have := filled_null F (leaf 0 0 ⟨#[]⟩) rfl hm W'
      rw [hd] at this
      exact this
  · rintro e w' ⟨z, h1, h2, h3⟩
    refine ⟨z, h1, ⟨?_, h2.out.2⟩, h3⟩
    rw [h2.out.1]
    simp only [l22, V.ts, leafa_t]
end Go.Proofs.YtjclfacegbhmkaaGreatDoor
