/- HLiveM, HLiveP, HLiveU, HLive, HRNameA -/
import Derived.Test.YtgldcchleoklcaaGreatDoorF26
import Derived.Test.YtgldcchleoklcaaGreatDoorF43
import Derived.Test.YtgldcchleoklcaaGreatDoorF06
import Derived.Test.YtgldcchleoklcaaGreatDoorF44
import Derived.Test.YtgldcchleoklcaaGreatDoorF13
import Derived.Test.YtgldcchleoklcaaGreatDoorF19
import Derived.Test.YtgldcchleoklcaaGreatDoorF04
namespace Go.Proofs.YtgldcchleoklcaaGreatDoor
open Go.RowKit
set_option linter.unusedVariables false
set_option linter.unusedSimpArgs false
theorem eqT_leaf (k n : Int) (s : ByteArray) (k' n' : Int) (s' : ByteArray) : eqT (leaf k n s).t (leaf k' n' s').t = (decide (k = k') && decide (n = n') && decide (s.toList = s'.toList)) := by
  unfold leaf
  rw [eqT_of]
  have h : eqsT (V.ts []) (V.ts []) = true := rfl
  rw [h]
  simp
set_option maxRecDepth 100000 in
theorem kind22 : kindL (leaf 5 22 ⟨#[]⟩).t krows = some 22 := by
  simp only [krows, kindL, eqT_leaf]
  rfl
theorem live_outs : outs [leaf 4 7 ⟨#[]⟩, leaf 1 0 ⟨#[]⟩, leaf 0 0 ⟨#[]⟩] [leaf 0 0 ⟨#[]⟩, leaf 1 0 ⟨#[]⟩, leaf 0 0 ⟨#[]⟩] = [leaf 4 7 ⟨#[]⟩, leaf 0 0 ⟨#[]⟩, leaf 0 0 ⟨#[]⟩] := by
  simp only [outs, List.zipWith, eqT_leaf]
  rfl
theorem live_said : saidN [leaf 4 7 ⟨#[]⟩, leaf 1 0 ⟨#[]⟩, leaf 0 0 ⟨#[]⟩] [leaf 0 0 ⟨#[]⟩, leaf 1 0 ⟨#[]⟩, leaf 0 0 ⟨#[]⟩] 3 = 1 := by
  rw [saidN_step _ _ 2 (by simp) (by simp), saidN_step _ _ 1 (by simp) (by simp), saidN_step _ _ 0 (by simp) (by simp)]
  simp [eqT_leaf]
theorem live_check (k n : Int) (h : faultT 1 (leaf k n ⟨#[]⟩).t = 0) : firstE checkZ ((leaf k n ⟨#[]⟩).all 1) = 0 := by
  refine firstE_none _ _ (fun x hx => ?_)
  unfold leaf at hx h
  rw [V.all_of] at hx
  have hx' : x = (1, V.of k n ⟨#[]⟩ none 0 0 []) := by simpa [V.alls] using hx
  rw [hx']
  exact h
theorem live_f4 : faultT 1 (leaf 4 7 ⟨#[]⟩).t = 0 := by
  unfold leaf
  rw [faultT_of]
  first
  | rfl
  | decide
  | decide +kernel
theorem live_f1 : faultT 1 (leaf 1 0 ⟨#[]⟩).t = 0 := by
  unfold leaf
  rw [faultT_of]
  first
  | rfl
  | decide
  | decide +kernel
theorem live_f0 : faultT 1 (leaf 0 0 ⟨#[]⟩).t = 0 := by
  unfold leaf
  rw [faultT_of]
  first
  | rfl
  | decide
  | decide +kernel
set_option maxRecDepth 100000 in
set_option maxHeartbeats 2000000 in
theorem equalAll_any (l m : List V) (a a' : Option Addr) (c c' n₀ : Nat) (w : World) (hn : n₀ ≤ w.heap.size) (hx : Lies n₀ w (.of 0 0 ⟨#[]⟩ a c 0 l)) (hy : Lies n₀ w (.of 0 0 ⟨#[]⟩ a' c' 0 m)) :
    Calls Tryz.prog 47 #[.slice a l.length c, .slice a' m.length c'] w fun e w' => e = .returned (.bool (eqsT (V.ts l) (V.ts m))) ∧ Below w.heap.size w w' := by
  have h := requal_any _ (.of 0 0 ⟨#[]⟩ a' c' 0 m) n₀ w hn hx hy
  rw [V.val_of, V.val_of, eqT_of] at h
  have HH := hide h
  clear h hx hy
  go_enter Tryz.func47, Tryz.ntmps47
  go_wp2_with fail
  refine HH.out.mono ?_
  rintro e w1 ⟨rfl, hb⟩
  go_wp2
  go_ret
  refine ⟨?_, hb⟩
  simp
def m22 : List (Int × Bool × V) := [(4, true, leaf 0 0 ⟨#[]⟩), (1, false, leaf 1 0 ⟨#[]⟩), (102, false, leaf 0 0 ⟨#[]⟩)]
def l22 : List V := [leaf 4 7 ⟨#[]⟩, leaf 1 0 ⟨#[]⟩, leaf 0 0 ⟨#[]⟩]
theorem fields_like22 (W : World) : Calls Tryz.prog 8 #[.int .i64 22] W (FieldsLike 3 m22 W) := by
  refine (fields22_any W).mono ?_
  rintro e w' ⟨ko, b, rfl, hb, h1, h2, h3⟩
  exact ⟨some ⟨b, 0, none⟩, _, rfl, ⟨⟨rfl, rfl⟩, fun _ => ⟨b, rfl, h1, h2, h3⟩⟩, hb⟩
theorem leaf_k (k n : Int) (s : ByteArray) : (leaf k n s).k = k := rfl
theorem check_leaf (k n : Int) (hk : -9223372036854775808 ≤ k ∧ k ≤ 9223372036854775807) (hn : 0 ≤ n ∧ n ≤ 18446744073709551615) (h : faultT 1 (leaf k n ⟨#[]⟩).t = 0) (W : World) (hT : Lib.Utf8Tabs 0 1 W) : Calls Tryz.prog 42 #[(leaf k n ⟨#[]⟩).val] W fun e w' => e = .returned (.int .i64 0) ∧ Below W.heap.size W w' := by
  have := check_any (leaf k n ⟨#[]⟩) W.heap.size W (Nat.le_refl _) (leaf_lies _ _ _ _ _ hk hn (by decide)) hT
  rw [live_check k n h] at this
  exact this
theorem checks22 (w : World) (hT : ∀ W, Below w.heap.size w W → Lib.Utf8Tabs 0 1 W) : ∀ i (h1 : i < l22.length) (h2 : i < m22.length) (h3 : i < l22.length), ∀ F : Fd, F.m = m22[i] → ∀ W, Below w.heap.size w W → Calls Tryz.prog 98 #[F.val, l22[i].val] W fun e w' => e = VN l22[i] 0 ∧ Below W.heap.size W w' := by
  intro i h1 h2 h3 F hF W hW
  have h3' : i < 3 := h1
  have hTW : ∀ W', Below W.heap.size W W' → Lib.Utf8Tabs 0 1 W' := fun W' h => hT W' (belOn hW hW.size h)
  obtain rfl | rfl | rfl : i = 0 ∨ i = 1 ∨ i = 2 := by omega
  · have ht : F.ty = 4 := congrArg Prod.fst hF
    have hm : F.must = true := congrArg (fun p => p.2.1) hF
    show Calls Tryz.prog 98 #[F.val, (leaf 4 7 ⟨#[]⟩).val] W fun e w' => e = VN (leaf 4 7 ⟨#[]⟩) 0 ∧ Below W.heap.size W w'
    refine checked_gen F _ _ W (by rw [hm]; rfl) (by rw [ht]; rfl) (fun W' hb => check_leaf 4 7 (by decide) (by decide) live_f4 W' (hTW W' hb)) (fun W' hb => filled_flat F (leaf 4 7 ⟨#[]⟩) (by rw [leaf_k, ht]) (by rw [leaf_k]; decide) (by rw [ht]; decide) (by rw [ht]; decide) (by rw [ht]; decide) W')
  · have ht : F.ty = 1 := congrArg Prod.fst hF
    have hm : F.must = false := congrArg (fun p => p.2.1) hF
    show Calls Tryz.prog 98 #[F.val, (leaf 1 0 ⟨#[]⟩).val] W fun e w' => e = VN (leaf 1 0 ⟨#[]⟩) 0 ∧ Below W.heap.size W w'
    refine checked_gen F _ _ W (by rw [hm]; rfl) (by rw [ht]; rfl) (fun W' hb => check_leaf 1 0 (by decide) (by decide) live_f1 W' (hTW W' hb)) (fun W' hb => filled_flat F (leaf 1 0 ⟨#[]⟩) (by rw [leaf_k, ht]) (by rw [leaf_k]; decide) (by rw [ht]; decide) (by rw [ht]; decide) (by rw [ht]; decide) W')
  · have ht : F.ty = 102 := congrArg Prod.fst hF
    have hm : F.must = false := congrArg (fun p => p.2.1) hF
    have hd : F.d = leaf 0 0 ⟨#[]⟩ := congrArg (fun p => p.2.2) hF
    show Calls Tryz.prog 98 #[F.val, (leaf 0 0 ⟨#[]⟩).val] W fun e w' => e = VN (leaf 0 0 ⟨#[]⟩) 0 ∧ Below W.heap.size W w'
    refine checked_gen F _ _ W (by rw [hm]; rfl) (by rw [ht]; rfl) (fun W' hb => check_leaf 0 0 (by decide) (by decide) live_f0 W' (hTW W' hb)) (fun W' hb => ?_)
    have := filled_null F (leaf 0 0 ⟨#[]⟩) rfl hm W'
    rw [hd] at this
    exact this
def P22 (v : V) : Prop := ∃ a2 a3 c2 c3, v = .of 24 0 ⟨#[]⟩ a2 c2 0 [leaf 5 22 ⟨#[]⟩, .of 21 0 ⟨#[]⟩ a3 c3 0 [leaf 4 7 ⟨#[]⟩]]
theorem outs22 : (outs l22 (m22.map fun m => m.2.2)).take (saidN l22 (m22.map fun m => m.2.2) l22.length) = [leaf 4 7 ⟨#[]⟩] := by
  show (outs [leaf 4 7 ⟨#[]⟩, leaf 1 0 ⟨#[]⟩, leaf 0 0 ⟨#[]⟩] [leaf 0 0 ⟨#[]⟩, leaf 1 0 ⟨#[]⟩, leaf 0 0 ⟨#[]⟩]).take (saidN [leaf 4 7 ⟨#[]⟩, leaf 1 0 ⟨#[]⟩, leaf 0 0 ⟨#[]⟩] [leaf 0 0 ⟨#[]⟩, leaf 1 0 ⟨#[]⟩, leaf 0 0 ⟨#[]⟩] 3) = _
  rw [live_said, live_outs]
  rfl
theorem leaf_all (d k n : Int) (s : ByteArray) : (leaf k n s).all d = [(d, leaf k n s)] := by
  unfold leaf
  rw [V.all_of]
  rfl
theorem deep22 (a2 a3 : Option Addr) (c2 c3 : Nat) (x y : V) (hx : x.all 2 = [(2, x)]) (hy : y.all 3 = [(3, y)]) : (V.of 24 0 ⟨#[]⟩ a2 c2 0 [x, .of 21 0 ⟨#[]⟩ a3 c3 0 [y]]).all 1 = [(1, V.of 24 0 ⟨#[]⟩ a2 c2 0 [x, .of 21 0 ⟨#[]⟩ a3 c3 0 [y]]), (2, x), (2, V.of 21 0 ⟨#[]⟩ a3 c3 0 [y]), (3, y)] := by
  rw [V.all_of]
  have h2 : wrap64 (1 + 1) = 2 := by kernel_rfl
  have h3 : wrap64 (2 + 1) = 3 := by kernel_rfl
  rw [h2]
  simp only [V.alls]
  rw [V.all_of, h3, hx]
  simp only [V.alls]
  rw [hy]
  rfl
theorem pack22 (R : Nat) (w : World) (hR : R < w.heap.size) (hr : Row w R 0 l22) (hT : ∀ W, Below w.heap.size w W → Lib.Utf8Tabs 0 1 W) :
    Calls Tryz.prog 19 #[.agg #[.int .i64 22, .slice (some ⟨R, 0, none⟩) 3 3]] w (fun e w' => ∃ y : V, e = VN y 0 ∧ Hid ((∃ v, P22 v ∧ y.t = v.t) ∧ Lies w'.heap.size w' y) ∧ Below w.heap.size w w') := by
  refine pack_gen 22 (some ⟨R, 0, none⟩) 3 3 w P22 (fun W hW => ?_)
  have hsz := hW.size
  have := packed_gen 22 (by decide) (by decide) l22 l22 m22 rfl rfl R 3 (by decide) (by decide) (by decide) W (by omega) (hr.below hW hR)
    (fun x hx => by
      simp only [l22, List.mem_cons, List.not_mem_nil, or_false] at hx
      rcases hx with rfl | rfl | rfl <;> exact leaf_lies _ _ _ _ _ (by decide) (by decide) (by decide))
    (fun d hd n₀ W' => by
      simp only [m22, List.map_cons, List.map_nil, List.mem_cons, List.not_mem_nil, or_false] at hd
      rcases hd with rfl | rfl | rfl <;> exact leaf_lies _ _ _ _ _ (by decide) (by decide) (by decide))
    (fun W' _ => fields_like22 W') (checks22 W (fun W' h => hT W' (belOn hW hsz h)))
    (fun a2 a3 c2 c3 => by
      rw [outs22, deep22 _ _ _ _ _ _ (leaf_all _ _ _ _) (leaf_all _ _ _ _)]
      show ([1, 2, 2, 3] : List Int).foldl max 0 ≤ 32
      decide)
  refine this.mono ?_
  rintro e w' ⟨v, h1, h2, h3⟩
  refine ⟨v, h1, ⟨?_, h2.out.2⟩, h3⟩
  obtain ⟨a2, a3, c2, c3, hv⟩ := h2.out.1
  rw [outs22] at hv
  exact ⟨a2, a3, c2, c3, hv⟩
theorem T_inj {k n k' n' e e' : Int} {s s' : ByteArray} {l l' : List T} (h : T.of k n s e l = T.of k' n' s' e' l') : k = k' ∧ n = n' ∧ s = s' ∧ e = e' ∧ l = l' := by
  have h1 : V.k (V.of k n s none 0 e l) = V.k (V.of k' n' s' none 0 e' l') := congrArg V.k h
  have h2 : V.n (V.of k n s none 0 e l) = V.n (V.of k' n' s' none 0 e' l') := congrArg V.n h
  have h3 : V.s (V.of k n s none 0 e l) = V.s (V.of k' n' s' none 0 e' l') := congrArg V.s h
  have h4 : V.e (V.of k n s none 0 e l) = V.e (V.of k' n' s' none 0 e' l') := congrArg V.e h
  have h5 : V.l (V.of k n s none 0 e l) = V.l (V.of k' n' s' none 0 e' l') := congrArg V.l h
  rw [V.k_of, V.k_of] at h1
  rw [V.n_of, V.n_of] at h2
  rw [V.s_of, V.s_of] at h3
  rw [V.e_of, V.e_of] at h4
  rw [V.l_of, V.l_of] at h5
  exact ⟨h1, h2, h3, h4, h5⟩
theorem ts_nil {l : List V} (h : V.ts l = []) : l = [] := by
  cases l with
  | nil => rfl
  | cons x l => simp [V.ts] at h
theorem of_leaf {x : V} {k n : Int} {s : ByteArray} (h : x.t = (leaf k n s).t) : ∃ a c, x = .of k n s a c 0 [] := by
  obtain ⟨k', n', s', a, c, e, l, rfl⟩ := V.ex x
  unfold leaf at h
  rw [V.t_of, V.t_of] at h
  obtain ⟨rfl, rfl, rfl, rfl, h5⟩ := T_inj h
  exact ⟨a, c, by rw [ts_nil h5]⟩
theorem form22 {y v : V} (hv : P22 v) (h : y.t = v.t) : ∃ a2 c2 a3 c3 a4 c4 a5 c5, y = .of 24 0 ⟨#[]⟩ a2 c2 0 [.of 5 22 ⟨#[]⟩ a4 c4 0 [], .of 21 0 ⟨#[]⟩ a3 c3 0 [.of 4 7 ⟨#[]⟩ a5 c5 0 []]] := by
  obtain ⟨_, _, _, _, rfl⟩ := hv
  obtain ⟨k, n, s, a, c, e, l, rfl⟩ := V.ex y
  rw [V.t_of, V.t_of] at h
  obtain ⟨rfl, rfl, rfl, rfl, h5⟩ := T_inj h
  have hlen : l.length = 2 := by have := congrArg List.length h5; rwa [V.ts_length] at this
  match l, hlen with
  | [d, q], _ =>
    simp only [V.ts, List.cons.injEq, and_true] at h5
    obtain ⟨a4, c4, rfl⟩ := of_leaf h5.1
    obtain ⟨k2, n2, s2, a3, c3, e2, l2, rfl⟩ := V.ex q
    have h6 := h5.2
    rw [V.t_of, V.t_of] at h6
    obtain ⟨rfl, rfl, rfl, rfl, h7⟩ := T_inj h6
    have hlen2 : l2.length = 1 := by have := congrArg List.length h7; rwa [V.ts_length] at this
    match l2, hlen2 with
    | [x], _ =>
      simp only [V.ts, List.cons.injEq, and_true] at h7
      obtain ⟨a5, c5, rfl⟩ := of_leaf h7
      exact ⟨_, _, _, _, _, _, _, _, rfl⟩
theorem leafa_all (d k n : Int) (s : ByteArray) (a : Option Addr) (c : Nat) : (V.of k n s a c 0 []).all d = [(d, V.of k n s a c 0 [])] := by
  rw [V.all_of]
  rfl
theorem leafa_t (k n : Int) (s : ByteArray) (a : Option Addr) (c : Nat) : (V.of k n s a c 0 []).t = (leaf k n s).t := by
  unfold leaf
  rw [V.t_of, V.t_of]
theorem check22 (a2 a3 a4 a5 : Option Addr) (c2 c3 c4 c5 : Nat) : firstE checkZ ((V.of 24 0 ⟨#[]⟩ a2 c2 0 [.of 5 22 ⟨#[]⟩ a4 c4 0 [], .of 21 0 ⟨#[]⟩ a3 c3 0 [.of 4 7 ⟨#[]⟩ a5 c5 0 []]]).all 1) = 0 := by
  rw [deep22 _ _ _ _ _ _ (leafa_all _ _ _ _ _ _) (leafa_all _ _ _ _ _ _)]
  refine firstE_none _ _ (fun x hx => ?_)
  simp only [List.mem_cons, List.not_mem_nil, or_false] at hx
  rcases hx with rfl | rfl | rfl | rfl
  · show faultT 1 _ = 0
    rw [faultT_of]
    generalize mapT _ = m
    generalize arrT _ _ = r
    show faultB 24 1 (extraT 24 0 ⟨#[]⟩ 2 0) (numT 24 0) (textT 24 ⟨#[]⟩) m r 2 = 0
    first
    | (cases m <;> cases r <;> decide)
    | (cases m <;> cases r <;> decide +kernel)
    | (cases m <;> cases r <;> rfl)
  · show faultT 2 _ = 0
    rw [faultT_of]
    first
    | decide
    | decide +kernel
  · show faultT 2 _ = 0
    rw [faultT_of]
    generalize mapT _ = m
    generalize arrT _ _ = r
    show faultB 21 2 (extraT 21 0 ⟨#[]⟩ 1 0) (numT 21 0) (textT 21 ⟨#[]⟩) m r 1 = 0
    first
    | (cases m <;> cases r <;> decide)
    | (cases m <;> cases r <;> decide +kernel)
    | (cases m <;> cases r <;> rfl)
  · show faultT 3 _ = 0
    rw [faultT_of]
    first
    | decide
    | decide +kernel
theorem unpack22 {y v : V} (hv : P22 v) (hyt : y.t = v.t) (w : World) (hl : Lies w.heap.size w y) (hT : ∀ W, Below w.heap.size w W → Lib.Utf8Tabs 0 1 W) :
    Calls Tryz.prog 26 #[y.val] w (fun e w' => ∃ z : V, e = .returned (.tuple #[.agg #[.int .i64 22, .slice z.a z.l.length z.c], .int .i64 0, .int .i64 0]) ∧ Hid (V.ts z.l = V.ts l22 ∧ LiesIn (fun b => w.heap.size + 2 ≤ b ∧ b < w'.heap.size) w' z) ∧ Below w.heap.size w w') := by
  obtain ⟨a2, c2, a3, c3, a4, c4, a5, c5, rfl⟩ := form22 hv hyt
  have hl2 := hl.sub (.of 21 0 ⟨#[]⟩ a3 c3 0 [.of 4 7 ⟨#[]⟩ a5 c5 0 []]) (by simp)
  have hl4 := hl2.sub (.of 4 7 ⟨#[]⟩ a5 c5 0 []) (by simp)
  obtain ⟨lb, lo, rfl, hlb, hlr⟩ := hl2.row (by simp)
  have hk4 : (V.of 4 7 ⟨#[]⟩ a5 c5 0 []).k = 4 := V.k_of _ _ _ _ _ _ _
  refine (unpack_gen 22 _ [.of 4 7 ⟨#[]⟩ a5 c5 0 [], leaf 1 0 ⟨#[]⟩, leaf 0 0 ⟨#[]⟩] 3 rfl (by decide) w (fun x hx => ?_) (fun W hW => ?_) (fun W hW => ?_)).mono ?_
  · simp only [List.mem_cons, List.not_mem_nil, or_false] at hx
    rcases hx with rfl | rfl | rfl
    · exact hl4
    · exact leaf_lies _ _ _ _ _ (by decide) (by decide) (by decide)
    · exact leaf_lies _ _ _ _ _ (by decide) (by decide) (by decide)
  · have := check_any _ w.heap.size W hW.size (hl.keep hW (Nat.le_refl _)) (hT W hW)
    rw [check22] at this
    exact this
  · refine unpacked_gen 22 0 ⟨#[]⟩ a2 c2 0 _ 0 ⟨#[]⟩ lb lo c3 0 [.of 4 7 ⟨#[]⟩ a5 c5 0 []] _ m22 3 w.heap.size rfl rfl (by simp) (by decide) (by decide) W hW.size (hl.keep hW (Nat.le_refl _)) ⟨hlb, hlr.below hW hlb⟩ (by rw [leafa_t]; exact kind22) (fun W' _ => fields_like22 W') ?_
    intro i h2 h3 F hF W' hW'
    have h3' : i < 3 := h2
    obtain rfl | rfl | rfl : i = 0 ∨ i = 1 ∨ i = 2 := by omega
    · have ht : F.ty = 4 := congrArg Prod.fst hF
      exact filled_flat F (.of 4 7 ⟨#[]⟩ a5 c5 0 []) (by rw [hk4, ht]) (by rw [hk4]; decide) (by rw [ht]; decide) (by rw [ht]; decide) (by rw [ht]; decide) W'
    · have hm : F.must = false := congrArg (fun p => p.2.1) hF
      have hd : F.d = leaf 1 0 ⟨#[]⟩ := congrArg (fun p => p.2.2) hF
      have := filled_null F (leaf 0 0 ⟨#[]⟩) rfl hm W'
      rw [hd] at this
      exact this
    · have hm : F.must = false := congrArg (fun p => p.2.1) hF
      have hd : F.d = leaf 0 0 ⟨#[]⟩ := congrArg (fun p => p.2.2) hF
      have := filled_null F (leaf 0 0 ⟨#[]⟩) rfl hm W'
      rw [hd] at this
      exact this
  · rintro e w' ⟨z, h1, h2, h3⟩
    refine ⟨z, h1, ⟨?_, h2.out.2⟩, h3⟩
    rw [h2.out.1]
    simp only [l22, V.ts, leafa_t]
set_option maxRecDepth 100000 in
set_option maxHeartbeats 2000000 in
theorem sameRecord_any (k : Int) (l m : List V) (a a' : Option Addr) (c c' n₀ : Nat) (w : World) (hn : n₀ ≤ w.heap.size) (hx : Lies n₀ w (.of 0 0 ⟨#[]⟩ a c 0 l)) (hy : Lies n₀ w (.of 0 0 ⟨#[]⟩ a' c' 0 m)) (he : eqsT (V.ts l) (V.ts m) = true) :
    Calls Tryz.prog 28 #[.agg #[.int .i64 k, .slice a l.length c], .agg #[.int .i64 k, .slice a' m.length c']] w fun e w' => e = .returned (.bool true) ∧ Below w.heap.size w w' := by
  obtain ⟨W0, hW0⟩ : ∃ W0, (w.alloc (Obj.cells #[.int .i64 k, .slice a l.length c] 33)).alloc (Obj.cells #[.int .i64 k, .slice a' m.length c'] 33) = W0 := ⟨_, rfl⟩
  have hs0 : W0.heap.size = w.heap.size + 2 := by rw [← hW0]; simp
  have hb0 : Below w.heap.size w W0 := by rw [← hW0]; exact bel2 (Below.refl _ _) (Nat.le_refl _) _ _
  have xa : BoxR W0 w.heap.size k a l.length c := by rw [← hW0]; exact heap_past (World.alloc_heap_new _ _) _
  have xb : BoxR W0 (w.heap.size + 1) k a' m.length c' := by rw [← hW0]; exact heap_at1 _ _ _
  have h := equalAll_any l m a a' c c' n₀ W0 (by omega) (hx.keep hb0 hn) (hy.keep hb0 hn)
  rw [he] at h
  have HH := hide h
  have HW0 := hide hW0
  clear h hx hy hW0 he
  go_enter Tryz.func28, Tryz.ntmps28
  go_wp2_with fail
  rw [HW0.out]
  refine HH.out.mono ?_
  rintro e w1 ⟨rfl, hb⟩
  have hs := hb.size
  obtain ⟨a0, a1⟩ := (xa.below hb (by omega)).cells
  obtain ⟨b0, b1⟩ := (xb.below hb (by omega)).cells
  have hz1 : w.heap.size < w1.heap.size := by omega
  have hz2 : w.heap.size + 1 < w1.heap.size := by omega
  go_wp2
  go_ret
  exact ⟨by simp, belOn hb0 (by omega) hb⟩
theorem same22 : eqsT (V.ts l22) (V.ts l22) = true := by
  have e0 : eqT l22[0].t l22[0].t = true := by
    show eqT (leaf 4 7 ⟨#[]⟩).t (leaf 4 7 ⟨#[]⟩).t = true
    rw [eqT_leaf]; simp
  have e1 : eqT l22[1].t l22[1].t = true := by
    show eqT (leaf 1 0 ⟨#[]⟩).t (leaf 1 0 ⟨#[]⟩).t = true
    rw [eqT_leaf]; simp
  have e2 : eqT l22[2].t l22[2].t = true := by
    show eqT (leaf 0 0 ⟨#[]⟩).t (leaf 0 0 ⟨#[]⟩).t = true
    rw [eqT_leaf]; simp
  have h3 : eqsT (V.ts (l22.drop 3)) (V.ts (l22.drop 3)) = true := rfl
  have h2 : eqsT (V.ts (l22.drop 2)) (V.ts (l22.drop 2)) = true := by rw [eqsT_step (by decide) (by decide), h3, e2]; rfl
  have h1 : eqsT (V.ts (l22.drop 1)) (V.ts (l22.drop 1)) = true := by rw [eqsT_step (by decide) (by decide), h2, e1]; rfl
  have h0 : eqsT (V.ts (l22.drop 0)) (V.ts (l22.drop 0)) = true := by rw [eqsT_step (by decide) (by decide), h1, e0]; rfl
  exact h0
theorem row22 (w : World) (t : TypeId) : Row (w.alloc (.cells #[.int .i64 4, .int .u64 7, .string ⟨#[]⟩, .slice none 0 0, .int .i64 0, .int .i64 1, .int .u64 0, .string ⟨#[]⟩, .slice none 0 0, .int .i64 0, .int .i64 0, .int .u64 0, .string ⟨#[]⟩, .slice none 0 0, .int .i64 0] t)) w.heap.size 0 l22 := by
  intro i hi
  have h3 : i < 3 := hi
  unfold World.cell?
  simp only [World.alloc_heap_new]
  obtain rfl | rfl | rfl : i = 0 ∨ i = 1 ∨ i = 2 := by omega
  all_goals exact ⟨rfl, rfl, rfl, rfl, rfl⟩
set_option maxRecDepth 100000 in
set_option maxHeartbeats 4000000 in
theorem live_any (w : World) (hT : Lib.Utf8Tabs 0 1 w) : Calls Tryz.prog 7 #[] w fun e w' => e = .returned (.bool true) ∧ Below w.heap.size w w' := by
  have HT : Hid (∀ W, Below w.heap.size w W → Lib.Utf8Tabs 0 1 W) := fun W h => tabs_below hT h
  have HF := hide (fields22_any w)
  clear hT
  go_enter Tryz.func7, Tryz.ntmps7
  go_wp2_with fail
  refine HF.out.mono ?_
  rintro e1 w1 ⟨ko, b, rfl, hb1, _, _, _⟩
  have HN := hide (name16_any w1)
  go_wp2_with fail
  refine HN.out.mono ?_
  rintro e2 w2 ⟨rfl, hb2⟩
  have hbw2 : Below w.heap.size w w2 := belOn hb1 hb1.size hb2
  have hs2 := hbw2.size
  obtain ⟨WA, hWA⟩ : ∃ WA, w2.alloc (.cells #[.int .i64 4, .int .u64 7, .string ⟨#[]⟩, .slice none 0 0, .int .i64 0, .int .i64 1, .int .u64 0, .string ⟨#[]⟩, .slice none 0 0, .int .i64 0, .int .i64 0, .int .u64 0, .string ⟨#[]⟩, .slice none 0 0, .int .i64 0] 42) = WA := ⟨_, rfl⟩
  obtain ⟨W3, hW3⟩ : ∃ W3, WA.alloc (Obj.cells #[.int .i64 22, .slice (some ⟨w2.heap.size, 0, none⟩) 3 3] 33) = W3 := ⟨_, rfl⟩
  have hsA : WA.heap.size = w2.heap.size + 1 := by rw [← hWA]; simp
  have hs3 : W3.heap.size = w2.heap.size + 2 := by rw [← hW3]; simp; omega
  have hbA : Below w2.heap.size w2 WA := by rw [← hWA]; exact bel1 (Below.refl _ _) (Nat.le_refl _) _
  have hbA3 : Below WA.heap.size WA W3 := by rw [← hW3]; exact bel1 (Below.refl _ _) (Nat.le_refl _) _
  have hb23 : Below w2.heap.size w2 W3 := hbA.trans (hbA3.mono (by omega))
  have hbw3 : Below w.heap.size w W3 := belOn hbw2 hs2 hb23
  have hrA : Row WA w2.heap.size 0 l22 := by rw [← hWA]; exact row22 _ _
  have hr3 : Row W3 w2.heap.size 0 l22 := hrA.below hbA3 (by omega)
  have hx3 : BoxR W3 (w2.heap.size + 1) 22 (some ⟨w2.heap.size, 0, none⟩) 3 3 := by rw [← hW3, ← hsA]; exact World.alloc_heap_new _ _
  have HP := hide (pack22 w2.heap.size W3 (by omega) hr3 (fun W h => HT.out W (belOn hbw3 hbw3.size h)))
  unfold VN at HP
  have HR := hide hr3
  have HWA := hide hWA
  have HW3 := hide hW3
  clear hWA hW3 hrA hr3
  go_wp2_with fail
  rw [HWA.out, HW3.out]
  refine HP.out.mono ?_
  rintro e3 w3 ⟨y, rfl, HY, hb3⟩
  have hsz3 := hb3.size
  have hbw4 : Below w.heap.size w w3 := belOn hbw3 hbw3.size hb3
  obtain ⟨W4, hW4⟩ : ∃ W4, w3.alloc (Obj.cells #[.int .i64 y.k, .int .u64 y.n, .string y.s, .slice y.a y.l.length y.c, .int .i64 y.e] 42) = W4 := ⟨_, rfl⟩
  have hs4 : W4.heap.size = w3.heap.size + 1 := by rw [← hW4]; simp
  have hb34 : Below w3.heap.size w3 W4 := by rw [← hW4]; exact bel1 (Below.refl _ _) (Nat.le_refl _) _
  have hbw5 : Below w.heap.size w W4 := belOn hbw4 hbw4.size hb34
  obtain ⟨⟨v, hv, hyt⟩, hyl⟩ := HY.out
  have hU := unpack22 hv hyt W4 ((hyl.keep hb34 (Nat.le_refl _)).mono (by omega)) (fun W h => HT.out W (belOn hbw5 hbw5.size h))
  rw [V.val_eq] at hU
  have HU := hide hU
  have HW4 := hide hW4
  clear hU hW4
  go_wp2_with fail
  rw [HW4.out]
  refine HU.out.mono ?_
  rintro e5 w5 ⟨z, rfl, HZ, hb5⟩
  have hsz5 := hb5.size
  have hb35 : Below W3.heap.size W3 w5 := (hb3.trans (hb34.mono (by omega))).trans (hb5.mono (by omega))
  have hbw6 : Below w.heap.size w w5 := belOn hbw5 hbw5.size hb5
  obtain ⟨W6, hW6⟩ : ∃ W6, w5.alloc (Obj.cells #[.int .i64 22, .slice z.a z.l.length z.c] 33) = W6 := ⟨_, rfl⟩
  have hs6 : W6.heap.size = w5.heap.size + 1 := by rw [← hW6]; simp
  have hb56 : Below w5.heap.size w5 W6 := by rw [← hW6]; exact bel1 (Below.refl _ _) (Nat.le_refl _) _
  have hx6 : BoxR W6 w5.heap.size 22 z.a z.l.length z.c := by rw [← hW6]; exact World.alloc_heap_new _ _
  have hb36 : Below W3.heap.size W3 W6 := belOn hb35 hb35.size hb56
  have hbw7 : Below w.heap.size w W6 := belOn hbw6 hbw6.size hb56
  obtain ⟨r0, r1⟩ := (hx3.below hb35 (by omega)).cells
  have hlx : Lies W6.heap.size W6 (.of 0 0 ⟨#[]⟩ (some ⟨w2.heap.size, 0, none⟩) 3 0 l22) := .mk ⟨by decide, by decide, by decide, by decide, by decide, by decide⟩ (fun _ => ⟨w2.heap.size, 0, rfl, by omega, HR.out.below hb36 (by omega)⟩) (fun x hx => by
    simp only [l22, List.mem_cons, List.not_mem_nil, or_false] at hx
    rcases hx with rfl | rfl | rfl <;> exact leaf_lies _ _ _ _ _ (by decide) (by decide) (by decide))
  have hzz : Lies W6.heap.size W6 z := LiesIn.keep HZ.out.2 (fun b' hq o => hb56.cell (p := ⟨b', o, none⟩) hq.2) (fun b' hq => by have h2 : b' < w5.heap.size := hq.2; omega)
  have hlz : Lies W6.heap.size W6 (.of 0 0 ⟨#[]⟩ z.a z.c 0 z.l) := by
    obtain ⟨zk, zn, zs, za, zc, ze, zl, rfl⟩ := V.ex z
    rw [V.a_of, V.c_of, V.l_of]
    exact .mk ⟨by decide, by decide, by decide, by decide, hzz.ok.l, hzz.ok.c⟩ hzz.row hzz.sub
  have hS := sameRecord_any 22 l22 z.l (some ⟨w2.heap.size, 0, none⟩) z.a 3 z.c W6.heap.size W6 (Nat.le_refl _) hlx hlz (by rw [HZ.out.1]; exact same22)
  have HS : Hid (Calls Tryz.prog 28 #[.agg #[.int .i64 22, .slice (some ⟨w2.heap.size, 0, none⟩) 3 3], .agg #[.int .i64 22, .slice z.a z.l.length z.c]] W6 fun e w' => e = .returned (.bool true) ∧ Below W6.heap.size W6 w') := hS
  have HW6 := hide hW6
  have hz1 : w2.heap.size + 1 < w5.heap.size := by omega
  clear hS hW6 hlx hlz hzz hx6
  go_wp2_with fail
  rw [HW6.out]
  refine HS.out.mono ?_
  rintro e7 w7 ⟨rfl, hb7⟩
  go_wp2
  go_ret
  exact ⟨by simp, belOn hbw7 hbw7.size hb7⟩
def RName (k : Int) : Prop := (∃ r ∈ krows, r.1 = k ∧ r.2.1.toList.isEmpty = false ∧ r.2.1.size ≤ 100 ∧ ∀ w, Calls Tryz.prog 11 #[.int .i64 k] w fun e w' => e = .returned (.string r.2.1) ∧ Below w.heap.size w w') ∨
  ((∀ r ∈ krows, r.1 ≠ k) ∧ ∀ w, Calls Tryz.prog 11 #[.int .i64 k] w fun e w' => e = .returned (.string ⟨#[]⟩) ∧ Below w.heap.size w w')
set_option maxRecDepth 100000 in
theorem krows_mem (i : Nat) (h : i < 36) : krows[i]'(by rw [krows_len]; exact h) ∈ krows := List.getElem_mem _
set_option maxRecDepth 100000 in
theorem rname_any (k : Int) : RName k := by
  by_cases h : k = 16 ∨ k = 17 ∨ k = 18 ∨ k = 19 ∨ k = 20 ∨ k = 21 ∨ k = 22 ∨ k = 23 ∨ k = 24 ∨ k = 29 ∨ k = 35 ∨ k = 36 ∨ k = 37 ∨ k = 38 ∨ k = 39 ∨ k = 40 ∨ k = 41 ∨ k = 48 ∨ k = 49 ∨ k = 50 ∨ k = 51 ∨ k = 52 ∨ k = 64 ∨ k = 65 ∨ k = 66 ∨ k = 67 ∨ k = 68 ∨ k = 112 ∨ k = 115 ∨ k = 113 ∨ k = 114 ∨ k = 116 ∨ k = 120 ∨ k = 117 ∨ k = 118 ∨ k = 119
  · rcases h with rfl | rfl | rfl | rfl | rfl | rfl | rfl | rfl | rfl | rfl | rfl | rfl | rfl | rfl | rfl | rfl | rfl | rfl | rfl | rfl | rfl | rfl | rfl | rfl | rfl | rfl | rfl | rfl | rfl | rfl | rfl | rfl | rfl | rfl | rfl | rfl
    · exact .inl ⟨_, krows_mem 0 (by decide), rfl, by kernel_rfl, of_decide_eq_true (by kernel_rfl), rname_16⟩
    · exact .inl ⟨_, krows_mem 1 (by decide), rfl, by kernel_rfl, of_decide_eq_true (by kernel_rfl), rname_17⟩
    · exact .inl ⟨_, krows_mem 2 (by decide), rfl, by kernel_rfl, of_decide_eq_true (by kernel_rfl), rname_18⟩
    · exact .inl ⟨_, krows_mem 3 (by decide), rfl, by kernel_rfl, of_decide_eq_true (by kernel_rfl), rname_19⟩
    · exact .inl ⟨_, krows_mem 4 (by decide), rfl, by kernel_rfl, of_decide_eq_true (by kernel_rfl), rname_20⟩
    · exact .inl ⟨_, krows_mem 5 (by decide), rfl, by kernel_rfl, of_decide_eq_true (by kernel_rfl), rname_21⟩
    · exact .inl ⟨_, krows_mem 6 (by decide), rfl, by kernel_rfl, of_decide_eq_true (by kernel_rfl), rname_22⟩
    · exact .inl ⟨_, krows_mem 7 (by decide), rfl, by kernel_rfl, of_decide_eq_true (by kernel_rfl), rname_23⟩
    · exact .inl ⟨_, krows_mem 8 (by decide), rfl, by kernel_rfl, of_decide_eq_true (by kernel_rfl), rname_24⟩
    · exact .inl ⟨_, krows_mem 9 (by decide), rfl, by kernel_rfl, of_decide_eq_true (by kernel_rfl), rname_29⟩
    · exact .inl ⟨_, krows_mem 10 (by decide), rfl, by kernel_rfl, of_decide_eq_true (by kernel_rfl), rname_35⟩
    · exact .inl ⟨_, krows_mem 11 (by decide), rfl, by kernel_rfl, of_decide_eq_true (by kernel_rfl), rname_36⟩
    · exact .inl ⟨_, krows_mem 12 (by decide), rfl, by kernel_rfl, of_decide_eq_true (by kernel_rfl), rname_37⟩
    · exact .inl ⟨_, krows_mem 13 (by decide), rfl, by kernel_rfl, of_decide_eq_true (by kernel_rfl), rname_38⟩
    · exact .inl ⟨_, krows_mem 14 (by decide), rfl, by kernel_rfl, of_decide_eq_true (by kernel_rfl), rname_39⟩
    · exact .inl ⟨_, krows_mem 15 (by decide), rfl, by kernel_rfl, of_decide_eq_true (by kernel_rfl), rname_40⟩
    · exact .inl ⟨_, krows_mem 16 (by decide), rfl, by kernel_rfl, of_decide_eq_true (by kernel_rfl), rname_41⟩
    · exact .inl ⟨_, krows_mem 17 (by decide), rfl, by kernel_rfl, of_decide_eq_true (by kernel_rfl), rname_48⟩
    · exact .inl ⟨_, krows_mem 18 (by decide), rfl, by kernel_rfl, of_decide_eq_true (by kernel_rfl), rname_49⟩
    · exact .inl ⟨_, krows_mem 19 (by decide), rfl, by kernel_rfl, of_decide_eq_true (by kernel_rfl), rname_50⟩
    · exact .inl ⟨_, krows_mem 20 (by decide), rfl, by kernel_rfl, of_decide_eq_true (by kernel_rfl), rname_51⟩
    · exact .inl ⟨_, krows_mem 21 (by decide), rfl, by kernel_rfl, of_decide_eq_true (by kernel_rfl), rname_52⟩
    · exact .inl ⟨_, krows_mem 22 (by decide), rfl, by kernel_rfl, of_decide_eq_true (by kernel_rfl), rname_64⟩
    · exact .inl ⟨_, krows_mem 23 (by decide), rfl, by kernel_rfl, of_decide_eq_true (by kernel_rfl), rname_65⟩
    · exact .inl ⟨_, krows_mem 24 (by decide), rfl, by kernel_rfl, of_decide_eq_true (by kernel_rfl), rname_66⟩
    · exact .inl ⟨_, krows_mem 25 (by decide), rfl, by kernel_rfl, of_decide_eq_true (by kernel_rfl), rname_67⟩
    · exact .inl ⟨_, krows_mem 26 (by decide), rfl, by kernel_rfl, of_decide_eq_true (by kernel_rfl), rname_68⟩
    · exact .inl ⟨_, krows_mem 27 (by decide), rfl, by kernel_rfl, of_decide_eq_true (by kernel_rfl), rname_112⟩
    · exact .inl ⟨_, krows_mem 28 (by decide), rfl, by kernel_rfl, of_decide_eq_true (by kernel_rfl), rname_115⟩
    · exact .inl ⟨_, krows_mem 29 (by decide), rfl, by kernel_rfl, of_decide_eq_true (by kernel_rfl), rname_113⟩
    · exact .inl ⟨_, krows_mem 30 (by decide), rfl, by kernel_rfl, of_decide_eq_true (by kernel_rfl), rname_114⟩
    · exact .inl ⟨_, krows_mem 31 (by decide), rfl, by kernel_rfl, of_decide_eq_true (by kernel_rfl), rname_116⟩
    · exact .inl ⟨_, krows_mem 32 (by decide), rfl, by kernel_rfl, of_decide_eq_true (by kernel_rfl), rname_120⟩
    · exact .inl ⟨_, krows_mem 33 (by decide), rfl, by kernel_rfl, of_decide_eq_true (by kernel_rfl), rname_117⟩
    · exact .inl ⟨_, krows_mem 34 (by decide), rfl, by kernel_rfl, of_decide_eq_true (by kernel_rfl), rname_118⟩
    · exact .inl ⟨_, krows_mem 35 (by decide), rfl, by kernel_rfl, of_decide_eq_true (by kernel_rfl), rname_119⟩
  · refine .inr ⟨fun r hr hk => h ?_, fun w => ?_⟩
    · obtain ⟨i, hi, rfl⟩ := List.mem_iff_getElem.1 hr
      have hi' : i < 36 := hi
      subst hk
      match i, hi' with
      | 0, _ => exact (.inl rfl)
      | 1, _ => exact (.inr (.inl rfl))
      | 2, _ => exact (.inr (.inr (.inl rfl)))
      | 3, _ => exact (.inr (.inr (.inr (.inl rfl))))
      | 4, _ => exact (.inr (.inr (.inr (.inr (.inl rfl)))))
      | 5, _ => exact (.inr (.inr (.inr (.inr (.inr (.inl rfl))))))
      | 6, _ => exact (.inr (.inr (.inr (.inr (.inr (.inr (.inl rfl)))))))
      | 7, _ => exact (.inr (.inr (.inr (.inr (.inr (.inr (.inr (.inl rfl))))))))
      | 8, _ => exact (.inr (.inr (.inr (.inr (.inr (.inr (.inr (.inr (.inl rfl)))))))))
      | 9, _ => exact (.inr (.inr (.inr (.inr (.inr (.inr (.inr (.inr (.inr (.inl rfl))))))))))
      | 10, _ => exact (.inr (.inr (.inr (.inr (.inr (.inr (.inr (.inr (.inr (.inr (.inl rfl)))))))))))
      | 11, _ => exact (.inr (.inr (.inr (.inr (.inr (.inr (.inr (.inr (.inr (.inr (.inr (.inl rfl))))))))))))
      | 12, _ => exact (.inr (.inr (.inr (.inr (.inr (.inr (.inr (.inr (.inr (.inr (.inr (.inr (.inl rfl)))))))))))))
      | 13, _ => exact (.inr (.inr (.inr (.inr (.inr (.inr (.inr (.inr (.inr (.inr (.inr (.inr (.inr (.inl rfl))))))))))))))
      | 14, _ => exact (.inr (.inr (.inr (.inr (.inr (.inr (.inr (.inr (.inr (.inr (.inr (.inr (.inr (.inr (.inl rfl)))))))))))))))
      | 15, _ => exact (.inr (.inr (.inr (.inr (.inr (.inr (.inr (.inr (.inr (.inr (.inr (.inr (.inr (.inr (.inr (.inl rfl))))))))))))))))
      | 16, _ => exact (.inr (.inr (.inr (.inr (.inr (.inr (.inr (.inr (.inr (.inr (.inr (.inr (.inr (.inr (.inr (.inr (.inl rfl)))))))))))))))))
      | 17, _ => exact (.inr (.inr (.inr (.inr (.inr (.inr (.inr (.inr (.inr (.inr (.inr (.inr (.inr (.inr (.inr (.inr (.inr (.inl rfl))))))))))))))))))
      | 18, _ => exact (.inr (.inr (.inr (.inr (.inr (.inr (.inr (.inr (.inr (.inr (.inr (.inr (.inr (.inr (.inr (.inr (.inr (.inr (.inl rfl)))))))))))))))))))
      | 19, _ => exact (.inr (.inr (.inr (.inr (.inr (.inr (.inr (.inr (.inr (.inr (.inr (.inr (.inr (.inr (.inr (.inr (.inr (.inr (.inr (.inl rfl))))))))))))))))))))
      | 20, _ => exact (.inr (.inr (.inr (.inr (.inr (.inr (.inr (.inr (.inr (.inr (.inr (.inr (.inr (.inr (.inr (.inr (.inr (.inr (.inr (.inr (.inl rfl)))))))))))))))))))))
      | 21, _ => exact (.inr (.inr (.inr (.inr (.inr (.inr (.inr (.inr (.inr (.inr (.inr (.inr (.inr (.inr (.inr (.inr (.inr (.inr (.inr (.inr (.inr (.inl rfl))))))))))))))))))))))
      | 22, _ => exact (.inr (.inr (.inr (.inr (.inr (.inr (.inr (.inr (.inr (.inr (.inr (.inr (.inr (.inr (.inr (.inr (.inr (.inr (.inr (.inr (.inr (.inr (.inl rfl)))))))))))))))))))))))
      | 23, _ => exact (.inr (.inr (.inr (.inr (.inr (.inr (.inr (.inr (.inr (.inr (.inr (.inr (.inr (.inr (.inr (.inr (.inr (.inr (.inr (.inr (.inr (.inr (.inr (.inl rfl))))))))))))))))))))))))
      | 24, _ => exact (.inr (.inr (.inr (.inr (.inr (.inr (.inr (.inr (.inr (.inr (.inr (.inr (.inr (.inr (.inr (.inr (.inr (.inr (.inr (.inr (.inr (.inr (.inr (.inr (.inl rfl)))))))))))))))))))))))))
      | 25, _ => exact (.inr (.inr (.inr (.inr (.inr (.inr (.inr (.inr (.inr (.inr (.inr (.inr (.inr (.inr (.inr (.inr (.inr (.inr (.inr (.inr (.inr (.inr (.inr (.inr (.inr (.inl rfl))))))))))))))))))))))))))
      | 26, _ => exact (.inr (.inr (.inr (.inr (.inr (.inr (.inr (.inr (.inr (.inr (.inr (.inr (.inr (.inr (.inr (.inr (.inr (.inr (.inr (.inr (.inr (.inr (.inr (.inr (.inr (.inr (.inl rfl)))))))))))))))))))))))))))
      | 27, _ => exact (.inr (.inr (.inr (.inr (.inr (.inr (.inr (.inr (.inr (.inr (.inr (.inr (.inr (.inr (.inr (.inr (.inr (.inr (.inr (.inr (.inr (.inr (.inr (.inr (.inr (.inr (.inr (.inl rfl))))))))))))))))))))))))))))
      | 28, _ => exact (.inr (.inr (.inr (.inr (.inr (.inr (.inr (.inr (.inr (.inr (.inr (.inr (.inr (.inr (.inr (.inr (.inr (.inr (.inr (.inr (.inr (.inr (.inr (.inr (.inr (.inr (.inr (.inr (.inl rfl)))))))))))))))))))))))))))))
      | 29, _ => exact (.inr (.inr (.inr (.inr (.inr (.inr (.inr (.inr (.inr (.inr (.inr (.inr (.inr (.inr (.inr (.inr (.inr (.inr (.inr (.inr (.inr (.inr (.inr (.inr (.inr (.inr (.inr (.inr (.inr (.inl rfl))))))))))))))))))))))))))))))
      | 30, _ => exact (.inr (.inr (.inr (.inr (.inr (.inr (.inr (.inr (.inr (.inr (.inr (.inr (.inr (.inr (.inr (.inr (.inr (.inr (.inr (.inr (.inr (.inr (.inr (.inr (.inr (.inr (.inr (.inr (.inr (.inr (.inl rfl)))))))))))))))))))))))))))))))
      | 31, _ => exact (.inr (.inr (.inr (.inr (.inr (.inr (.inr (.inr (.inr (.inr (.inr (.inr (.inr (.inr (.inr (.inr (.inr (.inr (.inr (.inr (.inr (.inr (.inr (.inr (.inr (.inr (.inr (.inr (.inr (.inr (.inr (.inl rfl))))))))))))))))))))))))))))))))
      | 32, _ => exact (.inr (.inr (.inr (.inr (.inr (.inr (.inr (.inr (.inr (.inr (.inr (.inr (.inr (.inr (.inr (.inr (.inr (.inr (.inr (.inr (.inr (.inr (.inr (.inr (.inr (.inr (.inr (.inr (.inr (.inr (.inr (.inr (.inl rfl)))))))))))))))))))))))))))))))))
      | 33, _ => exact (.inr (.inr (.inr (.inr (.inr (.inr (.inr (.inr (.inr (.inr (.inr (.inr (.inr (.inr (.inr (.inr (.inr (.inr (.inr (.inr (.inr (.inr (.inr (.inr (.inr (.inr (.inr (.inr (.inr (.inr (.inr (.inr (.inr (.inl rfl))))))))))))))))))))))))))))))))))
      | 34, _ => exact (.inr (.inr (.inr (.inr (.inr (.inr (.inr (.inr (.inr (.inr (.inr (.inr (.inr (.inr (.inr (.inr (.inr (.inr (.inr (.inr (.inr (.inr (.inr (.inr (.inr (.inr (.inr (.inr (.inr (.inr (.inr (.inr (.inr (.inr (.inl rfl)))))))))))))))))))))))))))))))))))
      | 35, _ => exact (.inr (.inr (.inr (.inr (.inr (.inr (.inr (.inr (.inr (.inr (.inr (.inr (.inr (.inr (.inr (.inr (.inr (.inr (.inr (.inr (.inr (.inr (.inr (.inr (.inr (.inr (.inr (.inr (.inr (.inr (.inr (.inr (.inr (.inr (.inr rfl)))))))))))))))))))))))))))))))))))
      | n + 36, h => omega
    · refine rname_no k (fun n hn => ?_) ?_ ?_ ?_ ?_ w
      · rw [beq_eq_false_iff_ne]
        rintro rfl
        simp only [List.mem_cons, List.not_mem_nil, or_false] at hn
        omega
      · by_cases h1 : 35 ≤ k
        · exact .inr ⟨decide_eq_true h1, decide_eq_false (by omega)⟩
        · exact .inl (decide_eq_false h1)
      · by_cases h1 : 48 ≤ k
        · exact .inr ⟨decide_eq_true h1, decide_eq_false (by omega)⟩
        · exact .inl (decide_eq_false h1)
      · by_cases h1 : 64 ≤ k
        · exact .inr ⟨decide_eq_true h1, decide_eq_false (by omega)⟩
        · exact .inl (decide_eq_false h1)
      · by_cases h1 : 112 ≤ k
        · exact .inr ⟨decide_eq_true h1, decide_eq_false (by omega)⟩
        · exact .inl (decide_eq_false h1)
end Go.Proofs.YtgldcchleoklcaaGreatDoor
