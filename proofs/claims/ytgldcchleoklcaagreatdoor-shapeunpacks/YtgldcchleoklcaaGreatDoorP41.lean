/- HLiveM, HLiveP, HLiveU, HLive, HShN, HRKindM, HBkM, HBkN, HBkP, HRNameA, HRKind -/
import Derived.Test.YtgldcchleoklcaaGreatDoorP26
import Derived.Test.YtgldcchleoklcaaGreatDoorP35
import Derived.Test.YtgldcchleoklcaaGreatDoorP07
import Derived.Test.YtgldcchleoklcaaGreatDoorP38
import Derived.Test.YtgldcchleoklcaaGreatDoorP17
import Derived.Test.YtgldcchleoklcaaGreatDoorP40
import Derived.Test.YtgldcchleoklcaaGreatDoorP06
import Derived.Test.YtgldcchleoklcaaGreatDoorP19
import Derived.Test.YtgldcchleoklcaaGreatDoorP04
namespace Go.Proofs.YtgldcchleoklcaaGreatDoor
open Go.RowKit
set_option linter.unusedVariables false
set_option linter.unusedSimpArgs false
theorem eqT_leaf (k n : Int) (s : ByteArray) (k' n' : Int) (s' : ByteArray) : eqT (leaf k n s).t (leaf k' n' s').t = (decide (k = k') && decide (n = n') && decide (s.toList = s'.toList)) := by
  unfold leaf
  rw [eqT_of]
  have h : eqsT (V.ts []) (V.ts []) = true := rfl
  rw [h]
  simp
set_option maxRecDepth 100000 in
theorem kind22 : kindL (leaf 5 22 ⟨#[]⟩).t krows = some 22 := by
  simp only [krows, kindL, eqT_leaf]
  rfl
theorem live_outs : outs [leaf 4 7 ⟨#[]⟩, leaf 1 0 ⟨#[]⟩, leaf 0 0 ⟨#[]⟩] [leaf 0 0 ⟨#[]⟩, leaf 1 0 ⟨#[]⟩, leaf 0 0 ⟨#[]⟩] = [leaf 4 7 ⟨#[]⟩, leaf 0 0 ⟨#[]⟩, leaf 0 0 ⟨#[]⟩] := by
  simp only [outs, List.zipWith, eqT_leaf]
  rfl
theorem live_said : saidN [leaf 4 7 ⟨#[]⟩, leaf 1 0 ⟨#[]⟩, leaf 0 0 ⟨#[]⟩] [leaf 0 0 ⟨#[]⟩, leaf 1 0 ⟨#[]⟩, leaf 0 0 ⟨#[]⟩] 3 = 1 := by
  rw [saidN_step _ _ 2 (by simp) (by simp), saidN_step _ _ 1 (by simp) (by simp), saidN_step _ _ 0 (by simp) (by simp)]
  simp [eqT_leaf]
theorem live_check (k n : Int) (h : faultT 1 (leaf k n ⟨#[]⟩).t = 0) : firstE checkZ ((leaf k n ⟨#[]⟩).all 1) = 0 := by
  refine firstE_none _ _ (fun x hx => ?_)
  unfold leaf at hx h
  rw [V.all_of] at hx
  have hx' : x = (1, V.of k n ⟨#[]⟩ none 0 0 []) := by simpa [V.alls] using hx
  rw [hx']
  exact h
theorem live_f4 : faultT 1 (leaf 4 7 ⟨#[]⟩).t = 0 := by
  unfold leaf
  rw [faultT_of]
  first
  | rfl
  | decide
  | decide +kernel
theorem live_f1 : faultT 1 (leaf 1 0 ⟨#[]⟩).t = 0 := by
  unfold leaf
  rw [faultT_of]
  first
  | rfl
  | decide
  | decide +kernel
theorem live_f0 : faultT 1 (leaf 0 0 ⟨#[]⟩).t = 0 := by
  unfold leaf
  rw [faultT_of]
  first
  | rfl
  | decide
  | decide +kernel
set_option maxRecDepth 100000 in
set_option maxHeartbeats 2000000 in
theorem equalAll_any (l m : List V) (a a' : Option Addr) (c c' n₀ : Nat) (w : World) (hn : n₀ ≤ w.heap.size) (hx : Lies n₀ w (.of 0 0 ⟨#[]⟩ a c 0 l)) (hy : Lies n₀ w (.of 0 0 ⟨#[]⟩ a' c' 0 m)) :
    Calls Tryz.prog 47 #[.slice a l.length c, .slice a' m.length c'] w fun e w' => e = .returned (.bool (eqsT (V.ts l) (V.ts m))) ∧ Below w.heap.size w w' := by
  have h := requal_any _ (.of 0 0 ⟨#[]⟩ a' c' 0 m) n₀ w hn hx hy
  rw [V.val_of, V.val_of, eqT_of] at h
  have HH := hide h
  clear h hx hy
  go_enter Tryz.func47, Tryz.ntmps47
  go_wp2_with fail
  refine HH.out.mono ?_
  rintro e w1 ⟨rfl, hb⟩
  go_wp2
  go_ret
  refine ⟨?_, hb⟩
  simp
def m22 : List (Int × Bool × V) := [(4, true, leaf 0 0 ⟨#[]⟩), (1, false, leaf 1 0 ⟨#[]⟩), (102, false, leaf 0 0 ⟨#[]⟩)]
def l22 : List V := [leaf 4 7 ⟨#[]⟩, leaf 1 0 ⟨#[]⟩, leaf 0 0 ⟨#[]⟩]
theorem fields_like22 (W : World) : Calls Tryz.prog 8 #[.int .i64 22] W (FieldsLike 3 m22 W) := by
  refine (fields22_any W).mono ?_
  rintro e w' ⟨ko, b, rfl, hb, h1, h2, h3⟩
  exact ⟨some ⟨b, 0, none⟩, _, rfl, ⟨⟨rfl, rfl⟩, fun _ => ⟨b, rfl, h1, h2, h3⟩⟩, hb⟩
theorem leaf_k (k n : Int) (s : ByteArray) : (leaf k n s).k = k := rfl
theorem check_leaf (k n : Int) (hk : -9223372036854775808 ≤ k ∧ k ≤ 9223372036854775807) (hn : 0 ≤ n ∧ n ≤ 18446744073709551615) (h : faultT 1 (leaf k n ⟨#[]⟩).t = 0) (W : World) (hT : Lib.Utf8Tabs 0 1 W) : Calls Tryz.prog 42 #[(leaf k n ⟨#[]⟩).val] W fun e w' => e = .returned (.int .i64 0) ∧ Below W.heap.size W w' := by
  have := check_any (leaf k n ⟨#[]⟩) W.heap.size W (Nat.le_refl _) (leaf_lies _ _ _ _ _ hk hn (by decide)) hT
  rw [live_check k n h] at this
  exact this
theorem checks22 (w : World) (hT : ∀ W, Below w.heap.size w W → Lib.Utf8Tabs 0 1 W) : ∀ i (h1 : i < l22.length) (h2 : i < m22.length) (h3 : i < l22.length), ∀ F : Fd, F.m = m22[i] → ∀ W, Below w.heap.size w W → Calls Tryz.prog 98 #[F.val, l22[i].val] W fun e w' => e = VN l22[i] 0 ∧ Below W.heap.size W w' := by
  intro i h1 h2 h3 F hF W hW
  have h3' : i < 3 := h1
  have hTW : ∀ W', Below W.heap.size W W' → Lib.Utf8Tabs 0 1 W' := fun W' h => hT W' (belOn hW hW.size h)
  obtain rfl | rfl | rfl : i = 0 ∨ i = 1 ∨ i = 2 := by omega
  · have ht : F.ty = 4 := congrArg Prod.fst hF
    have hm : F.must = true := congrArg (fun p => p.2.1) hF
    show Calls Tryz.prog 98 #[F.val, (leaf 4 7 ⟨#[]⟩).val] W fun e w' => e = VN (leaf 4 7 ⟨#[]⟩) 0 ∧ Below W.heap.size W w'
    refine checked_gen F _ _ W (by rw [hm]; rfl) (by rw [ht]; rfl) (fun W' hb => check_leaf 4 7 (by decide) (by decide) live_f4 W' (hTW W' hb)) (fun W' hb => filled_flat F (leaf 4 7 ⟨#[]⟩) (by rw [leaf_k, ht]) (by rw [leaf_k]; decide) (by rw [ht]; decide) (by rw [ht]; decide) (by rw [ht]; decide) W')
  · have ht : F.ty = 1 := congrArg Prod.fst hF
    have hm : F.must = false := congrArg (fun p => p.2.1) hF
    show Calls Tryz.prog 98 #[F.val, (leaf 1 0 ⟨#[]⟩).val] W fun e w' => e = VN (leaf 1 0 ⟨#[]⟩) 0 ∧ Below W.heap.size W w'
    refine checked_gen F _ _ W (by rw [hm]; rfl) (by rw [ht]; rfl) (fun W' hb => check_leaf 1 0 (by decide) (by decide) live_f1 W' (hTW W' hb)) (fun W' hb => filled_flat F (leaf 1 0 ⟨#[]⟩) (by rw [leaf_k, ht]) (by rw [leaf_k]; decide) (by rw [ht]; decide) (by rw [ht]; decide) (by rw [ht]; decide) W')
  · have ht : F.ty = 102 := congrArg Prod.fst hF
    have hm : F.must = false := congrArg (fun p => p.2.1) hF
    have hd : F.d = leaf 0 0 ⟨#[]⟩ := congrArg (fun p => p.2.2) hF
    show Calls Tryz.prog 98 #[F.val, (leaf 0 0 ⟨#[]⟩).val] W fun e w' => e = VN (leaf 0 0 ⟨#[]⟩) 0 ∧ Below W.heap.size W w'
    refine checked_gen F _ _ W (by rw [hm]; rfl) (by rw [ht]; rfl) (fun W' hb => check_leaf 0 0 (by decide) (by decide) live_f0 W' (hTW W' hb)) (fun W' hb => ?_)
    have := filled_null F (leaf 0 0 ⟨#[]⟩) rfl hm W'
    rw [hd] at this
    exact this
def P22 (v : V) : Prop := ∃ a2 a3 c2 c3, v = .of 24 0 ⟨#[]⟩ a2 c2 0 [leaf 5 22 ⟨#[]⟩, .of 21 0 ⟨#[]⟩ a3 c3 0 [leaf 4 7 ⟨#[]⟩]]
theorem outs22 : (outs l22 (m22.map fun m => m.2.2)).take (saidN l22 (m22.map fun m => m.2.2) l22.length) = [leaf 4 7 ⟨#[]⟩] := by
  show (outs [leaf 4 7 ⟨#[]⟩, leaf 1 0 ⟨#[]⟩, leaf 0 0 ⟨#[]⟩] [leaf 0 0 ⟨#[]⟩, leaf 1 0 ⟨#[]⟩, leaf 0 0 ⟨#[]⟩]).take (saidN [leaf 4 7 ⟨#[]⟩, leaf 1 0 ⟨#[]⟩, leaf 0 0 ⟨#[]⟩] [leaf 0 0 ⟨#[]⟩, leaf 1 0 ⟨#[]⟩, leaf 0 0 ⟨#[]⟩] 3) = _
  rw [live_said, live_outs]
  rfl
theorem leaf_all (d k n : Int) (s : ByteArray) : (leaf k n s).all d = [(d, leaf k n s)] := by
  unfold leaf
  rw [V.all_of]
  rfl
theorem deep22 (a2 a3 : Option Addr) (c2 c3 : Nat) (x y : V) (hx : x.all 2 = [(2, x)]) (hy : y.all 3 = [(3, y)]) : (V.of 24 0 ⟨#[]⟩ a2 c2 0 [x, .of 21 0 ⟨#[]⟩ a3 c3 0 [y]]).all 1 = [(1, V.of 24 0 ⟨#[]⟩ a2 c2 0 [x, .of 21 0 ⟨#[]⟩ a3 c3 0 [y]]), (2, x), (2, V.of 21 0 ⟨#[]⟩ a3 c3 0 [y]), (3, y)] := by
  rw [V.all_of]
  have h2 : wrap64 (1 + 1) = 2 := by kernel_rfl
  have h3 : wrap64 (2 + 1) = 3 := by kernel_rfl
  rw [h2]
  simp only [V.alls]
  rw [V.all_of, h3, hx]
  simp only [V.alls]
  rw [hy]
  rfl
theorem pack22 (R : Nat) (w : World) (hR : R < w.heap.size) (hr : Row w R 0 l22) (hT : ∀ W, Below w.heap.size w W → Lib.Utf8Tabs 0 1 W) :
    Calls Tryz.prog 19 #[.agg #[.int .i64 22, .slice (some ⟨R, 0, none⟩) 3 3]] w (fun e w' => ∃ y : V, e = VN y 0 ∧ Hid ((∃ v, P22 v ∧ y.t = v.t) ∧ Lies w'.heap.size w' y) ∧ Below w.heap.size w w') := by
  refine pack_gen 22 (some ⟨R, 0, none⟩) 3 3 w P22 (fun W hW => ?_)
  have hsz := hW.size
  have := packed_gen 22 (by decide) (by decide) l22 l22 m22 rfl rfl R 3 (by decide) (by decide) (by decide) W (by omega) (hr.below hW hR)
    (fun x hx => by
      simp only [l22, List.mem_cons, List.not_mem_nil, or_false] at hx
      rcases hx with rfl | rfl | rfl <;> exact leaf_lies _ _ _ _ _ (by decide) (by decide) (by decide))
    (fun d hd n₀ W' => by
      simp only [m22, List.map_cons, List.map_nil, List.mem_cons, List.not_mem_nil, or_false] at hd
      rcases hd with rfl | rfl | rfl <;> exact leaf_lies _ _ _ _ _ (by decide) (by decide) (by decide))
    (fun W' _ => fields_like22 W') (checks22 W (fun W' h => hT W' (belOn hW hsz h)))
    (fun a2 a3 c2 c3 => by
      rw [outs22, deep22 _ _ _ _ _ _ (leaf_all _ _ _ _) (leaf_all _ _ _ _)]
      show ([1, 2, 2, 3] : List Int).foldl max 0 ≤ 32
      decide)
  refine this.mono ?_
  rintro e w' ⟨v, h1, h2, h3⟩
  refine ⟨v, h1, ⟨?_, h2.out.2⟩, h3⟩
  obtain ⟨a2, a3, c2, c3, hv⟩ := h2.out.1
  rw [outs22] at hv
  exact ⟨a2, a3, c2, c3, hv⟩
theorem T_inj {k n k' n' e e' : Int} {s s' : ByteArray} {l l' : List T} (h : T.of k n s e l = T.of k' n' s' e' l') : k = k' ∧ n = n' ∧ s = s' ∧ e = e' ∧ l = l' := by
  have h1 : V.k (V.of k n s none 0 e l) = V.k (V.of k' n' s' none 0 e' l') := congrArg V.k h
  have h2 : V.n (V.of k n s none 0 e l) = V.n (V.of k' n' s' none 0 e' l') := congrArg V.n h
  have h3 : V.s (V.of k n s none 0 e l) = V.s (V.of k' n' s' none 0 e' l') := congrArg V.s h
  have h4 : V.e (V.of k n s none 0 e l) = V.e (V.of k' n' s' none 0 e' l') := congrArg V.e h
  have h5 : V.l (V.of k n s none 0 e l) = V.l (V.of k' n' s' none 0 e' l') := congrArg V.l h
  rw [V.k_of, V.k_of] at h1
  rw [V.n_of, V.n_of] at h2
  rw [V.s_of, V.s_of] at h3
  rw [V.e_of, V.e_of] at h4
  rw [V.l_of, V.l_of] at h5
  exact ⟨h1, h2, h3, h4, h5⟩
theorem ts_nil {l : List V} (h : V.ts l = []) : l = [] := by
  cases l with
  | nil => rfl
  | cons x l => simp [V.ts] at h
theorem of_leaf {x : V} {k n : Int} {s : ByteArray} (h : x.t = (leaf k n s).t) : ∃ a c, x = .of k n s a c 0 [] := by
  obtain ⟨k', n', s', a, c, e, l, rfl⟩ := V.ex x
  unfold leaf at h
  rw [V.t_of, V.t_of] at h
  obtain ⟨rfl, rfl, rfl, rfl, h5⟩ := T_inj h
  exact ⟨a, c, by rw [ts_nil h5]⟩
theorem form22 {y v : V} (hv : P22 v) (h : y.t = v.t) : ∃ a2 c2 a3 c3 a4 c4 a5 c5, y = .of 24 0 ⟨#[]⟩ a2 c2 0 [.of 5 22 ⟨#[]⟩ a4 c4 0 [], .of 21 0 ⟨#[]⟩ a3 c3 0 [.of 4 7 ⟨#[]⟩ a5 c5 0 []]] := by
  obtain ⟨_, _, _, _, rfl⟩ := hv
  obtain ⟨k, n, s, a, c, e, l, rfl⟩ := V.ex y
  rw [V.t_of, V.t_of] at h
  obtain ⟨rfl, rfl, rfl, rfl, h5⟩ := T_inj h
  have hlen : l.length = 2 := by have := congrArg List.length h5; rwa [V.ts_length] at this
  match l, hlen with
  | [d, q], _ =>
    simp only [V.ts, List.cons.injEq, and_true] at h5
    obtain ⟨a4, c4, rfl⟩ := of_leaf h5.1
    obtain ⟨k2, n2, s2, a3, c3, e2, l2, rfl⟩ := V.ex q
    have h6 := h5.2
    rw [V.t_of, V.t_of] at h6
    obtain ⟨rfl, rfl, rfl, rfl, h7⟩ := T_inj h6
    have hlen2 : l2.length = 1 := by have := congrArg List.length h7; rwa [V.ts_length] at this
    match l2, hlen2 with
    | [x], _ =>
      simp only [V.ts, List.cons.injEq, and_true] at h7
      obtain ⟨a5, c5, rfl⟩ := of_leaf h7
      exact ⟨_, _, _, _, _, _, _, _, rfl⟩
theorem leafa_all (d k n : Int) (s : ByteArray) (a : Option Addr) (c : Nat) : (V.of k n s a c 0 []).all d = [(d, V.of k n s a c 0 [])] := by
  rw [V.all_of]
  rfl
theorem leafa_t (k n : Int) (s : ByteArray) (a : Option Addr) (c : Nat) : (V.of k n s a c 0 []).t = (leaf k n s).t := by
  unfold leaf
  rw [V.t_of, V.t_of]
theorem check22 (a2 a3 a4 a5 : Option Addr) (c2 c3 c4 c5 : Nat) : firstE checkZ ((V.of 24 0 ⟨#[]⟩ a2 c2 0 [.of 5 22 ⟨#[]⟩ a4 c4 0 [], .of 21 0 ⟨#[]⟩ a3 c3 0 [.of 4 7 ⟨#[]⟩ a5 c5 0 []]]).all 1) = 0 := by
  rw [deep22 _ _ _ _ _ _ (leafa_all _ _ _ _ _ _) (leafa_all _ _ _ _ _ _)]
  refine firstE_none _ _ (fun x hx => ?_)
  simp only [List.mem_cons, List.not_mem_nil, or_false] at hx
  rcases hx with rfl | rfl | rfl | rfl
  · show faultT 1 _ = 0
    rw [faultT_of]
    generalize mapT _ = m
    generalize arrT _ _ = r
    show faultB 24 1 (extraT 24 0 ⟨#[]⟩ 2 0) (numT 24 0) (textT 24 ⟨#[]⟩) m r 2 = 0
    first
    | (cases m <;> cases r <;> decide)
    | (cases m <;> cases r <;> decide +kernel)
    | (cases m <;> cases r <;> rfl)
  · show faultT 2 _ = 0
    rw [faultT_of]
    first
    | decide
    | decide +kernel
  · show faultT 2 _ = 0
    rw [faultT_of]
    generalize mapT _ = m
    generalize arrT _ _ = r
    show faultB 21 2 (extraT 21 0 ⟨#[]⟩ 1 0) (numT 21 0) (textT 21 ⟨#[]⟩) m r 1 = 0
    first
    | (cases m <;> cases r <;> decide)
    | (cases m <;> cases r <;> decide +kernel)
    | (cases m <;> cases r <;> rfl)
  · show faultT 3 _ = 0
    rw [faultT_of]
    first
    | decide
    | decide +kernel
theorem unpack22 {y v : V} (hv : P22 v) (hyt : y.t = v.t) (w : World) (hl : Lies w.heap.size w y) (hT : ∀ W, Below w.heap.size w W → Lib.Utf8Tabs 0 1 W) :
    Calls Tryz.prog 26 #[y.val] w (fun e w' => ∃ z : V, e = .returned (.tuple #[.agg #[.int .i64 22, .slice z.a z.l.length z.c], .int .i64 0, .int .i64 0]) ∧ Hid (V.ts z.l = V.ts l22 ∧ LiesIn (fun b => w.heap.size + 2 ≤ b ∧ b < w'.heap.size) w' z) ∧ Below w.heap.size w w') := by
  obtain ⟨a2, c2, a3, c3, a4, c4, a5, c5, rfl⟩ := form22 hv hyt
  have hl2 := hl.sub (.of 21 0 ⟨#[]⟩ a3 c3 0 [.of 4 7 ⟨#[]⟩ a5 c5 0 []]) (by simp)
  have hl4 := hl2.sub (.of 4 7 ⟨#[]⟩ a5 c5 0 []) (by simp)
  obtain ⟨lb, lo, rfl, hlb, hlr⟩ := hl2.row (by simp)
  have hk4 : (V.of 4 7 ⟨#[]⟩ a5 c5 0 []).k = 4 := V.k_of _ _ _ _ _ _ _
  refine (unpack_gen 22 _ [.of 4 7 ⟨#[]⟩ a5 c5 0 [], leaf 1 0 ⟨#[]⟩, leaf 0 0 ⟨#[]⟩] 3 rfl (by decide) w (fun x hx => ?_) (fun W hW => ?_) (fun W hW => ?_)).mono ?_
  · simp only [List.mem_cons, List.not_mem_nil, or_false] at hx
    rcases hx with rfl | rfl | rfl
    · exact hl4
    · exact leaf_lies _ _ _ _ _ (by decide) (by decide) (by decide)
    · exact leaf_lies _ _ _ _ _ (by decide) (by decide) (by decide)
  · have := check_any _ w.heap.size W hW.size (hl.keep hW (Nat.le_refl _)) (hT W hW)
    rw [check22] at this
    exact this
  · refine unpacked_gen 22 0 ⟨#[]⟩ a2 c2 0 _ 0 ⟨#[]⟩ lb lo c3 0 [.of 4 7 ⟨#[]⟩ a5 c5 0 []] _ m22 3 w.heap.size rfl rfl (by simp) (by decide) (by decide) W hW.size (hl.keep hW (Nat.le_refl _)) ⟨hlb, hlr.below hW hlb⟩ (by rw [leafa_t]; exact kind22) (fun W' _ => fields_like22 W') ?_
    intro i h2 h3 F hF W' hW'
    have h3' : i < 3 := h2
    obtain rfl | rfl | rfl : i = 0 ∨ i = 1 ∨ i = 2 := by omega
    · have ht : F.ty = 4 := congrArg Prod.fst hF
      exact filled_flat F (.of 4 7 ⟨#[]⟩ a5 c5 0 []) (by rw [hk4, ht]) (by rw [hk4]; decide) (by rw [ht]; decide) (by rw [ht]; decide) (by rw [ht]; decide) W'
    · have hm : F.must = false := congrArg (fun p => p.2.1) hF
      have hd : F.d = leaf 1 0 ⟨#[]⟩ := congrArg (fun p => p.2.2) hF
      have := filled_null F (leaf 0 0 ⟨#[]⟩) rfl hm W'
      rw [hd] at this
      exact this
    · have hm : F.must = false := congrArg (fun p => p.2.1) hF
      have hd : F.d = leaf 0 0 ⟨#[]⟩ := congrArg (fun p => p.2.2) hF
      have := filled_null F (leaf 0 0 ⟨#[]⟩) rfl hm W'
      rw [hd] at this
      exact this
  · rintro e w' ⟨z, h1, h2, h3⟩
    refine ⟨z, h1, ⟨?_, h2.out.2⟩, h3⟩
    rw [h2.out.1]
    simp only [l22, V.ts, leafa_t]
set_option maxRecDepth 100000 in
set_option maxHeartbeats 2000000 in
theorem sameRecord_any (k : Int) (l m : List V) (a a' : Option Addr) (c c' n₀ : Nat) (w : World) (hn : n₀ ≤ w.heap.size) (hx : Lies n₀ w (.of 0 0 ⟨#[]⟩ a c 0 l)) (hy : Lies n₀ w (.of 0 0 ⟨#[]⟩ a' c' 0 m)) (he : eqsT (V.ts l) (V.ts m) = true) :
    Calls Tryz.prog 28 #[.agg #[.int .i64 k, .slice a l.length c], .agg #[.int .i64 k, .slice a' m.length c']] w fun e w' => e = .returned (.bool true) ∧ Below w.heap.size w w' := by
  obtain ⟨W0, hW0⟩ : ∃ W0, (w.alloc (Obj.cells #[.int .i64 k, .slice a l.length c] 33)).alloc (Obj.cells #[.int .i64 k, .slice a' m.length c'] 33) = W0 := ⟨_, rfl⟩
  have hs0 : W0.heap.size = w.heap.size + 2 := by rw [← hW0]; simp
  have hb0 : Below w.heap.size w W0 := by rw [← hW0]; exact bel2 (Below.refl _ _) (Nat.le_refl _) _ _
  have xa : BoxR W0 w.heap.size k a l.length c := by rw [← hW0]; exact heap_past (World.alloc_heap_new _ _) _
  have xb : BoxR W0 (w.heap.size + 1) k a' m.length c' := by rw [← hW0]; exact heap_at1 _ _ _
  have h := equalAll_any l m a a' c c' n₀ W0 (by omega) (hx.keep hb0 hn) (hy.keep hb0 hn)
  rw [he] at h
  have HH := hide h
  have HW0 := hide hW0
  clear h hx hy hW0 he
  go_enter Tryz.func28, Tryz.ntmps28
  go_wp2_with fail
  rw [HW0.out]
  refine HH.out.mono ?_
  rintro e w1 ⟨rfl, hb⟩
  have hs := hb.size
  obtain ⟨a0, a1⟩ := (xa.below hb (by omega)).cells
  obtain ⟨b0, b1⟩ := (xb.below hb (by omega)).cells
  have hz1 : w.heap.size < w1.heap.size := by omega
  have hz2 : w.heap.size + 1 < w1.heap.size := by omega
  go_wp2
  go_ret
  exact ⟨by simp, belOn hb0 (by omega) hb⟩
theorem same22 : eqsT (V.ts l22) (V.ts l22) = true := by
  have e0 : eqT l22[0].t l22[0].t = true := by
    show eqT (leaf 4 7 ⟨#[]⟩).t (leaf 4 7 ⟨#[]⟩).t = true
    rw [eqT_leaf]; simp
  have e1 : eqT l22[1].t l22[1].t = true := by
    show eqT (leaf 1 0 ⟨#[]⟩).t (leaf 1 0 ⟨#[]⟩).t = true
    rw [eqT_leaf]; simp
  have e2 : eqT l22[2].t l22[2].t = true := by
    show eqT (leaf 0 0 ⟨#[]⟩).t (leaf 0 0 ⟨#[]⟩).t = true
    rw [eqT_leaf]; simp
  have h3 : eqsT (V.ts (l22.drop 3)) (V.ts (l22.drop 3)) = true := rfl
  have h2 : eqsT (V.ts (l22.drop 2)) (V.ts (l22.drop 2)) = true := by rw [eqsT_step (by decide) (by decide), h3, e2]; rfl
  have h1 : eqsT (V.ts (l22.drop 1)) (V.ts (l22.drop 1)) = true := by rw [eqsT_step (by decide) (by decide), h2, e1]; rfl
  have h0 : eqsT (V.ts (l22.drop 0)) (V.ts (l22.drop 0)) = true := by rw [eqsT_step (by decide) (by decide), h1, e0]; rfl
  exact h0
theorem row22 (w : World) (t : TypeId) : Row (w.alloc (.cells #[.int .i64 4, .int .u64 7, .string ⟨#[]⟩, .slice none 0 0, .int .i64 0, .int .i64 1, .int .u64 0, .string ⟨#[]⟩, .slice none 0 0, .int .i64 0, .int .i64 0, .int .u64 0, .string ⟨#[]⟩, .slice none 0 0, .int .i64 0] t)) w.heap.size 0 l22 := by
  intro i hi
  have h3 : i < 3 := hi
  unfold World.cell?
  simp only [World.alloc_heap_new]
  obtain rfl | rfl | rfl : i = 0 ∨ i = 1 ∨ i = 2 := by omega
  all_goals exact ⟨rfl, rfl, rfl, rfl, rfl⟩
set_option maxRecDepth 100000 in
set_option maxHeartbeats 4000000 in
theorem live_any (w : World) (hT : Lib.Utf8Tabs 0 1 w) : Calls Tryz.prog 7 #[] w fun e w' => e = .returned (.bool true) ∧ Below w.heap.size w w' := by
  have HT : Hid (∀ W, Below w.heap.size w W → Lib.Utf8Tabs 0 1 W) := fun W h => tabs_below hT h
  have HF := hide (fields22_any w)
  clear hT
  go_enter Tryz.func7, Tryz.ntmps7
  go_wp2_with fail
  refine HF.out.mono ?_
  rintro e1 w1 ⟨ko, b, rfl, hb1, _, _, _⟩
  have HN := hide (name16_any w1)
  go_wp2_with fail
  refine HN.out.mono ?_
  rintro e2 w2 ⟨rfl, hb2⟩
  have hbw2 : Below w.heap.size w w2 := belOn hb1 hb1.size hb2
  have hs2 := hbw2.size
  obtain ⟨WA, hWA⟩ : ∃ WA, w2.alloc (.cells #[.int .i64 4, .int .u64 7, .string ⟨#[]⟩, .slice none 0 0, .int .i64 0, .int .i64 1, .int .u64 0, .string ⟨#[]⟩, .slice none 0 0, .int .i64 0, .int .i64 0, .int .u64 0, .string ⟨#[]⟩, .slice none 0 0, .int .i64 0] 42) = WA := ⟨_, rfl⟩
  obtain ⟨W3, hW3⟩ : ∃ W3, WA.alloc (Obj.cells #[.int .i64 22, .slice (some ⟨w2.heap.size, 0, none⟩) 3 3] 33) = W3 := ⟨_, rfl⟩
  have hsA : WA.heap.size = w2.heap.size + 1 := by rw [← hWA]; simp
  have hs3 : W3.heap.size = w2.heap.size + 2 := by rw [← hW3]; simp; omega
  have hbA : Below w2.heap.size w2 WA := by rw [← hWA]; exact bel1 (Below.refl _ _) (Nat.le_refl _) _
  have hbA3 : Below WA.heap.size WA W3 := by rw [← hW3]; exact bel1 (Below.refl _ _) (Nat.le_refl _) _
  have hb23 : Below w2.heap.size w2 W3 := hbA.trans (hbA3.mono (by omega))
  have hbw3 : Below w.heap.size w W3 := belOn hbw2 hs2 hb23
  have hrA : Row WA w2.heap.size 0 l22 := by rw [← hWA]; exact row22 _ _
  have hr3 : Row W3 w2.heap.size 0 l22 := hrA.below hbA3 (by omega)
  have hx3 : BoxR W3 (w2.heap.size + 1) 22 (some ⟨w2.heap.size, 0, none⟩) 3 3 := by rw [← hW3, ← hsA]; exact World.alloc_heap_new _ _
  have HP := hide (pack22 w2.heap.size W3 (by omega) hr3 (fun W h => HT.out W (belOn hbw3 hbw3.size h)))
  unfold VN at HP
  have HR := hide hr3
  have HWA := hide hWA
  have HW3 := hide hW3
  clear hWA hW3 hrA hr3
  go_wp2_with fail
  rw [HWA.out, HW3.out]
  refine HP.out.mono ?_
  rintro e3 w3 ⟨y, rfl, HY, hb3⟩
  have hsz3 := hb3.size
  have hbw4 : Below w.heap.size w w3 := belOn hbw3 hbw3.size hb3
  obtain ⟨W4, hW4⟩ : ∃ W4, w3.alloc (Obj.cells #[.int .i64 y.k, .int .u64 y.n, .string y.s, .slice y.a y.l.length y.c, .int .i64 y.e] 42) = W4 := ⟨_, rfl⟩
  have hs4 : W4.heap.size = w3.heap.size + 1 := by rw [← hW4]; simp
  have hb34 : Below w3.heap.size w3 W4 := by rw [← hW4]; exact bel1 (Below.refl _ _) (Nat.le_refl _) _
  have hbw5 : Below w.heap.size w W4 := belOn hbw4 hbw4.size hb34
  obtain ⟨⟨v, hv, hyt⟩, hyl⟩ := HY.out
  have hU := unpack22 hv hyt W4 ((hyl.keep hb34 (Nat.le_refl _)).mono (by omega)) (fun W h => HT.out W (belOn hbw5 hbw5.size h))
  rw [V.val_eq] at hU
  have HU := hide hU
  have HW4 := hide hW4
  clear hU hW4
  go_wp2_with fail
  rw [HW4.out]
  refine HU.out.mono ?_
  rintro e5 w5 ⟨z, rfl, HZ, hb5⟩
  have hsz5 := hb5.size
  have hb35 : Below W3.heap.size W3 w5 := (hb3.trans (hb34.mono (by omega))).trans (hb5.mono (by omega))
  have hbw6 : Below w.heap.size w w5 := belOn hbw5 hbw5.size hb5
  obtain ⟨W6, hW6⟩ : ∃ W6, w5.alloc (Obj.cells #[.int .i64 22, .slice z.a z.l.length z.c] 33) = W6 := ⟨_, rfl⟩
  have hs6 : W6.heap.size = w5.heap.size + 1 := by rw [← hW6]; simp
  have hb56 : Below w5.heap.size w5 W6 := by rw [← hW6]; exact bel1 (Below.refl _ _) (Nat.le_refl _) _
  have hx6 : BoxR W6 w5.heap.size 22 z.a z.l.length z.c := by rw [← hW6]; exact World.alloc_heap_new _ _
  have hb36 : Below W3.heap.size W3 W6 := belOn hb35 hb35.size hb56
  have hbw7 : Below w.heap.size w W6 := belOn hbw6 hbw6.size hb56
  obtain ⟨r0, r1⟩ := (hx3.below hb35 (by omega)).cells
  have hlx : Lies W6.heap.size W6 (.of 0 0 ⟨#[]⟩ (some ⟨w2.heap.size, 0, none⟩) 3 0 l22) := .mk ⟨by decide, by decide, by decide, by decide, by decide, by decide⟩ (fun _ => ⟨w2.heap.size, 0, rfl, by omega, HR.out.below hb36 (by omega)⟩) (fun x hx => by
    simp only [l22, List.mem_cons, List.not_mem_nil, or_false] at hx
    rcases hx with rfl | rfl | rfl <;> exact leaf_lies _ _ _ _ _ (by decide) (by decide) (by decide))
  have hzz : Lies W6.heap.size W6 z := LiesIn.keep HZ.out.2 (fun b' hq o => hb56.cell (p := ⟨b', o, none⟩) hq.2) (fun b' hq => by have h2 : b' < w5.heap.size := hq.2; omega)
  have hlz : Lies W6.heap.size W6 (.of 0 0 ⟨#[]⟩ z.a z.c 0 z.l) := by
    obtain ⟨zk, zn, zs, za, zc, ze, zl, rfl⟩ := V.ex z
    rw [V.a_of, V.c_of, V.l_of]
    exact .mk ⟨by decide, by decide, by decide, by decide, hzz.ok.l, hzz.ok.c⟩ hzz.row hzz.sub
  have hS := sameRecord_any 22 l22 z.l (some ⟨w2.heap.size, 0, none⟩) z.a 3 z.c W6.heap.size W6 (Nat.le_refl _) hlx hlz (by rw [HZ.out.1]; exact same22)
  have HS : Hid (Calls Tryz.prog 28 #[.agg #[.int .i64 22, .slice (some ⟨w2.heap.size, 0, none⟩) 3 3], .agg #[.int .i64 22, .slice z.a z.l.length z.c]] W6 fun e w' => e = .returned (.bool true) ∧ Below W6.heap.size W6 w') := hS
  have HW6 := hide hW6
  have hz1 : w2.heap.size + 1 < w5.heap.size := by omega
  clear hS hW6 hlx hlz hzz hx6
  go_wp2_with fail
  rw [HW6.out]
  refine HS.out.mono ?_
  rintro e7 w7 ⟨rfl, hb7⟩
  go_wp2
  go_ret
  exact ⟨by simp, belOn hbw7 hbw7.size hb7⟩
theorem lies_bare {n₀ : Nat} {w : World} {x : V} (h : Lies n₀ w x) : Lies n₀ w (V.of 0 0 ⟨#[]⟩ x.a x.c 0 x.l) := by
  obtain ⟨k, n, s, a, c, e, l, rfl⟩ := V.ex x
  rw [V.a_of, V.c_of, V.l_of]
  have ho := h.ok
  exact .mk ⟨by decide, by decide, by decide, by decide, ho.l, ho.c⟩ (fun h0 => h.row h0) (fun x hx => h.sub x hx)
theorem laidT_t (k : Int) (l : List T) (h : ∀ t ∈ l, t.t = t) : (laidT k l).t = laidT k l := by
  have hl : V.ts l = l := by
    rw [V.ts_map]
    conv => rhs; rw [← List.map_id l]
    exact List.map_congr_left fun x hx => h x hx
  have hd : V.ts (dsOf k) = dsOf k := ds_ts _
  unfold laidT
  show (V.of 24 0 ⟨#[]⟩ none 0 0 [leaf 5 k ⟨#[]⟩, V.of 21 0 ⟨#[]⟩ none 0 0 ((outs l (dsOf k)).take (saidN l (dsOf k) l.length))]).t = _
  rw [V.t_of]
  show T.of 24 0 ⟨#[]⟩ 0 [(leaf 5 k ⟨#[]⟩).t, (V.of 21 0 ⟨#[]⟩ none 0 0 ((outs l (dsOf k)).take (saidN l (dsOf k) l.length))).t] = _
  rw [leaf_t, V.t_of, V.ts_map, List.map_take, ← V.ts_map, outs_ts, hl, hd]
theorem sub_tree {x y : T} (hx : x.t = x) (h : y ∈ x.l) : y.t = y := by
  have h1 : V.ts x.l = x.l := by rw [← l_t, hx]
  rw [← h1, V.ts_map] at h
  obtain ⟨z, _, rfl⟩ := List.mem_map.1 h
  exact t_t z
def isRow (x : T) (r : Int × ByteArray × Value) : Bool := eqT x (leaf 5 r.1 ⟨#[]⟩).t || eqT x (leaf 20 0 r.2.1).t
theorem kindL_some {x : T} {l : List (Int × ByteArray × Value)} {k : Int} (h : kindL x l = some k) : ∃ r ∈ l, r.1 = k ∧ isRow x r = true := by
  induction l with
  | nil => cases h
  | cons r l ih =>
    rw [kindL] at h
    split at h
    · exact ⟨r, List.mem_cons_self, Option.some.inj h, by assumption⟩
    · obtain ⟨r', h1, h2⟩ := ih h
      exact ⟨r', List.mem_cons_of_mem _ h1, h2⟩
theorem kindL_none {x : T} {l : List (Int × ByteArray × Value)} (h : kindL x l = none) : ∀ r ∈ l, isRow x r = false := by
  induction l with
  | nil => intro r hr; cases hr
  | cons r l ih =>
    rw [kindL] at h
    split at h
    · cases h
    · rename_i hn
      intro r' hr'
      rcases List.mem_cons.1 hr' with rfl | hr'
      · exact Bool.eq_false_iff.2 hn
      · exact ih h r' hr'
theorem eqT_leaf_of {x : V} {k n : Int} {s : ByteArray} (h : eqT x.t (leaf k n s).t = true) : x.k = k ∧ x.n = n ∧ x.s.toList = s.toList := by
  obtain ⟨k', n', s', a, c, e, l, rfl⟩ := V.ex x
  unfold leaf at h
  rw [eqT_of] at h
  simp only [Bool.and_eq_true, decide_eq_true_eq] at h
  rw [V.k_of, V.n_of, V.s_of]
  exact ⟨h.1.1.1.1, h.1.1.1.2, h.1.1.2⟩
theorem rows_apart {x : V} {r r' : Int × ByteArray × Value} (hr : isRow x.t r = true) (hr' : isRow x.t r' = true) : r.1 = r'.1 ∨ r.2.1.toList = r'.2.1.toList := by
  unfold isRow at hr hr'
  rw [Bool.or_eq_true] at hr hr'
  rcases hr with h | h <;> rcases hr' with h' | h'
  · exact .inl ((eqT_leaf_of h).2.1.symm.trans (eqT_leaf_of h').2.1)
  · have := (eqT_leaf_of h).1.symm.trans (eqT_leaf_of h').1
    exact absurd this (by decide)
  · have := (eqT_leaf_of h).1.symm.trans (eqT_leaf_of h').1
    exact absurd this (by decide)
  · exact .inr ((eqT_leaf_of h).2.2.symm.trans (eqT_leaf_of h').2.2)
set_option maxRecDepth 100000 in
theorem names_apart : (krows.map fun r => (r.1, r.2.1.toList)).all (fun p => (krows.map fun r => (r.1, r.2.1.toList)).all fun q => decide (p.2 = q.2 → p.1 = q.1)) = true := by kernel_rfl
theorem row_once {x : V} {r r' : Int × ByteArray × Value} (h : r ∈ krows) (h' : r' ∈ krows) (hr : isRow x.t r = true) (hr' : isRow x.t r' = true) : r.1 = r'.1 := by
  rcases rows_apart hr hr' with e | e
  · exact e
  · have h1 := List.all_eq_true.1 (List.all_eq_true.1 names_apart (r.1, r.2.1.toList) (List.mem_map.2 ⟨r, h, rfl⟩)) (r'.1, r'.2.1.toList) (List.mem_map.2 ⟨r', h', rfl⟩)
    exact of_decide_eq_true h1 e
theorem lexz {a b : Int} : lex a b = 0 ↔ a = 0 ∧ b = 0 := by unfold lex; split <;> simp_all
theorem cmpZz {a b : Int} : cmpZ a b = 0 ↔ a = b := by unfold cmpZ; split <;> (try split) <;> omega
theorem bytes_eq {s s' : ByteArray} (h : s.toList = s'.toList) : s = s' := by
  rw [ByteArray.toList_eq, ByteArray.toList_eq] at h
  cases s
  cases s'
  simp only at h
  rw [Array.toList_inj.1 h]
theorem ords_z {l m : List T} (ih : ∀ x ∈ l, ∀ y, T.ord x y = 0 → y.t = y → x = y) (hm : ∀ y ∈ m, y.t = y) (h : T.ords l m = 0) : l = m := by
  induction l generalizing m with
  | nil => cases m with
    | nil => rfl
    | cons y m => simp [T.ords] at h
  | cons x l ihl => cases m with
    | nil => simp [T.ords] at h
    | cons y m =>
      rw [T.ords, lexz] at h
      rw [ih x (by simp) y h.1 (hm y (by simp)), ihl (fun z hz => ih z (by simp [hz])) (fun z hz => hm z (by simp [hz])) h.2]
theorem ts_tree {l : List V} {y : T} (h : y ∈ V.ts l) : y.t = y := by
  rw [V.ts_map] at h
  obtain ⟨z, _, rfl⟩ := List.mem_map.1 h
  exact t_t z
theorem ord_z : ∀ v : V, ∀ w : V, T.ord v.t w.t = 0 → v.t = w.t := by
  refine V.ind ?_
  intro k n s a c e l ih w h
  obtain ⟨k', n', s', a', c', e', l', rfl⟩ := V.ex w
  rw [V.t_of, V.t_of, T.of, T.of, T.ord_of, V.l_of] at h
  simp only [lexz, cmpZz, cmpB_zero, V.k_of, V.n_of, V.s_of, V.e_of] at h
  obtain ⟨h1, h2, h3, h4, h5⟩ := h
  rw [V.t_of, V.t_of, h1, h2, bytes_eq h3, h5]
  have : V.ts l = V.ts l' := by
    refine ords_z (fun x hx y hxy hy => ?_) (fun y hy => ts_tree hy) h4
    rw [V.ts_map] at hx
    obtain ⟨z, hz, rfl⟩ := List.mem_map.1 hx
    rw [← hy] at hxy ⊢
    exact ih z hz y hxy
  rw [this]
theorem eqT_yes {v w : V} (h : eqT v.t w.t = true) : v.t = w.t := ord_z v w (by unfold eqT at h; exact of_decide_eq_true h)
def Nd : V → Prop := V.para (fun p bs => faultT 1 (V.mk' p (bs.map Prod.fst)).t = 0 ∧ ∀ b ∈ bs, b.2) True
theorem nd_of (k n : Int) (s : ByteArray) (a : Option Addr) (c : Nat) (e : Int) (l : List V) : Nd (V.of k n s a c e l) ↔ faultT 1 (V.of k n s a c e l).t = 0 ∧ ∀ x ∈ l, Nd x := by
  unfold Nd
  rw [V.para_of, List.map_map]
  have h1 : (Prod.fst ∘ fun x => (x, V.para (fun p bs => faultT 1 (V.mk' p (bs.map Prod.fst)).t = 0 ∧ ∀ b ∈ bs, b.2) True x)) = (id : V → V) := rfl
  rw [h1, List.map_id]
  constructor
  · rintro ⟨h2, h3⟩
    exact ⟨h2, fun x hx => h3 (x, _) (List.mem_map.2 ⟨x, hx, rfl⟩)⟩
  · rintro ⟨h2, h3⟩
    refine ⟨h2, fun b hb => ?_⟩
    obtain ⟨x, hx, rfl⟩ := List.mem_map.1 hb
    exact h3 x hx
theorem faultT_d (d : Int) (x : T) : faultT d x = 0 ↔ d ≤ 32 ∧ faultT 1 x = 0 := by
  unfold faultT faultB
  by_cases hk : x.k < 0 ∨ 24 < x.k
  · rw [if_pos hk, if_pos hk]
    constructor
    · intro h; exact absurd h (by decide)
    · rintro ⟨_, h⟩; exact absurd h (by decide)
  rw [if_neg hk, if_neg hk]
  by_cases hd : 32 < d
  · rw [if_pos hd]
    constructor
    · intro h; exact absurd h (by decide)
    · rintro ⟨h, _⟩; omega
  rw [if_neg hd, if_neg (show ¬ (32 : Int) < 1 by decide)]
  constructor
  · intro h; exact ⟨by omega, h⟩
  · rintro ⟨_, h⟩; exact h
theorem chk_at (v : V) : ∀ d : Int, 1 ≤ d → d ≤ 33 → ((∀ p ∈ v.all d, checkZ p = 0) ↔ Nd v ∧ d + T.dp v ≤ 33) := by
  refine V.ind (Q := fun v => ∀ d : Int, 1 ≤ d → d ≤ 33 → ((∀ p ∈ v.all d, checkZ p = 0) ↔ Nd v ∧ d + T.dp v ≤ 33)) ?_ v
  intro k n s a c e l ih d h1 h2
  rw [V.all_of, dp_of, nd_of, wrap_low (by omega) (by omega)]
  constructor
  · intro h
    have h3 := h _ List.mem_cons_self
    unfold checkZ at h3
    rw [faultT_d] at h3
    have h4 : ∀ x ∈ l, Nd x ∧ (d + 1) + T.dp x ≤ 33 := fun x hx => (ih x hx (d + 1) (by omega) (by have := h3.1; simp only at this; omega)).1 (fun p hp => h p (List.mem_cons_of_mem _ (alls_mem.2 ⟨x, hx, hp⟩)))
    refine ⟨⟨h3.2, fun x hx => (h4 x hx).1⟩, ?_⟩
    have h5 : mxn (l.map T.dp) ≤ (32 - d).toNat := mxn_le (fun y hy => by
      obtain ⟨x, hx, rfl⟩ := List.mem_map.1 hy
      have := (h4 x hx).2
      omega)
    have := h3.1
    simp only at this
    omega
  · rintro ⟨⟨h3, h4⟩, h5⟩ p hp
    rcases List.mem_cons.1 hp with rfl | hp
    · show faultT d _ = 0
      rw [faultT_d]
      exact ⟨by omega, h3⟩
    · obtain ⟨x, hx, hpx⟩ := alls_mem.1 hp
      have h6 := mxn_mem (List.mem_map.2 ⟨x, hx, rfl⟩ : T.dp x ∈ l.map T.dp)
      exact (ih x hx (d + 1) (by omega) (by omega)).2 ⟨h4 x hx, by omega⟩ p hpx
theorem chk_iff (v : V) : chkE v = 0 ↔ Nd v ∧ T.dp v ≤ 32 := by
  have h := chk_at v 1 (by omega) (by omega)
  constructor
  · intro h0
    have := h.1 (firstE_zero h0)
    exact ⟨this.1, by have := this.2; omega⟩
  · rintro ⟨h1, h2⟩
    exact firstE_none _ _ (h.2 ⟨h1, by omega⟩)
theorem nd_t (v : V) : Nd v.t ↔ Nd v := by
  refine V.ind (Q := fun v => Nd v.t ↔ Nd v) ?_ v
  intro k n s a c e l ih
  rw [V.t_of]
  show Nd (V.of k n s none 0 e (V.ts l)) ↔ _
  have ht : (V.of k n s none 0 e (V.ts l)).t = (V.of k n s a c e l).t := by rw [V.t_of, V.t_of, ts_ts]
  rw [nd_of, nd_of, ht]
  constructor
  · rintro ⟨h1, h2⟩
    exact ⟨h1, fun x hx => (ih x hx).1 (h2 x.t (by rw [V.ts_map]; exact List.mem_map.2 ⟨x, hx, rfl⟩))⟩
  · rintro ⟨h1, h2⟩
    refine ⟨h1, fun x hx => ?_⟩
    rw [V.ts_map] at hx
    obtain ⟨z, hz, rfl⟩ := List.mem_map.1 hx
    exact (ih z hz).2 (h2 z hz)
def rk (k : Int) : Nat := if k = 18 ∨ k = 20 ∨ k = 21 then 3 else if k = 40 ∨ k = 52 then 2 else if k = 22 ∨ k = 23 ∨ k = 24 ∨ k = 37 then 1 else 0
def okR (k : Int) (f : FS) : Bool := (decide (f.dk = 0) || (decide (f.dk = f.ty) && decide (f.ty < 100))) && (!f.must || decide (f.dk = 0)) && decide (faultT 1 f.d = 0) && (decide (f.ty ≠ 102) || f.ks.all fun k' => decide (rk k' < rk k)) && decide (f.dk = 0 → f.dn = 0 ∧ f.ds.toList = [])
set_option maxRecDepth 100000 in
theorem ftab_rk : ftabL.all (fun p => (p.2.getD []).all (okR p.1)) = true := by kernel_rfl
theorem ftab_r {k : Int} {fs : List FS} (h : ftab k = some fs) : ∀ f ∈ fs, okR k f = true := by
  unfold ftab at h
  cases hf : ftabL.find? (fun p => p.1 == k) with
  | none => rw [hf] at h; cases h
  | some p =>
    have hk : p.1 = k := by simpa using List.find?_some hf
    rw [hf] at h
    have h1 := List.all_eq_true.1 ftab_rk p (List.mem_of_find?_eq_some hf)
    have h2 : p.2 = some fs := h
    rw [h2, hk] at h1
    exact fun f hf => List.all_eq_true.1 h1 f hf
theorem ftab_mem {k : Int} {fs : List FS} (h : ftab k = some fs) : ∃ r ∈ krows, r.1 = k := by
  unfold ftab at h
  cases hf : ftabL.find? (fun p => p.1 == k) with
  | none => rw [hf] at h; cases h
  | some p =>
    have hk : p.1 = k := by simpa using List.find?_some hf
    have h1 : p.1 ∈ ftabL.map (fun p => p.1) := List.mem_map.2 ⟨p, List.mem_of_find?_eq_some hf, rfl⟩
    rw [← ftab_rows] at h1
    obtain ⟨r, hr, e⟩ := List.mem_map.1 h1
    exact ⟨r, hr, e.trans hk⟩
theorem kind_num {k : Int} {fs : List FS} (h : ftab k = some fs) : kindL (leaf 5 k ⟨#[]⟩) krows = some k := by
  obtain ⟨r, hr, rfl⟩ := ftab_mem h
  have hrow : isRow (leaf 5 r.1 ⟨#[]⟩).t r = true := by
    unfold isRow
    rw [eqT_refl]
    rfl
  have hlt := leaf_t 5 r.1 ⟨#[]⟩
  cases hkk : kindL (leaf 5 r.1 ⟨#[]⟩) krows with
  | none =>
    have := kindL_none hkk r hr
    rw [← hlt] at this
    rw [hrow] at this
    cases this
  | some k' =>
    obtain ⟨r', h1, h2, h3⟩ := kindL_some hkk
    rw [← hlt] at h3
    rw [← h2, ← row_once hr h1 hrow h3]
theorem fill_ways {re : T → T × Int} {s : FS} {x t : T} (h : fillT re s x = (t, 0)) : (x.k = 0 ∧ s.must = false ∧ t = s.d) ∨ (x.k ≠ 0 ∧ t = x ∧ (∀ re', fillT re' s x = (x, 0)) ∧ ¬ (s.ty = 101 ∧ x.k = 20)) ∨ (s.ty = 101 ∧ x.k = 20 ∧ t = T.of 23 0 ⟨#[]⟩ 20 [x]) ∨ (s.ty = 102 ∧ x.k ≠ 0 ∧ ∃ k, kindV x.k x.l = some k ∧ k ∈ s.ks ∧ re x = (t, 0)) := by
  unfold fillT at h
  by_cases h0 : x.k = 0
  · rw [if_pos h0] at h
    cases hm : s.must
    · rw [hm, if_neg (by simp)] at h
      exact .inl ⟨h0, rfl, (Prod.mk.inj h).1.symm⟩
    · rw [hm, if_pos rfl] at h
      exact absurd (Prod.mk.inj h).2 (by decide)
  rw [if_neg h0] at h
  by_cases h1 : s.ty = 100
  · rw [if_pos h1] at h
    refine .inr (.inl ⟨h0, (Prod.mk.inj h).1.symm, fun re' => ?_, fun hh => by omega⟩)
    unfold fillT
    rw [if_neg h0, if_pos h1]
  rw [if_neg h1] at h
  by_cases h2 : s.ty = 101
  · rw [if_pos h2] at h
    by_cases h3 : x.k = 20
    · rw [if_pos h3] at h
      exact .inr (.inr (.inl ⟨h2, h3, (Prod.mk.inj h).1.symm⟩))
    · rw [if_neg h3] at h
      by_cases h4 : x.k = 23 ∧ x.e = 20
      · rw [if_pos h4] at h
        refine .inr (.inl ⟨h0, (Prod.mk.inj h).1.symm, fun re' => ?_, fun hh => h3 hh.2⟩)
        unfold fillT
        rw [if_neg h0, if_neg h1, if_pos h2, if_neg h3, if_pos h4]
      · rw [if_neg h4] at h
        exact absurd (Prod.mk.inj h).2 (by decide)
  rw [if_neg h2] at h
  by_cases h3 : s.ty = 102
  · rw [if_pos h3] at h
    cases hk : kindV x.k x.l with
    | none =>
      simp only [hk] at h
      exact absurd (Prod.mk.inj h).2 (by decide)
    | some k =>
      simp only [hk] at h
      by_cases h4 : s.ks.contains k = true
      · rw [if_pos h4] at h
        exact .inr (.inr (.inr ⟨h3, h0, k, rfl, List.contains_iff_mem.1 h4, h⟩))
      · rw [if_neg h4] at h
        exact absurd (Prod.mk.inj h).2 (by decide)
  rw [if_neg h3] at h
  by_cases h4 : x.k = s.ty
  · rw [if_pos h4] at h
    refine .inr (.inl ⟨h0, (Prod.mk.inj h).1.symm, fun re' => ?_, fun hh => h2 hh.1⟩)
    unfold fillT
    rw [if_neg h0, if_neg h1, if_neg h2, if_neg h3, if_pos h4]
  · rw [if_neg h4] at h
    exact absurd (Prod.mk.inj h).2 (by decide)
theorem okR_out {k : Int} {f : FS} (h : okR k f = true) : (f.dk = 0 ∨ (f.dk = f.ty ∧ f.ty < 100)) ∧ (f.must = true → f.dk = 0) ∧ faultT 1 f.d = 0 ∧ (f.ty = 102 → ∀ k' ∈ f.ks, rk k' < rk k) ∧ (f.dk = 0 → f.dn = 0 ∧ f.ds.toList = []) := by
  unfold okR at h
  simp only [Bool.and_eq_true, Bool.or_eq_true, decide_eq_true_eq, Bool.not_eq_true', List.all_eq_true] at h
  obtain ⟨⟨⟨⟨h1, h2⟩, h3⟩, h4⟩, h5⟩ := h
  refine ⟨h1, fun hm => ?_, h3, fun ht k' hk' => ?_, h5⟩
  · rcases h2 with h2 | h2
    · rw [hm] at h2; cases h2
    · exact h2
  · rcases h4 with h4 | h4
    · exact absurd ht h4
    · exact h4 k' hk'
theorem fill_dflt (re : T → T × Int) {k : Int} {f : FS} (h : okR k f = true) (hm : f.must = false) : fillT re f f.d = (f.d, 0) := by
  obtain ⟨h1, _, _, _, _⟩ := okR_out h
  have hk : f.d.k = f.dk := rfl
  unfold fillT
  rw [hk]
  by_cases h0 : f.dk = 0
  · rw [if_pos h0, hm, if_neg (by simp)]
  · rw [if_neg h0]
    rcases h1 with h1 | ⟨h1, h2⟩
    · exact absurd h1 h0
    · rw [if_neg (by omega), if_neg (by omega), if_neg (by omega), if_pos h1]
theorem fill_nul (re : T → T × Int) {f : FS} (hm : f.must = false) : fillT re f nul = (f.d, 0) := by
  unfold fillT
  rw [if_pos (show V.k nul = 0 from rfl), hm, if_neg (by simp)]
theorem nd_leaf {k n : Int} {s : ByteArray} (h : faultT 1 (leaf k n s) = 0) : Nd (leaf k n s) := by
  unfold leaf at h ⊢
  rw [nd_of]
  refine ⟨?_, fun x hx => by cases hx⟩
  have := leaf_t k n s
  unfold leaf at this
  rw [this]
  exact h
theorem saidN_ge (l ds : List V) (h : ds.length = l.length) : ∀ n, n ≤ l.length → ∀ i (hi : i < l.length), saidN l ds n ≤ i → i < n → eqT l[i].t (ds[i]'(by omega)).t = true := by
  intro n
  induction n with
  | zero => intro _ i _ _ h0; omega
  | succ n ih =>
    intro hn i hi h1 h2
    have hs := saidN_step l ds n (by omega) (by omega)
    by_cases he : eqT l[n].t (ds[n]'(by omega)).t = true
    · rw [if_pos he] at hs
      by_cases hin : i = n
      · subst hin; exact he
      · exact ih (by omega) i hi (by omega) (by omega)
    · rw [if_neg he] at hs
      omega
theorem unp_laid {re : T → T × Int} {k : Int} {fs : List FS} {ts : List T} (hf : ftab k = some fs) (hl : ts.length = fs.length) (htt : ∀ t ∈ ts, t.t = t)
    (hfill : ∀ i (h1 : i < ts.length) (h2 : i < fs.length), fillT re fs[i] ts[i] = (ts[i], 0)) (hmust : ∀ i (h1 : i < ts.length) (h2 : i < fs.length), fs[i].must = true → ts[i].k ≠ 0) :
    unpT re (laidT k ts) = ((k, ts), 0, 0) := by
  have hds : dsOf k = fs.map FS.d := by unfold dsOf; rw [hf]; rfl
  have hdl : (fs.map FS.d).length = ts.length := by rw [List.length_map, hl]
  have hol := outs_len ts (fs.map FS.d) hdl
  have hsn := saidN_le ts (fs.map FS.d) ts.length
  have hok := ftab_r hf
  have hk : kindV (laidT k ts).k (laidT k ts).l = some k := by
    unfold laidT
    show kindV 24 (V.l (V.of 24 0 ⟨#[]⟩ none 0 0 _)) = _
    rw [V.l_of, kindV_two, leaf_t]
    exact kind_num hf
  have hy : (((laidT k ts).l)[1]?).getD nul = T.of 21 0 ⟨#[]⟩ 0 ((outs ts (dsOf k)).take (saidN ts (dsOf k) ts.length)) := by
    unfold laidT
    show (((V.l (V.of 24 0 ⟨#[]⟩ none 0 0 _)))[1]?).getD nul = _
    rw [V.l_of]
    rfl
  unfold unpT
  rw [hk]
  simp only [hf]
  rw [hy, hds]
  have hyl : V.l (T.of 21 0 ⟨#[]⟩ 0 ((outs ts (fs.map FS.d)).take (saidN ts (fs.map FS.d) ts.length))) = (outs ts (fs.map FS.d)).take (saidN ts (fs.map FS.d) ts.length) := V.l_of _ _ _ _ _ _ _
  rw [hyl, if_neg (show ¬ V.k (T.of 21 0 ⟨#[]⟩ 0 _) ≠ 21 from fun h => h rfl), if_neg (by rw [List.length_take, hol]; omega)]
  have hrs : fillsT re fs ((outs ts (fs.map FS.d)).take (saidN ts (fs.map FS.d) ts.length)) = ts.map fun t => (t, (0 : Int)) := by
    refine List.ext_getElem? fun i => ?_
    unfold fillsT
    rw [List.getElem?_mapIdx, List.getElem?_map]
    by_cases hi : i < ts.length
    · have hif : i < fs.length := by omega
      rw [List.getElem?_eq_getElem hi, List.getElem?_eq_getElem hif, Option.map_some, Option.map_some]
      congr 1
      have hdi : (fs.map FS.d)[i]'(by rw [List.length_map]; exact hif) = fs[i].d := List.getElem_map _
      have hnul : eqT ts[i].t ((fs.map FS.d)[i]'(by rw [List.length_map]; exact hif)).t = true → fillT re fs[i] nul = (ts[i], 0) := fun he => by
        have h1 := eqT_yes he
        rw [htt _ (List.getElem_mem hi), hdi, fs_d_t] at h1
        have hm : fs[i].must = false := by
          cases hm : fs[i].must
          · rfl
          · have h2 := hmust i hi hif hm
            have h3 := (okR_out (hok _ (List.getElem_mem hif))).2.1 hm
            rw [h1] at h2
            exact absurd h3 h2
        rw [fill_nul re hm, h1]
      by_cases hs : i < saidN ts (fs.map FS.d) ts.length
      · rw [List.getElem?_take_of_lt hs, outs_get ts (fs.map FS.d) i hdl hi]
        simp only [Option.getD_some]
        by_cases he : eqT ts[i].t ((fs.map FS.d)[i]'(by rw [List.length_map]; exact hif)).t = true
        · rw [if_pos he]
          exact hnul he
        · rw [if_neg he]
          exact hfill i hi hif
      · rw [List.getElem?_eq_none (by rw [List.length_take, hol]; omega)]
        exact hnul (saidN_ge ts (fs.map FS.d) hdl ts.length (Nat.le_refl _) i hi (by omega) hi)
    · rw [List.getElem?_eq_none (show fs.length ≤ i by omega), List.getElem?_eq_none (show ts.length ≤ i by omega)]
      rfl
  rw [hrs, rowT_good (fun j hj => by rw [List.getElem_map])]
  congr 2
  rw [List.map_map]
  conv => rhs; rw [← List.map_id ts]
  rfl
theorem nd_nul : Nd nul := by
  refine nd_leaf ?_
  kernel_rfl
theorem fault_num {k : Int} (h0 : 0 ≤ k) : faultT 1 (leaf 5 k ⟨#[]⟩) = 0 := by
  unfold faultT leaf
  rw [V.k_of, V.n_of, V.s_of, V.e_of, V.l_of]
  unfold faultB
  have h1 : extraT 5 k ⟨#[]⟩ ([] : List V).length 0 = false := by unfold extraT; first | (simp; done) | (simp; rfl)
  have h2 : numT 5 k = true := by unfold numT; simp
  have h3 : textT 5 ⟨#[]⟩ = true := by unfold textT; simp
  rw [h1, h2, h3]
  simp
theorem fault_desc (a : Option Addr) (c : Nat) (x y : V) : faultT 1 (V.of 24 0 ⟨#[]⟩ a c 0 [x, y]).t = 0 := by
  rw [faultT_of]
  unfold faultB
  have h1 : extraT 24 0 ⟨#[]⟩ ([x, y] : List V).length 0 = false := by unfold extraT; first | (simp; done) | (simp; rfl)
  have h2 : numT 24 0 = true := by unfold numT; simp
  have h3 : textT 24 ⟨#[]⟩ = true := by unfold textT; simp
  rw [h1, h2, h3]
  simp
theorem fault_lst2 (a : Option Addr) (c : Nat) (l : List V) : faultT 1 (V.of 21 0 ⟨#[]⟩ a c 0 l).t = 0 := by
  rw [faultT_of]
  unfold faultB
  have h1 : extraT 21 0 ⟨#[]⟩ l.length 0 = false := by unfold extraT; first | (simp; done) | (simp; rfl)
  have h2 : numT 21 0 = true := by unfold numT; simp
  have h3 : textT 21 ⟨#[]⟩ = true := by unfold textT; simp
  rw [h1, h2, h3]
  simp
theorem fault_arr (a : Option Addr) (c : Nat) (x : V) (h : x.k = 20) : faultT 1 (V.of 23 0 ⟨#[]⟩ a c 20 [x]).t = 0 := by
  rw [faultT_of]
  unfold faultB
  have h1 : extraT 23 0 ⟨#[]⟩ ([x] : List V).length 20 = false := by unfold extraT; first | (simp; done) | (simp; rfl)
  have h2 : numT 23 0 = true := by unfold numT; simp
  have h3 : textT 23 ⟨#[]⟩ = true := by unfold textT; simp
  have h4 : arrT 20 (V.ts [x]) = true := by
    unfold arrT
    rw [V.ts_map]
    simp [k_t, h]
  rw [h1, h2, h3, h4]
  simp
theorem nd_laid {k : Int} {ts : List T} (hk : 0 ≤ k) (h : ∀ t ∈ ts, Nd t) : Nd (laidT k ts) := by
  unfold laidT
  show Nd (V.of 24 0 ⟨#[]⟩ none 0 0 [leaf 5 k ⟨#[]⟩, V.of 21 0 ⟨#[]⟩ none 0 0 _])
  rw [nd_of]
  refine ⟨fault_desc _ _ _ _, fun x hx => ?_⟩
  simp only [List.mem_cons, List.not_mem_nil, or_false] at hx
  rcases hx with rfl | rfl
  · exact nd_leaf (fault_num hk)
  · rw [nd_of]
    refine ⟨fault_lst2 _ _ _, fun x hx => ?_⟩
    rcases outs_mem _ _ x (List.mem_of_mem_take hx) with rfl | h1
    · exact nd_nul
    · exact h x h1
theorem nd_sub {x y : V} (h : Nd x) (hy : y ∈ x.l) : Nd y := by
  obtain ⟨k, n, s, a, c, e, l, rfl⟩ := V.ex x
  rw [V.l_of] at hy
  exact ((nd_of _ _ _ _ _ _ _).1 h).2 y hy
theorem dp_leaf (k n : Int) (s : ByteArray) : T.dp (leaf k n s) = 1 := by
  unfold leaf
  rw [dp_of]
  rfl
theorem dp_mem {x y : V} (hy : y ∈ x.l) : T.dp y + 1 ≤ T.dp x := by
  obtain ⟨k, n, s, a, c, e, l, rfl⟩ := V.ex x
  rw [V.l_of] at hy
  exact dp_sub hy
theorem sym_dp {x : T} (h : Nd x) (hk : x.k = 20) : T.dp x = 1 := by
  obtain ⟨k, n, s, a, c, e, l, rfl⟩ := V.ex x
  have h1 := ((nd_of _ _ _ _ _ _ _).1 h).1
  rw [V.k_of] at hk
  subst hk
  rw [faultT_of] at h1
  unfold faultB at h1
  rw [if_neg (by decide), if_neg (by decide)] at h1
  have h2 : extraT 20 n s l.length e = false := by
    cases hx : extraT 20 n s l.length e
    · rfl
    · rw [hx, if_pos rfl] at h1; exact absurd h1 (by decide)
  unfold extraT at h2
  rw [if_neg (by decide), if_pos (by decide)] at h2
  simp only [Bool.or_eq_false_iff, decide_eq_false_iff_not] at h2
  have h3 : l = [] := List.eq_nil_of_length_eq_zero (by omega)
  rw [dp_of, h3]
  rfl
def Re (re : T → T × Int) (n : Nat) : Prop := ∀ (x : T) (k : Int), x.t = x → Nd x → kindV x.k x.l = some k → rk k < n → ∀ t, re x = (t, 0) → t.t = t ∧ Nd t ∧ re t = (t, 0) ∧ kindV t.k t.l = some k ∧ t.k = 24 ∧ T.dp t ≤ max (T.dp x) (2 * rk k + 4)
theorem fill_good {re : T → T × Int} {n : Nat} (hR : Re re n) {k : Int} {f : FS} (ho : okR k f = true) (hn : rk k ≤ n) {x t : T} (hx : x.t = x) (hd : Nd x) (h : fillT re f x = (t, 0)) :
    t.t = t ∧ Nd t ∧ fillT re f t = (t, 0) ∧ (f.must = true → t.k ≠ 0) ∧ ¬ (f.ty = 101 ∧ t.k = 20) ∧ (t = f.d ∨ (x.k ≠ 0 ∧ T.dp t ≤ max (T.dp x) (2 * rk k + 2))) := by
  obtain ⟨o1, o2, o3, o4, o5⟩ := okR_out ho
  rcases fill_ways h with ⟨h0, hm, rfl⟩ | ⟨h0, rfl, hall, hns⟩ | ⟨h1, h2, rfl⟩ | ⟨h1, h0, k', hk', hm', hre⟩
  · refine ⟨fs_d_t f, nd_leaf o3, fill_dflt re ho hm, (fun h => by rw [hm] at h; exact absurd h (by decide)), fun hh => ?_, .inl rfl⟩
    have hk : f.d.k = f.dk := rfl
    rw [hk] at hh
    rcases o1 with o1 | o1 <;> omega
  · exact ⟨hx, hd, hall re, fun _ => h0, hns, .inr ⟨h0, by omega⟩⟩
  · refine ⟨?_, ?_, ?_, fun _ => by show (23 : Int) ≠ 0; decide, fun hh => absurd hh.2 (by show ¬ (23 : Int) = 20; decide), .inr ⟨by omega, ?_⟩⟩
    · show (V.of 23 0 ⟨#[]⟩ none 0 20 [x]).t = _
      rw [V.t_of]
      show T.of 23 0 ⟨#[]⟩ 20 [x.t] = _
      rw [hx]
    · show Nd (V.of 23 0 ⟨#[]⟩ none 0 20 [x])
      rw [nd_of]
      exact ⟨fault_arr _ _ _ h2, fun z hz => by rw [List.mem_singleton] at hz; subst hz; exact hd⟩
    · unfold fillT
      rw [if_neg (show ¬ V.k (T.of 23 0 ⟨#[]⟩ 20 [x]) = 0 by show ¬ (23 : Int) = 0; decide), if_neg (by omega), if_pos h1, if_neg (show ¬ V.k (T.of 23 0 ⟨#[]⟩ 20 [x]) = 20 by show ¬ (23 : Int) = 20; decide), if_pos (show V.k (T.of 23 0 ⟨#[]⟩ 20 [x]) = 23 ∧ V.e (T.of 23 0 ⟨#[]⟩ 20 [x]) = 20 from ⟨rfl, rfl⟩)]
    · have h3 : T.dp (T.of 23 0 ⟨#[]⟩ 20 [x]) = 2 := by
        show T.dp (V.of 23 0 ⟨#[]⟩ none 0 20 [x]) = 2
        rw [dp_of]
        show mxn [T.dp x] + 1 = 2
        rw [sym_dp hd h2]
        rfl
      omega
  · have hrk := o4 h1 k' hm'
    obtain ⟨q1, q2, q3, q4, q5, q6⟩ := hR x k' hx hd hk' (by omega) t hre
    refine ⟨q1, q2, ?_, fun _ => by rw [q5]; decide, fun hh => by omega, .inr ⟨h0, by omega⟩⟩
    unfold fillT
    rw [if_neg (by rw [q5]; decide), if_neg (by omega), if_neg (by omega), if_pos h1, q4]
    simp only
    rw [if_pos (List.contains_iff_mem.2 hm')]
    exact q3
def Good (re : T → T × Int) (k : Int) (fs : List FS) (ts : List T) : Prop := ts.length = fs.length ∧ (∀ t ∈ ts, t.t = t ∧ Nd t) ∧ (∀ i (h1 : i < ts.length) (h2 : i < fs.length), fillT re fs[i] ts[i] = (ts[i], 0)) ∧ (∀ i (h1 : i < ts.length) (h2 : i < fs.length), fs[i].must = true → ts[i].k ≠ 0) ∧ (∀ i (h1 : i < ts.length) (h2 : i < fs.length), ¬ (fs[i].ty = 101 ∧ ts[i].k = 20))
theorem good_of {re : T → T × Int} {n : Nat} (hR : Re re n) {k : Int} {fs : List FS} (hf : ftab k = some fs) (hn : rk k ≤ n) {xs ts : List T} (hlx : xs.length = fs.length) (hl : ts.length = fs.length) (hx : ∀ x ∈ xs, x.t = x ∧ Nd x)
    (h : ∀ i (h1 : i < ts.length) (h2 : i < fs.length) (h3 : i < xs.length), fillT re fs[i] xs[i] = (ts[i], 0)) : Good re k fs ts := by
  have hg := fun i (h1 : i < ts.length) => fill_good hR (ftab_r hf _ (List.getElem_mem (show i < fs.length by omega))) hn (hx _ (List.getElem_mem (show i < xs.length by omega))).1 (hx _ (List.getElem_mem (show i < xs.length by omega))).2 (h i h1 (by omega) (by omega))
  refine ⟨hl, fun t ht => ?_, fun i h1 h2 => (hg i h1).2.2.1, fun i h1 h2 => (hg i h1).2.2.2.1, fun i h1 h2 => (hg i h1).2.2.2.2.1⟩
  obtain ⟨i, hi, rfl⟩ := List.mem_iff_getElem.1 ht
  exact ⟨(hg i hi).1, (hg i hi).2.1⟩
theorem Good.unp {re : T → T × Int} {k : Int} {fs : List FS} {ts : List T} (h : Good re k fs ts) (hf : ftab k = some fs) : unpT re (laidT k ts) = ((k, ts), 0, 0) := unp_laid hf h.1 (fun t ht => (h.2.1 t ht).1) h.2.2.1 h.2.2.2.1
theorem laid_kind {k : Int} {fs : List FS} (hf : ftab k = some fs) (ts : List T) : kindV (laidT k ts).k (laidT k ts).l = some k := by
  unfold laidT
  show kindV 24 (V.l (V.of 24 0 ⟨#[]⟩ none 0 0 _)) = _
  rw [V.l_of, kindV_two, leaf_t]
  exact kind_num hf
theorem laid_dp {k : Int} {fs : List FS} (hf : ftab k = some fs) {ts : List T} (hl : ts.length = fs.length) (htt : ∀ t ∈ ts, t.t = t) {m : Nat} (hm : 4 ≤ m) (h : ∀ i (h1 : i < ts.length) (h2 : i < fs.length), ts[i] ≠ fs[i].d → T.dp ts[i] + 2 ≤ m) : T.dp (laidT k ts) ≤ m := by
  have hds : dsOf k = fs.map FS.d := by unfold dsOf; rw [hf]; rfl
  unfold laidT
  rw [hds]
  show T.dp (V.of 24 0 ⟨#[]⟩ none 0 0 [leaf 5 k ⟨#[]⟩, V.of 21 0 ⟨#[]⟩ none 0 0 ((outs ts (fs.map FS.d)).take (saidN ts (fs.map FS.d) ts.length))]) ≤ m
  rw [dp_of]
  show mxn [T.dp (leaf 5 k ⟨#[]⟩), T.dp (V.of 21 0 ⟨#[]⟩ none 0 0 ((outs ts (fs.map FS.d)).take (saidN ts (fs.map FS.d) ts.length)))] + 1 ≤ m
  rw [dp_leaf, dp_of]
  have h1 : mxn (((outs ts (fs.map FS.d)).take (saidN ts (fs.map FS.d) ts.length)).map T.dp) ≤ m - 2 := mxn_le (fun y hy => by
    obtain ⟨x, hx, rfl⟩ := List.mem_map.1 hy
    obtain ⟨i, hi, rfl⟩ := List.mem_iff_getElem.1 (List.mem_of_mem_take hx)
    have hol := outs_len ts (fs.map FS.d) (by rw [List.length_map, hl])
    rw [outs_at ts (fs.map FS.d) i (by rw [List.length_map, hl]) (by omega) hi]
    split
    · have : T.dp nul = 1 := dp_leaf _ _ _
      omega
    · rename_i hne
      have := h i (by omega) (by omega) (fun e => hne (by rw [e, List.getElem_map]; exact eqT_refl _))
      omega)
  simp only [mxn]
  omega
theorem fillsT_get (re : T → T × Int) (fs : List FS) (th : List T) (i : Nat) (h : i < (fillsT re fs th).length) (h2 : i < fs.length) : (fillsT re fs th)[i] = fillT re fs[i] ((th[i]?).getD nul) := by
  have h1 : (fillsT re fs th)[i]? = some (fillT re fs[i] ((th[i]?).getD nul)) := by
    unfold fillsT
    rw [List.getElem?_mapIdx, List.getElem?_eq_getElem h2]
    rfl
  rw [List.getElem?_eq_getElem h] at h1
  exact Option.some.inj h1
theorem re_step {N : Nat} (hR : Re (repT N) N) : Re (repT (N + 1)) (N + 1) := by
  intro x k hx hd hk hrk t ht
  have hz : (unpT (repT N) x).2.2 = 0 := by
    refine Decidable.byContradiction fun hne => ?_
    rw [repT, if_pos hne] at ht
    exact hne (Prod.mk.inj ht).2
  obtain ⟨k2, fs, d, y, hk2, hl, h24, hf, h21, hle, hu⟩ := unpT_ok hz
  obtain rfl : k = k2 := Option.some.inj (hk.symm.trans hk2)
  rw [hu] at hz
  obtain ⟨he, hall⟩ := rowT_ok hz
  have htt : t = laidT k ((fillsT (repT N) fs y.l).map Prod.fst) := by
    have hu2 := hu.trans he
    rw [repT, hu2, if_neg (by simp)] at ht
    exact (Prod.mk.inj ht).1.symm
  have hym : y ∈ x.l := by rw [hl]; simp
  have hyt : y.t = y := sub_tree hx hym
  have hyd : Nd y := nd_sub hd hym
  have hxi : ∀ i : Nat, ((y.l[i]?).getD nul).t = (y.l[i]?).getD nul ∧ Nd ((y.l[i]?).getD nul) := fun i => by
    cases hq : y.l[i]? with
    | none => exact ⟨nul_t, nd_nul⟩
    | some z => exact ⟨sub_tree hyt (List.mem_of_getElem? hq), nd_sub hyd (List.mem_of_getElem? hq)⟩
  have hfl := fillsT_len (repT N) fs y.l
  have hfi : ∀ i (h1 : i < (fillsT (repT N) fs y.l).length) (h2 : i < fs.length), fillT (repT N) fs[i] ((y.l[i]?).getD nul) = ((fillsT (repT N) fs y.l)[i].1, 0) := fun i h1 h2 => by
    have h3 : (fillsT (repT N) fs y.l)[i] = fillT (repT N) fs[i] ((y.l[i]?).getD nul) := fillsT_get _ _ _ i h1 h2
    have h4 := hall i h1
    rw [h3] at h4 ⊢
    exact Prod.ext rfl h4
  generalize hts : (fillsT (repT N) fs y.l).map Prod.fst = ts at htt
  have htl : ts.length = fs.length := by rw [← hts, List.length_map, hfl]
  have hfi2 : ∀ i (h1 : i < ts.length) (h2 : i < fs.length), fillT (repT N) fs[i] ((y.l[i]?).getD nul) = (ts[i], 0) := fun i h1 h2 => by
    have h3 : ts[i]? = ((fillsT (repT N) fs y.l).map Prod.fst)[i]? := by rw [hts]
    rw [List.getElem?_eq_getElem h1, List.getElem?_map, List.getElem?_eq_getElem (by omega), Option.map_some] at h3
    rw [hfi i (by omega) h2, Option.some.inj h3]
  have hg : Good (repT N) k fs ts := good_of hR hf (by omega) (xs := (List.range fs.length).map fun (i : Nat) => (y.l[i]?).getD nul) (by simp) htl (fun z hz => by
    obtain ⟨i, _, rfl⟩ := List.mem_map.1 hz
    exact hxi i) (fun i h1 h2 h3 => by
    have : ((List.range fs.length).map fun (i : Nat) => (y.l[i]?).getD nul)[i] = (y.l[i]?).getD nul := by simp
    rw [this]
    exact hfi2 i h1 h2)
  subst htt
  have hpos := ftab_pos hf
  refine ⟨laidT_t _ _ (fun t ht => (hg.2.1 t ht).1), nd_laid (by omega) (fun t ht => (hg.2.1 t ht).2), ?_, laid_kind hf ts, rfl, ?_⟩
  · rw [repT, hg.unp hf, if_neg (by simp)]
  · refine laid_dp hf htl (fun t ht => (hg.2.1 t ht).1) (by omega) (fun i h1 h2 hne => ?_)
    have hgi := (fill_good hR (ftab_r hf _ (List.getElem_mem h2)) (by omega) (hxi i).1 (hxi i).2 (hfi2 i h1 h2)).2.2.2.2.2
    rcases hgi with e | ⟨h0, hdp⟩
    · exact absurd e hne
    · have hxm : (y.l[i]?).getD nul ∈ y.l := by
        cases hq : y.l[i]? with
        | none => rw [hq] at h0; exact absurd rfl h0
        | some z => exact List.mem_of_getElem? hq
      have e1 := dp_mem hxm
      have e2 := dp_mem hym
      omega
theorem re_all : ∀ N, Re (repT N) N := by
  intro N
  induction N with
  | zero => intro x k _ _ _ h; omega
  | succ N ih => exact re_step ih
theorem rk_le (k : Int) : rk k ≤ 3 := by
  unfold rk
  split
  · omega
  · split
    · omega
    · split <;> omega
theorem rep_re : Re rep 40 := re_all 40
theorem good_dp {re : T → T × Int} {n : Nat} (hR : Re re n) {k : Int} {fs : List FS} (hf : ftab k = some fs) (hn : rk k ≤ n) {xs ts : List T} (hlx : xs.length = fs.length) (hl : ts.length = fs.length) (hx : ∀ x ∈ xs, x.t = x ∧ Nd x) (hxd : ∀ x ∈ xs, T.dp x ≤ 32)
    (h : ∀ i (h1 : i < ts.length) (h2 : i < fs.length) (h3 : i < xs.length), fillT re fs[i] xs[i] = (ts[i], 0)) : ∀ t ∈ ts, T.dp t ≤ 32 := by
  intro t ht
  obtain ⟨i, hi, rfl⟩ := List.mem_iff_getElem.1 ht
  have h1 : i < xs.length := by omega
  have hg := (fill_good hR (ftab_r hf _ (List.getElem_mem (show i < fs.length by omega))) hn (hx _ (List.getElem_mem h1)).1 (hx _ (List.getElem_mem h1)).2 (h i hi (by omega) h1)).2.2.2.2.2
  rcases hg with e | ⟨_, hd⟩
  · rw [e]
    have : T.dp (fs[i]'(by omega)).d = 1 := dp_leaf _ _ _
    omega
  · have := hxd _ (List.getElem_mem h1)
    have := rk_le k
    omega
theorem unpR_good {v : V} (h : (unpR v).2.2 = 0) : ∃ k fs ts, unpR v = ((k, ts), 0, 0) ∧ ftab k = some fs ∧ Good rep k fs ts ∧ T.dp (laidT k ts) ≤ 32 ∧ ∀ t ∈ ts, T.dp t ≤ 32 := by
  unfold unpR at h ⊢
  by_cases hc : chkE v = 0
  · rw [if_neg (by simpa using hc)] at h ⊢
    obtain ⟨hnd, hdp⟩ := (chk_iff v).1 hc
    rw [← nd_t] at hnd
    rw [← dp_t] at hdp
    have hx := t_t v
    generalize v.t = x at h hnd hdp hx ⊢
    obtain ⟨k, fs, d, y, hk, hl, h24, hf, h21, hle, hu⟩ := unpT_ok h
    have hrk := rk_le k
    rw [hu] at h
    obtain ⟨he, hall⟩ := rowT_ok h
    have hym : y ∈ x.l := by rw [hl]; simp
    have hyt : y.t = y := sub_tree hx hym
    have hyd : Nd y := nd_sub hnd hym
    have hyp := dp_mem hym
    have hxi : ∀ i : Nat, (((y.l[i]?).getD nul).t = (y.l[i]?).getD nul ∧ Nd ((y.l[i]?).getD nul)) ∧ T.dp ((y.l[i]?).getD nul) ≤ 32 ∧ (((y.l[i]?).getD nul).k ≠ 0 → T.dp ((y.l[i]?).getD nul) + 2 ≤ 32) := fun i => by
      cases hq : y.l[i]? with
      | none => exact ⟨⟨nul_t, nd_nul⟩, by show T.dp nul ≤ 32; rw [show T.dp nul = 1 from dp_leaf _ _ _]; omega, fun h0 => absurd rfl h0⟩
      | some z =>
        have hz := dp_mem (List.mem_of_getElem? hq)
        exact ⟨⟨sub_tree hyt (List.mem_of_getElem? hq), nd_sub hyd (List.mem_of_getElem? hq)⟩, by show T.dp z ≤ 32; omega, fun _ => by show T.dp z + 2 ≤ 32; omega⟩
    have hfl := fillsT_len rep fs y.l
    have hfi : ∀ i (h1 : i < (fillsT rep fs y.l).length) (h2 : i < fs.length), fillT rep fs[i] ((y.l[i]?).getD nul) = ((fillsT rep fs y.l)[i].1, 0) := fun i h1 h2 => by
      have h3 : (fillsT rep fs y.l)[i] = fillT rep fs[i] ((y.l[i]?).getD nul) := fillsT_get _ _ _ i h1 h2
      have h4 := hall i h1
      rw [h3] at h4 ⊢
      exact Prod.ext rfl h4
    rw [hu, he]
    generalize hts : (fillsT rep fs y.l).map Prod.fst = ts
    have htl : ts.length = fs.length := by rw [← hts, List.length_map, hfl]
    have hfi2 : ∀ i (h1 : i < ts.length) (h2 : i < fs.length), fillT rep fs[i] ((y.l[i]?).getD nul) = (ts[i], 0) := fun i h1 h2 => by
      have h3 : ts[i]? = ((fillsT rep fs y.l).map Prod.fst)[i]? := by rw [hts]
      rw [List.getElem?_eq_getElem h1, List.getElem?_map, List.getElem?_eq_getElem (by omega), Option.map_some] at h3
      rw [hfi i (by omega) h2, Option.some.inj h3]
    have hxs : ∀ z ∈ (List.range fs.length).map fun (i : Nat) => (y.l[i]?).getD nul, (z.t = z ∧ Nd z) ∧ T.dp z ≤ 32 := fun z hz => by
      obtain ⟨i, _, rfl⟩ := List.mem_map.1 hz
      exact ⟨(hxi i).1, (hxi i).2.1⟩
    have hfx : ∀ i (h1 : i < ts.length) (h2 : i < fs.length) (h3 : i < ((List.range fs.length).map fun (i : Nat) => (y.l[i]?).getD nul).length), fillT rep fs[i] ((List.range fs.length).map fun (i : Nat) => (y.l[i]?).getD nul)[i] = (ts[i], 0) := fun i h1 h2 h3 => by
      have : ((List.range fs.length).map fun (i : Nat) => (y.l[i]?).getD nul)[i] = (y.l[i]?).getD nul := by simp
      rw [this]
      exact hfi2 i h1 h2
    have hg := good_of rep_re hf (by omega) (by simp) htl (fun z hz => (hxs z hz).1) hfx
    refine ⟨k, fs, ts, rfl, hf, hg, ?_, good_dp rep_re hf (by omega) (by simp) htl (fun z hz => (hxs z hz).1) (fun z hz => (hxs z hz).2) hfx⟩
    refine laid_dp hf htl (fun t ht => (hg.2.1 t ht).1) (by omega) (fun i h1 h2 hne => ?_)
    have hgi := (fill_good rep_re (ftab_r hf _ (List.getElem_mem h2)) (show rk k ≤ 40 by omega) (hxi i).1.1 (hxi i).1.2 (hfi2 i h1 h2)).2.2.2.2.2
    rcases hgi with e | ⟨h0, hdp2⟩
    · exact absurd e hne
    · have := (hxi i).2.2 h0
      omega
  · rw [if_pos hc] at h
    exact absurd h hc
def RName (k : Int) : Prop := (∃ r ∈ krows, r.1 = k ∧ r.2.1.toList.isEmpty = false ∧ r.2.1.size ≤ 100 ∧ ∀ w, Calls Tryz.prog 11 #[.int .i64 k] w fun e w' => e = .returned (.string r.2.1) ∧ Below w.heap.size w w') ∨
  ((∀ r ∈ krows, r.1 ≠ k) ∧ ∀ w, Calls Tryz.prog 11 #[.int .i64 k] w fun e w' => e = .returned (.string ⟨#[]⟩) ∧ Below w.heap.size w w')
set_option maxRecDepth 100000 in
theorem krows_mem (i : Nat) (h : i < 36) : krows[i]'(by rw [krows_len]; exact h) ∈ krows := List.getElem_mem _
set_option maxRecDepth 100000 in
theorem rname_any (k : Int) : RName k := by
  by_cases h : k = 16 ∨ k = 17 ∨ k = 18 ∨ k = 19 ∨ k = 20 ∨ k = 21 ∨ k = 22 ∨ k = 23 ∨ k = 24 ∨ k = 29 ∨ k = 35 ∨ k = 36 ∨ k = 37 ∨ k = 38 ∨ k = 39 ∨ k = 40 ∨ k = 41 ∨ k = 48 ∨ k = 49 ∨ k = 50 ∨ k = 51 ∨ k = 52 ∨ k = 64 ∨ k = 65 ∨ k = 66 ∨ k = 67 ∨ k = 68 ∨ k = 112 ∨ k = 115 ∨ k = 113 ∨ k = 114 ∨ k = 116 ∨ k = 120 ∨ k = 117 ∨ k = 118 ∨ k = 119
  · rcases h with rfl | rfl | rfl | rfl | rfl | rfl | rfl | rfl | rfl | rfl | rfl | rfl | rfl | rfl | rfl | rfl | rfl | rfl | rfl | rfl | rfl | rfl | rfl | rfl | rfl | rfl | rfl | rfl | rfl | rfl | rfl | rfl | rfl | rfl | rfl | rfl
    · exact .inl ⟨_, krows_mem 0 (by decide), rfl, by kernel_rfl, of_decide_eq_true (by kernel_rfl), rname_16⟩
    · exact .inl ⟨_, krows_mem 1 (by decide), rfl, by kernel_rfl, of_decide_eq_true (by kernel_rfl), rname_17⟩
    · exact .inl ⟨_, krows_mem 2 (by decide), rfl, by kernel_rfl, of_decide_eq_true (by kernel_rfl), rname_18⟩
    · exact .inl ⟨_, krows_mem 3 (by decide), rfl, by kernel_rfl, of_decide_eq_true (by kernel_rfl), rname_19⟩
    · exact .inl ⟨_, krows_mem 4 (by decide), rfl, by kernel_rfl, of_decide_eq_true (by kernel_rfl), rname_20⟩
    · exact .inl ⟨_, krows_mem 5 (by decide), rfl, by kernel_rfl, of_decide_eq_true (by kernel_rfl), rname_21⟩
    · exact .inl ⟨_, krows_mem 6 (by decide), rfl, by kernel_rfl, of_decide_eq_true (by kernel_rfl), rname_22⟩
    · exact .inl ⟨_, krows_mem 7 (by decide), rfl, by kernel_rfl, of_decide_eq_true (by kernel_rfl), rname_23⟩
    · exact .inl ⟨_, krows_mem 8 (by decide), rfl, by kernel_rfl, of_decide_eq_true (by kernel_rfl), rname_24⟩
    · exact .inl ⟨_, krows_mem 9 (by decide), rfl, by kernel_rfl, of_decide_eq_true (by kernel_rfl), rname_29⟩
    · exact .inl ⟨_, krows_mem 10 (by decide), rfl, by kernel_rfl, of_decide_eq_true (by kernel_rfl), rname_35⟩
    · exact .inl ⟨_, krows_mem 11 (by decide), rfl, by kernel_rfl, of_decide_eq_true (by kernel_rfl), rname_36⟩
    · exact .inl ⟨_, krows_mem 12 (by decide), rfl, by kernel_rfl, of_decide_eq_true (by kernel_rfl), rname_37⟩
    · exact .inl ⟨_, krows_mem 13 (by decide), rfl, by kernel_rfl, of_decide_eq_true (by kernel_rfl), rname_38⟩
    · exact .inl ⟨_, krows_mem 14 (by decide), rfl, by kernel_rfl, of_decide_eq_true (by kernel_rfl), rname_39⟩
    · exact .inl ⟨_, krows_mem 15 (by decide), rfl, by kernel_rfl, of_decide_eq_true (by kernel_rfl), rname_40⟩
    · exact .inl ⟨_, krows_mem 16 (by decide), rfl, by kernel_rfl, of_decide_eq_true (by kernel_rfl), rname_41⟩
    · exact .inl ⟨_, krows_mem 17 (by decide), rfl, by kernel_rfl, of_decide_eq_true (by kernel_rfl), rname_48⟩
    · exact .inl ⟨_, krows_mem 18 (by decide), rfl, by kernel_rfl, of_decide_eq_true (by kernel_rfl), rname_49⟩
    · exact .inl ⟨_, krows_mem 19 (by decide), rfl, by kernel_rfl, of_decide_eq_true (by kernel_rfl), rname_50⟩
    · exact .inl ⟨_, krows_mem 20 (by decide), rfl, by kernel_rfl, of_decide_eq_true (by kernel_rfl), rname_51⟩
    · exact .inl ⟨_, krows_mem 21 (by decide), rfl, by kernel_rfl, of_decide_eq_true (by kernel_rfl), rname_52⟩
    · exact .inl ⟨_, krows_mem 22 (by decide), rfl, by kernel_rfl, of_decide_eq_true (by kernel_rfl), rname_64⟩
    · exact .inl ⟨_, krows_mem 23 (by decide), rfl, by kernel_rfl, of_decide_eq_true (by kernel_rfl), rname_65⟩
    · exact .inl ⟨_, krows_mem 24 (by decide), rfl, by kernel_rfl, of_decide_eq_true (by kernel_rfl), rname_66⟩
    · exact .inl ⟨_, krows_mem 25 (by decide), rfl, by kernel_rfl, of_decide_eq_true (by kernel_rfl), rname_67⟩
    · exact .inl ⟨_, krows_mem 26 (by decide), rfl, by kernel_rfl, of_decide_eq_true (by kernel_rfl), rname_68⟩
    · exact .inl ⟨_, krows_mem 27 (by decide), rfl, by kernel_rfl, of_decide_eq_true (by kernel_rfl), rname_112⟩
    · exact .inl ⟨_, krows_mem 28 (by decide), rfl, by kernel_rfl, of_decide_eq_true (by kernel_rfl), rname_115⟩
    · exact .inl ⟨_, krows_mem 29 (by decide), rfl, by kernel_rfl, of_decide_eq_true (by kernel_rfl), rname_113⟩
    · exact .inl ⟨_, krows_mem 30 (by decide), rfl, by kernel_rfl, of_decide_eq_true (by kernel_rfl), rname_114⟩
    · exact .inl ⟨_, krows_mem 31 (by decide), rfl, by kernel_rfl, of_decide_eq_true (by kernel_rfl), rname_116⟩
    · exact .inl ⟨_, krows_mem 32 (by decide), rfl, by kernel_rfl, of_decide_eq_true (by kernel_rfl), rname_120⟩
    · exact .inl ⟨_, krows_mem 33 (by decide), rfl, by kernel_rfl, of_decide_eq_true (by kernel_rfl), rname_117⟩
    · exact .inl ⟨_, krows_mem 34 (by decide), rfl, by kernel_rfl, of_decide_eq_true (by kernel_rfl), rname_118⟩
    · exact .inl ⟨_, krows_mem 35 (by decide), rfl, by kernel_rfl, of_decide_eq_true (by kernel_rfl), rname_119⟩
  · refine .inr ⟨fun r hr hk => h ?_, fun w => ?_⟩
    · obtain ⟨i, hi, rfl⟩ := List.mem_iff_getElem.1 hr
      have hi' : i < 36 := hi
      subst hk
      match i, hi' with
      | 0, _ => exact (.inl rfl)
      | 1, _ => exact (.inr (.inl rfl))
      | 2, _ => exact (.inr (.inr (.inl rfl)))
      | 3, _ => exact (.inr (.inr (.inr (.inl rfl))))
      | 4, _ => exact (.inr (.inr (.inr (.inr (.inl rfl)))))
      | 5, _ => exact (.inr (.inr (.inr (.inr (.inr (.inl rfl))))))
      | 6, _ => exact (.inr (.inr (.inr (.inr (.inr (.inr (.inl rfl)))))))
      | 7, _ => exact (.inr (.inr (.inr (.inr (.inr (.inr (.inr (.inl rfl))))))))
      | 8, _ => exact (.inr (.inr (.inr (.inr (.inr (.inr (.inr (.inr (.inl rfl)))))))))
      | 9, _ => exact (.inr (.inr (.inr (.inr (.inr (.inr (.inr (.inr (.inr (.inl rfl))))))))))
      | 10, _ => exact (.inr (.inr (.inr (.inr (.inr (.inr (.inr (.inr (.inr (.inr (.inl rfl)))))))))))
      | 11, _ => exact (.inr (.inr (.inr (.inr (.inr (.inr (.inr (.inr (.inr (.inr (.inr (.inl rfl))))))))))))
      | 12, _ => exact (.inr (.inr (.inr (.inr (.inr (.inr (.inr (.inr (.inr (.inr (.inr (.inr (.inl rfl)))))))))))))
      | 13, _ => exact (.inr (.inr (.inr (.inr (.inr (.inr (.inr (.inr (.inr (.inr (.inr (.inr (.inr (.inl rfl))))))))))))))
      | 14, _ => exact (.inr (.inr (.inr (.inr (.inr (.inr (.inr (.inr (.inr (.inr (.inr (.inr (.inr (.inr (.inl rfl)))))))))))))))
      | 15, _ => exact (.inr (.inr (.inr (.inr (.inr (.inr (.inr (.inr (.inr (.inr (.inr (.inr (.inr (.inr (.inr (.inl rfl))))))))))))))))
      | 16, _ => exact (.inr (.inr (.inr (.inr (.inr (.inr (.inr (.inr (.inr (.inr (.inr (.inr (.inr (.inr (.inr (.inr (.inl rfl)))))))))))))))))
      | 17, _ => exact (.inr (.inr (.inr (.inr (.inr (.inr (.inr (.inr (.inr (.inr (.inr (.inr (.inr (.inr (.inr (.inr (.inr (.inl rfl))))))))))))))))))
      | 18, _ => exact (.inr (.inr (.inr (.inr (.inr (.inr (.inr (.inr (.inr (.inr (.inr (.inr (.inr (.inr (.inr (.inr (.inr (.inr (.inl rfl)))))))))))))))))))
      | 19, _ => exact (.inr (.inr (.inr (.inr (.inr (.inr (.inr (.inr (.inr (.inr (.inr (.inr (.inr (.inr (.inr (.inr (.inr (.inr (.inr (.inl rfl))))))))))))))))))))
      | 20, _ => exact (.inr (.inr (.inr (.inr (.inr (.inr (.inr (.inr (.inr (.inr (.inr (.inr (.inr (.inr (.inr (.inr (.inr (.inr (.inr (.inr (.inl rfl)))))))))))))))))))))
      | 21, _ => exact (.inr (.inr (.inr (.inr (.inr (.inr (.inr (.inr (.inr (.inr (.inr (.inr (.inr (.inr (.inr (.inr (.inr (.inr (.inr (.inr (.inr (.inl rfl))))))))))))))))))))))
      | 22, _ => exact (.inr (.inr (.inr (.inr (.inr (.inr (.inr (.inr (.inr (.inr (.inr (.inr (.inr (.inr (.inr (.inr (.inr (.inr (.inr (.inr (.inr (.inr (.inl rfl)))))))))))))))))))))))
      | 23, _ => exact (.inr (.inr (.inr (.inr (.inr (.inr (.inr (.inr (.inr (.inr (.inr (.inr (.inr (.inr (.inr (.inr (.inr (.inr (.inr (.inr (.inr (.inr (.inr (.inl rfl))))))))))))))))))))))))
      | 24, _ => exact (.inr (.inr (.inr (.inr (.inr (.inr (.inr (.inr (.inr (.inr (.inr (.inr (.inr (.inr (.inr (.inr (.inr (.inr (.inr (.inr (.inr (.inr (.inr (.inr (.inl rfl)))))))))))))))))))))))))
      | 25, _ => exact (.inr (.inr (.inr (.inr (.inr (.inr (.inr (.inr (.inr (.inr (.inr (.inr (.inr (.inr (.inr (.inr (.inr (.inr (.inr (.inr (.inr (.inr (.inr (.inr (.inr (.inl rfl))))))))))))))))))))))))))
      | 26, _ => exact (.inr (.inr (.inr (.inr (.inr (.inr (.inr (.inr (.inr (.inr (.inr (.inr (.inr (.inr (.inr (.inr (.inr (.inr (.inr (.inr (.inr (.inr (.inr (.inr (.inr (.inr (.inl rfl)))))))))))))))))))))))))))
      | 27, _ => exact (.inr (.inr (.inr (.inr (.inr (.inr (.inr (.inr (.inr (.inr (.inr (.inr (.inr (.inr (.inr (.inr (.inr (.inr (.inr (.inr (.inr (.inr (.inr (.inr (.inr (.inr (.inr (.inl rfl))))))))))))))))))))))))))))
      | 28, _ => exact (.inr (.inr (.inr (.inr (.inr (.inr (.inr (.inr (.inr (.inr (.inr (.inr (.inr (.inr (.inr (.inr (.inr (.inr (.inr (.inr (.inr (.inr (.inr (.inr (.inr (.inr (.inr (.inr (.inl rfl)))))))))))))))))))))))))))))
      | 29, _ => exact (.inr (.inr (.inr (.inr (.inr (.inr (.inr (.inr (.inr (.inr (.inr (.inr (.inr (.inr (.inr (.inr (.inr (.inr (.inr (.inr (.inr (.inr (.inr (.inr (.inr (.inr (.inr (.inr (.inr (.inl rfl))))))))))))))))))))))))))))))
      | 30, _ => exact (.inr (.inr (.inr (.inr (.inr (.inr (.inr (.inr (.inr (.inr (.inr (.inr (.inr (.inr (.inr (.inr (.inr (.inr (.inr (.inr (.inr (.inr (.inr (.inr (.inr (.inr (.inr (.inr (.inr (.inr (.inl rfl)))))))))))))))))))))))))))))))
      | 31, _ => exact (.inr (.inr (.inr (.inr (.inr (.inr (.inr (.inr (.inr (.inr (.inr (.inr (.inr (.inr (.inr (.inr (.inr (.inr (.inr (.inr (.inr (.inr (.inr (.inr (.inr (.inr (.inr (.inr (.inr (.inr (.inr (.inl rfl))))))))))))))))))))))))))))))))
      | 32, _ => exact (.inr (.inr (.inr (.inr (.inr (.inr (.inr (.inr (.inr (.inr (.inr (.inr (.inr (.inr (.inr (.inr (.inr (.inr (.inr (.inr (.inr (.inr (.inr (.inr (.inr (.inr (.inr (.inr (.inr (.inr (.inr (.inr (.inl rfl)))))))))))))))))))))))))))))))))
      | 33, _ => exact (.inr (.inr (.inr (.inr (.inr (.inr (.inr (.inr (.inr (.inr (.inr (.inr (.inr (.inr (.inr (.inr (.inr (.inr (.inr (.inr (.inr (.inr (.inr (.inr (.inr (.inr (.inr (.inr (.inr (.inr (.inr (.inr (.inr (.inl rfl))))))))))))))))))))))))))))))))))
      | 34, _ => exact (.inr (.inr (.inr (.inr (.inr (.inr (.inr (.inr (.inr (.inr (.inr (.inr (.inr (.inr (.inr (.inr (.inr (.inr (.inr (.inr (.inr (.inr (.inr (.inr (.inr (.inr (.inr (.inr (.inr (.inr (.inr (.inr (.inr (.inr (.inl rfl)))))))))))))))))))))))))))))))))))
      | 35, _ => exact (.inr (.inr (.inr (.inr (.inr (.inr (.inr (.inr (.inr (.inr (.inr (.inr (.inr (.inr (.inr (.inr (.inr (.inr (.inr (.inr (.inr (.inr (.inr (.inr (.inr (.inr (.inr (.inr (.inr (.inr (.inr (.inr (.inr (.inr (.inr rfl)))))))))))))))))))))))))))))))))))
      | n + 36, h => omega
    · refine rname_no k (fun n hn => ?_) ?_ ?_ ?_ ?_ w
      · rw [beq_eq_false_iff_ne]
        rintro rfl
        simp only [List.mem_cons, List.not_mem_nil, or_false] at hn
        omega
      · by_cases h1 : 35 ≤ k
        · exact .inr ⟨decide_eq_true h1, decide_eq_false (by omega)⟩
        · exact .inl (decide_eq_false h1)
      · by_cases h1 : 48 ≤ k
        · exact .inr ⟨decide_eq_true h1, decide_eq_false (by omega)⟩
        · exact .inl (decide_eq_false h1)
      · by_cases h1 : 64 ≤ k
        · exact .inr ⟨decide_eq_true h1, decide_eq_false (by omega)⟩
        · exact .inl (decide_eq_false h1)
      · by_cases h1 : 112 ≤ k
        · exact .inr ⟨decide_eq_true h1, decide_eq_false (by omega)⟩
        · exact .inl (decide_eq_false h1)
set_option maxRecDepth 100000 in
theorem krows_pos (j : Nat) (h : j < krows.length) : 1 ≤ krows[j].1 := by
  have h' : j < 36 := h
  match j, h' with
  | 0, _ => exact of_decide_eq_true rfl
  | 1, _ => exact of_decide_eq_true rfl
  | 2, _ => exact of_decide_eq_true rfl
  | 3, _ => exact of_decide_eq_true rfl
  | 4, _ => exact of_decide_eq_true rfl
  | 5, _ => exact of_decide_eq_true rfl
  | 6, _ => exact of_decide_eq_true rfl
  | 7, _ => exact of_decide_eq_true rfl
  | 8, _ => exact of_decide_eq_true rfl
  | 9, _ => exact of_decide_eq_true rfl
  | 10, _ => exact of_decide_eq_true rfl
  | 11, _ => exact of_decide_eq_true rfl
  | 12, _ => exact of_decide_eq_true rfl
  | 13, _ => exact of_decide_eq_true rfl
  | 14, _ => exact of_decide_eq_true rfl
  | 15, _ => exact of_decide_eq_true rfl
  | 16, _ => exact of_decide_eq_true rfl
  | 17, _ => exact of_decide_eq_true rfl
  | 18, _ => exact of_decide_eq_true rfl
  | 19, _ => exact of_decide_eq_true rfl
  | 20, _ => exact of_decide_eq_true rfl
  | 21, _ => exact of_decide_eq_true rfl
  | 22, _ => exact of_decide_eq_true rfl
  | 23, _ => exact of_decide_eq_true rfl
  | 24, _ => exact of_decide_eq_true rfl
  | 25, _ => exact of_decide_eq_true rfl
  | 26, _ => exact of_decide_eq_true rfl
  | 27, _ => exact of_decide_eq_true rfl
  | 28, _ => exact of_decide_eq_true rfl
  | 29, _ => exact of_decide_eq_true rfl
  | 30, _ => exact of_decide_eq_true rfl
  | 31, _ => exact of_decide_eq_true rfl
  | 32, _ => exact of_decide_eq_true rfl
  | 33, _ => exact of_decide_eq_true rfl
  | 34, _ => exact of_decide_eq_true rfl
  | 35, _ => exact of_decide_eq_true rfl
  | n + 36, h => omega
set_option maxRecDepth 100000 in
theorem keys_idx : (List.range 36).all (fun i => (List.range 36).all fun j => decide ((krows.map Prod.fst)[i]? = (krows.map Prod.fst)[j]? → i = j)) = true := by kernel_rfl
theorem key_once {r r' : Int × ByteArray × Value} (h : r ∈ krows) (h' : r' ∈ krows) (e : r.1 = r'.1) : r.2.1 = r'.2.1 := by
  obtain ⟨i, hi, rfl⟩ := List.mem_iff_getElem.1 h
  obtain ⟨j, hj, rfl⟩ := List.mem_iff_getElem.1 h'
  have hi' : i < 36 := hi
  have hj' : j < 36 := hj
  have h1 := List.all_eq_true.1 (List.all_eq_true.1 keys_idx i (List.mem_range.2 hi')) j (List.mem_range.2 hj')
  have h2 := of_decide_eq_true h1 (by rw [List.getElem?_map, List.getElem?_map, List.getElem?_eq_getElem hi, List.getElem?_eq_getElem hj, Option.map_some, Option.map_some, e])
  subst h2
  rfl
theorem krows_top (j : Nat) (h : j < krows.length) : krows[j].1 < 200 := by
  have h1 : krows.all (fun r => decide (r.1 < 200)) = true := by kernel_rfl
  exact of_decide_eq_true (List.all_eq_true.1 h1 _ (List.getElem_mem h))
set_option maxRecDepth 100000 in
set_option maxHeartbeats 4000000 in
theorem rkind_any (v : V) (n₀ : Nat) (w : World) (hn : n₀ ≤ w.heap.size) (hl : Lies n₀ w v) :
    Calls Tryz.prog 45 #[v.val] w (KindPost (kindV v.k v.l) w) := by
  obtain ⟨k, n, s, a, c, e, l, rfl⟩ := V.ex v
  rw [V.k_of, V.l_of]
  have HM := hide hl
  have hll := hl.ok.c
  have hlc := hl.ok.l
  clear hl
  rw [V.val_of]
  by_cases hk : k = 24
  · subst hk
    by_cases h2 : l.length = 2
    · obtain ⟨x, y, rfl⟩ : ∃ x y, l = [x, y] := by
        match l, h2 with
        | [x, y], _ => exact ⟨x, y, rfl⟩
      rw [kindV_two]
      obtain ⟨b, o, rfl, hlt, hr⟩ := HM.out.row (by simp)
      have hx := HM.out.sub x (by simp)
      have hr0 := hr 0 (by simp)
      obtain ⟨W0, hW0⟩ : ∃ W0, w.alloc (Obj.cells #[.int .i64 24, .int .u64 n, .string s, .slice (some ⟨b, o, none⟩) 2 c, .int .i64 e] 42) = W0 := ⟨_, rfl⟩
      have hs0 : W0.heap.size = w.heap.size + 1 := by rw [← hW0]; simp
      have hb0 : Below w.heap.size w W0 := by rw [← hW0]; exact bel1 (Below.refl _ _) (Nat.le_refl _) _
      have hv0 : W0.cell? ⟨w.heap.size, 3, none⟩ = some (.slice (some ⟨b, o, none⟩) 2 c) := by
        rw [← hW0]
        unfold World.cell?
        simp only [World.alloc_heap_new]
        rfl
      have HC : Hid (∀ W', Below W0.heap.size W0 W' → W'.cell? ⟨w.heap.size, 3, none⟩ = some (.slice (some ⟨b, o, none⟩) 2 c) ∧ W'.cell? ⟨b, o, none⟩ = some (.int .i64 x.k) ∧ W'.cell? ⟨b, o + 1, none⟩ = some (.int .u64 x.n) ∧ W'.cell? ⟨b, o + 2, none⟩ = some (.string x.s) ∧ W'.cell? ⟨b, o + 3, none⟩ = some (.slice x.a x.l.length x.c) ∧ W'.cell? ⟨b, o + 4, none⟩ = some (.int .i64 x.e)) := by
        intro W' hb'
        have hbW := belOn hb0 (by omega) hb'
        have e1 : ∀ o', W'.cell? ⟨b, o', none⟩ = w.cell? ⟨b, o', none⟩ := fun o' => hbW.cell (p := ⟨b, o', none⟩) (by show b < _; omega)
        have e3 : W'.cell? ⟨w.heap.size, 3, none⟩ = W0.cell? ⟨w.heap.size, 3, none⟩ := hb'.cell (p := ⟨w.heap.size, 3, none⟩) (by show w.heap.size < _; omega)
        obtain ⟨q0, q1, q2, q3, q4⟩ := hr0
        exact ⟨e3.trans hv0, (e1 _).trans q0, (e1 _).trans q1, (e1 _).trans q2, (e1 _).trans q3, (e1 _).trans q4⟩
      have HX := hide hx
      have HW0 := hide hW0
      clear hx HM hW0 hr hr0 hv0
      show Calls Tryz.prog 45 #[.agg #[.int .i64 24, .int .u64 n, .string s, .slice (some ⟨b, o, none⟩) 2 c, .int .i64 e]] w _
      go_enter Tryz.func45, Tryz.ntmps45
      go_wp2
      rw [HW0.out]
      clear HW0
      go_loopw [4] (fun u wr => ∃ i : Nat, u = .int .i64 i ∧ 1 ≤ i ∧ i ≤ 200 ∧ Below W0.heap.size W0 wr ∧ Hid (∀ r ∈ krows, r.1 < i → isRow x.t r = false)) (fun u _ => 201 - (intOf u).toNat)
      case atStart => exact ⟨1, rfl, by omega, by omega, Below.refl _ _, fun r hr h => by
        obtain ⟨j, hj, rfl⟩ := List.mem_iff_getElem.1 hr
        have := (krows_pos j hj)
        omega⟩
      case round =>
        obtain ⟨i, rfl, hi1, hi, hb, HO⟩ := hrel
        have hsz := hb.size
        have hbw : Below w.heap.size w wr := belOn hb0 (by omega) hb
        by_cases h200 : i < 200
        · rcases rname_any (i : Int) with ⟨r, hr, hri, hrn, hrs, hN⟩ | ⟨hno, hN⟩
          · have HN := hide (hN wr)
            have HR := hide hr
            have HRI := hide hri
            have HRS := hide hrs
            generalize hm : r.2.1 = m1 at HN hrn HRS
            have HM1 := hide hm
            clear hN hr hri hm hrs
            go_wp2_with fail
            refine HN.out.mono ?_
            rintro e1 w1 ⟨rfl, hb1⟩
            have hb01 := belOn hb hsz hb1
            obtain ⟨p0, p1, p2, p3, p4, p5⟩ := HC.out _ hb01
            have hs1 := hb01.size
            have hbw1 : Below w.heap.size w w1 := belOn hb0 (by omega) hb01
            have hwl : w.heap.size < w1.heap.size := by omega
            have hbl : b < w1.heap.size := by omega
            have he := requal_any x (leaf 5 i ⟨#[]⟩) n₀ w1 (by omega) (HX.out.keep hbw1 hn) (leaf_lies _ _ _ _ _ (by decide) ⟨by omega, by omega⟩ (by decide))
            rw [leaf_val, V.val_eq] at he
            have HE := hide he
            clear he
            go_wp2_with fail
            refine HE.out.mono ?_
            rintro e2 w2 ⟨rfl, hb2⟩
            have hb02 := belOn hb01 hs1 hb2
            obtain ⟨q0, q1, q2, q3, q4, q5⟩ := HC.out _ hb02
            have hs2 := hb02.size
            have hbw2 : Below w.heap.size w w2 := belOn hb0 (by omega) hb02
            have hwl2 : w.heap.size < w2.heap.size := by omega
            have hbl2 : b < w2.heap.size := by omega
            have he2 := requal_any x (leaf 20 0 m1) n₀ w2 (by omega) (HX.out.keep hbw2 hn) (leaf_lies _ _ _ _ _ (by decide) (by decide) (by have := HRS.out; omega))
            rw [leaf_val, V.val_eq] at he2
            have HE2 := hide he2
            have HROW : Hid (isRow x.t r = (eqT x.t (leaf 5 i ⟨#[]⟩).t || eqT x.t (leaf 20 0 m1).t)) := by
              rw [Hid]; unfold isRow; rw [HRI.out, HM1.out]
            clear he2 p0 p1 p2 p3 p4 p5 HE
            generalize eqT x.t (leaf 5 i ⟨#[]⟩).t = A at HROW
            generalize eqT x.t (leaf 20 0 m1).t = B at HROW HE2
            go_wp2_with fail
            refine HE2.out.mono ?_
            rintro e3 w3 ⟨rfl, hb3⟩
            have hb03 := belOn hb02 hs2 hb3
            have hbw3 : Below w.heap.size w w3 := belOn hb0 (by omega) hb03
            have HYES : Hid (isRow x.t r = true → KindPost (kindL x.t krows) w (.returned (.tuple #[.int .i64 i, .bool true])) w3) := by
              intro hy
              have hk : kindL x.t krows = some (i : Int) := by
                cases hkk : kindL x.t krows with
                | none =>
                  have := kindL_none hkk r HR.out
                  rw [hy] at this
                  cases this
                | some k =>
                  obtain ⟨r', h1, h2, h3⟩ := kindL_some hkk
                  rw [← h2, ← row_once HR.out h1 hy h3, HRI.out]
              rw [hk]
              exact ⟨rfl, hbw3⟩
            have HNEXT : Hid (isRow x.t r = false → ∀ r' ∈ krows, r'.1 < ((i + 1 : Nat) : Int) → isRow x.t r' = false) := by
              intro hf r' h1 h2
              by_cases e : r'.1 = r.1
              · have : isRow x.t r' = isRow x.t r := by
                  have e2 := key_once h1 HR.out e
                  unfold isRow
                  rw [e, e2]
                rw [this, hf]
              · have := HRI.out
                exact HO.out r' h1 (by omega)
            clear HO HR HRI HM1 HE2 HN
            cases A <;> cases B
            · go_wp2
              go_roundw
              case rel => exact ⟨i + 1, by go_num, by omega, by omega, hb03, HNEXT.out HROW.out⟩
              case measure => simp [intOf]; omega
            · go_wp2
              exact bodyPost_ret (v := .tuple #[.int .i64 i, .bool true]) (by simp [results, Tryz.results45, go_sem]) rfl (HYES.out HROW.out)
            · go_wp2
              exact bodyPost_ret (v := .tuple #[.int .i64 i, .bool true]) (by simp [results, Tryz.results45, go_sem]) rfl (HYES.out HROW.out)
            · go_wp2
              exact bodyPost_ret (v := .tuple #[.int .i64 i, .bool true]) (by simp [results, Tryz.results45, go_sem]) rfl (HYES.out HROW.out)
          · have HN := hide (hN wr)
            have HNO := hide hno
            clear hN hno
            have HNEXT : Hid (∀ r' ∈ krows, r'.1 < ((i + 1 : Nat) : Int) → isRow x.t r' = false) := by
              intro r' h1 h2
              have := HNO.out r' h1
              exact HO.out r' h1 (by omega)
            clear HO HNO
            go_wp2_with fail
            refine HN.out.mono ?_
            rintro e1 w1 ⟨rfl, hb1⟩
            have hb01 := belOn hb hsz hb1
            go_wp2
            go_roundw
            case rel => exact ⟨i + 1, by go_num, by omega, by omega, hb01, HNEXT.out⟩
            case measure => simp [intOf]; omega
        · have hkn : kindL x.t krows = none := by
            cases hkk : kindL x.t krows with
            | none => rfl
            | some k =>
              obtain ⟨r', h1, h2, h3⟩ := kindL_some hkk
              obtain ⟨j, hj, hje⟩ := List.mem_iff_getElem.1 h1
              have h4 := (krows_top j hj)
              rw [hje] at h4
              have := HO.out r' h1 (by omega)
              rw [h3] at this
              cases this
          have HKN := hide hkn
          clear hkn HO
          go_wp2
          exact bodyPost_ret (v := .tuple #[.int .i64 0, .bool false]) (by simp [results, Tryz.results45, go_sem]) rfl ⟨by rw [HKN.out]; rfl, hbw⟩
    · rw [kindV_l _ h2]
      go_enter Tryz.func45, Tryz.ntmps45
      have h2' : ((l.length : Int) == 2) = false := by rw [beq_eq_false_iff_ne]; omega
      have h2n : ((l.length : Int) != 2) = true := by simpa using h2'
      go_wp2
      exact bodyPost_ret (v := .tuple #[.int .i64 0, .bool false]) (by simp [results, Tryz.results45, go_sem]) rfl ⟨rfl, bel1 (Below.refl _ _) (Nat.le_refl _) _⟩
  · rw [kindV_k hk]
    go_enter Tryz.func45, Tryz.ntmps45
    have hkb : ((k : Int) == 24) = false := by simpa using hk
    have hkn : (k != 24) = true := by simpa using hk
    go_wp2
    exact bodyPost_ret (v := .tuple #[.int .i64 0, .bool false]) (by simp [results, Tryz.results45, go_sem]) rfl ⟨rfl, bel1 (Below.refl _ _) (Nat.le_refl _) _⟩
end Go.Proofs.YtgldcchleoklcaaGreatDoor
