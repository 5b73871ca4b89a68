/- CEnc, CEncode, CNum -/
import Derived.Test.YthhlpjhkeendcaaGreatDoorS15
import Derived.Test.YthhlpjhkeendcaaGreatDoorS30
import Derived.Test.YthhlpjhkeendcaaGreatDoorS07
import Derived.Test.YthhlpjhkeendcaaGreatDoorS24
import Derived.Laws.MakeOwn
namespace Go.Proofs.YthhlpjhkeendcaaGreatDoor
open Go.RowKit
set_option linter.unusedVariables false
set_option linter.unusedSimpArgs false
theorem data_t (k n : Int) (s : ByteArray) (a : Option Addr) (c0 : Nat) (e : Int) (l : List V) (c : Nat) : T.data (V.of k n s a c0 e l).t c =
    (if c / 16 = 4 then []
    else if c / 16 = 10 then digs (T.body (V.of k n s a c0 e l).t) 1 ++ txt s
    else if c / 16 = 11 then digs (T.body (V.of k n s a c0 e l).t) 4 ++ txt s
    else if c / 16 = 9 then txt s
    else if c / 16 = 14 then digs (1 + T.body (V.of k n s a c0 e l).t) 1 ++ (digs l.length 1 ++ (T.acode (V.of k n s a c0 e l).t :: datas (T.acode (V.of k n s a c0 e l).t) (V.ts l)))
    else if c / 16 = 15 then digs (4 + T.body (V.of k n s a c0 e l).t) 4 ++ (digs l.length 4 ++ (T.acode (V.of k n s a c0 e l).t :: datas (T.acode (V.of k n s a c0 e l).t) (V.ts l)))
    else if c / 16 = 12 then digs (1 + T.body (V.of k n s a c0 e l).t) 1 ++ (digs l.length 1 ++ encs (V.ts l))
    else if c / 16 = 13 then digs (4 + T.body (V.of k n s a c0 e l).t) 4 ++ (digs l.length 4 ++ encs (V.ts l))
    else if c / 16 = 0 then encs (V.ts l)
    else digs n.toNat (nwid c)) := by
  rw [V.t_of, T.of, data_of, V.ts_length]
section
variable (B : Nat → ByteArray → Int) (W : List T → Bool)
set_option maxHeartbeats 1000000 in
theorem data_any : ∀ x, DataOk B W x := by
  refine V.ind ?_
  intro k n s a c0 e l ih f c n₀ g cap xs w hg hc hl hn h0 hT hb hcap hroom
  obtain ⟨hf, own, sub⟩ := gd_own B W hg
  have hkc := kind_code hc (by rw [V.t_of]; exact own.k0) (by rw [V.t_of]; exact own.k1)
  have hbl := hb.lt
  have hnw : n₀ ≤ w.heap.size := by omega
  have ok := hl.ok
  have o3 := ok.c
  have hc' := fits_cases hc
  rw [V.t_of] at hc'
  rw [T_k, show (T.of k n s e (V.ts l)).n = n from rfl, show (T.of k n s e (V.ts l)).l = V.ts l from V.l_of _ _ _ _ _ _ _, V.ts_length] at hc'
  have k0 := own.k0
  have k1 := own.k1
  have hbd : T.body (V.of k n s a c0 e l).t ≤ 1000000000 := by omega
  have hes := encs_len B W l (f - 1) sub
  have hlw : ∀ x ∈ l, Lies n₀ w x := hl.sub
  rw [data_t]
  clear hc
  by_cases hl2 : k = 21 ∨ k = 22
  · have hbe := body_enc_t k n s a c0 e l (by omega)
    rw [← hes] at hbe
    have hcs : (c = 69 ∧ l.length = 0) ∨ c = 192 ∨ c = 208 ∨ c = 193 ∨ c = 209 := by
      rcases hl2 with rfl | rfl
      · have : pickC (21 : Int).toNat false = 208 ∧ pickC (21 : Int).toNat true = 192 := by decide
        rw [this.1, this.2] at hc'; omega
      · have : pickC (22 : Int).toNat false = 209 ∧ pickC (22 : Int).toNat true = 193 := by decide
        rw [this.1, this.2] at hc'; omega
    clear hc'
    have hcq : (c / 16 = 4) ∨ (c / 16 = 12 ∧ headC c = 2) ∨ (c / 16 = 13 ∧ headC c = 8) := by
      rcases hcs with ⟨rfl, _⟩ | rfl | rfl | rfl | rfl <;> decide
    rcases hcq with hq | ⟨hq, hh⟩ | ⟨hq, hh⟩
    · rw [if_pos hq, V.val_of]
      exact data_none k n s a c0 e l c _ g cap n₀ xs w hkc.2 hq hb
    · rw [if_neg (by omega), if_neg (by omega), if_neg (by omega), if_neg (by omega), if_neg (by omega), if_neg (by omega), if_pos hq]
      rw [hh] at hroom
      refine data_span12 k n s a c0 e l c _ g cap n₀ xs w hkc.2 hq hbd hcap (by omega) ?_ hl hn hb
      refine parts_of B W l ih (f - 1) n₀ g cap _ w sub hlw hn hnw h0 hT hcap ?_
      simp only [List.length_append, digs_length]
      omega
    · rw [if_neg (by omega), if_neg (by omega), if_neg (by omega), if_neg (by omega), if_neg (by omega), if_neg (by omega), if_neg (by omega), if_pos hq]
      rw [hh] at hroom
      refine data_span13 k n s a c0 e l c _ g cap n₀ xs w hkc.2 hq hbd hcap (by omega) ?_ hl hn hb
      refine parts_of B W l ih (f - 1) n₀ g cap _ w sub hlw hn hnw h0 hT hcap ?_
      simp only [List.length_append, digs_length]
      omega
  by_cases hd : k = 24
  · subst hd
    have hbe := body_enc_t 24 n s a c0 e l (by omega)
    rw [← hes] at hbe
    have hcs : c = 0 := by
      have : pickC (24 : Int).toNat false = 0 ∧ pickC (24 : Int).toNat true = 0 := by decide
      rw [this.1, this.2] at hc'; omega
    subst hcs
    rw [if_neg (by decide), if_neg (by decide), if_neg (by decide), if_neg (by decide), if_neg (by decide), if_neg (by decide), if_neg (by decide), if_neg (by decide), if_pos (by decide)]
    have hh0 : headC 0 = 0 := by decide
    rw [hh0] at hroom
    exact data_desc n s a c0 e l _ g cap n₀ xs w (parts_of B W l ih (f - 1) n₀ g cap xs w sub hlw hn hnw h0 hT hcap (by omega)) hl hn hb
  by_cases ha : k = 23
  · subst ha
    have hcs : (c / 16 = 14 ∧ headC c = 2) ∨ (c / 16 = 15 ∧ headC c = 8) := by
      have : pickC (23 : Int).toNat false = 240 ∧ pickC (23 : Int).toNat true = 224 := by decide
      rw [this.1, this.2] at hc'
      have : c = 240 ∨ c = 224 := by omega
      rcases this with rfl | rfl <;> decide
    have hac : T.acode (V.of 23 n s none 0 e (V.ts l)) = T.acode (V.of 23 n s a c0 e l).t := by rw [V.t_of, T.of]
    have hel : ∀ ys W1, Gro g w W1 → Buf W1 g cap ys → ys.length = xs.length + headC c → Calls Tryz.prog 56 #[.slice (some ⟨g, 0, none⟩) ys.length cap, .agg #[.int .i64 23, .int .u64 n, .string s, .slice a l.length c0, .int .i64 e]] W1 (Wrote W1 g cap ys (T.acode (V.of 23 n s a c0 e l).t :: datas (T.acode (V.of 23 n s a c0 e l).t) (V.ts l))) := fun ys W1 hW hbu hy => by
      have := writeElements_of B W n s a c0 e l ih f n₀ g cap ys W1 hg (hl.gro hW hn hnw) hn h0 (hT.gro hW h0) hbu hcap (by omega)
      rw [V.val_of] at this
      exact this
    rcases hcs with ⟨hq, hh⟩ | ⟨hq, hh⟩
    · rw [if_neg (by omega), if_neg (by omega), if_neg (by omega), if_neg (by omega), if_pos hq, V.val_of]
      rw [hh] at hel hroom
      first
        | exact data_arr14 n s a c0 e l c _ g cap n₀ xs w hkc.2 hq hbd hcap o3 (by omega) _ hel hb
        | (rw [hac]; exact data_arr14 n s a c0 e l c _ g cap n₀ xs w hkc.2 hq hbd hcap o3 (by omega) _ hel hb)
    · rw [if_neg (by omega), if_neg (by omega), if_neg (by omega), if_neg (by omega), if_neg (by omega), if_pos hq, V.val_of]
      rw [hh] at hel hroom
      first
        | exact data_arr15 n s a c0 e l c _ g cap n₀ xs w hkc.2 hq hbd hcap o3 (by omega) _ hel hb
        | (rw [hac]; exact data_arr15 n s a c0 e l c _ g cap n₀ xs w hkc.2 hq hbd hcap o3 (by omega) _ hel hb)
  by_cases ht : k = 18 ∨ k = 19 ∨ k = 20
  · have hbt : T.body (V.of k n s a c0 e l).t = s.size := by rw [V.t_of]; exact body_txt _ _ _ _ _ _ _ ht
    have hcq : (c / 16 = 10 ∧ headC c = 1) ∨ (c / 16 = 11 ∧ headC c = 4) := by
      have hcs : c = 160 ∨ c = 161 ∨ c = 163 ∨ c = 176 ∨ c = 177 ∨ c = 179 := by
        rcases ht with rfl | rfl | rfl
        · have : pickC (18 : Int).toNat false = 176 ∧ pickC (18 : Int).toNat true = 160 := by decide
          rw [this.1, this.2] at hc'; omega
        · have : pickC (19 : Int).toNat false = 177 ∧ pickC (19 : Int).toNat true = 161 := by decide
          rw [this.1, this.2] at hc'; omega
        · have : pickC (20 : Int).toNat false = 179 ∧ pickC (20 : Int).toNat true = 163 := by decide
          rw [this.1, this.2] at hc'; omega
      rcases hcs with rfl | rfl | rfl | rfl | rfl | rfl <;> decide
    rcases hcq with ⟨hq, hh⟩ | ⟨hq, hh⟩
    · rw [if_neg (by omega), if_pos hq, V.val_of]
      exact data_text10 k n s a c0 e l c _ g cap n₀ xs w hkc.2 hq hbt hbd (by omega) hb
    · rw [if_neg (by omega), if_neg (by omega), if_pos hq, V.val_of]
      exact data_text11 k n s a c0 e l c _ g cap n₀ xs w hkc.2 hq hbt hbd (by omega) hb
  by_cases h6 : k = 14 ∨ k = 17
  · have hcq : c / 16 = 9 ∧ headC c = 16 := by
      have hcs : c = 148 ∨ c = 152 := by
        rcases h6 with rfl | rfl
        · have : pickC (14 : Int).toNat false = 148 ∧ pickC (14 : Int).toNat true = 148 := by decide
          rw [this.1, this.2] at hc'; omega
        · have : pickC (17 : Int).toNat false = 152 ∧ pickC (17 : Int).toNat true = 152 := by decide
          rw [this.1, this.2] at hc'; omega
      rcases hcs with rfl | rfl <;> decide
    obtain ⟨hq, hh⟩ := hcq
    rw [if_neg (by omega), if_neg (by omega), if_neg (by omega), if_pos hq, V.val_of]
    exact data_six k n s a c0 e l c _ g cap n₀ xs w hkc.2 hq (own.six h6) (by omega) hb
  · have hcs : c / 16 = 4 ∨ c / 16 = 5 ∨ c / 16 = 6 ∨ c / 16 = 7 ∨ c / 16 = 8 := by
      have : k = 0 ∨ k = 1 ∨ k = 2 ∨ k = 3 ∨ k = 4 ∨ k = 5 ∨ k = 6 ∨ k = 7 ∨ k = 8 ∨ k = 9 ∨ k = 10 ∨ k = 11 ∨ k = 12 ∨ k = 13 ∨ k = 15 ∨ k = 16 := by omega
      rcases this with rfl | rfl | rfl | rfl | rfl | rfl | rfl | rfl | rfl | rfl | rfl | rfl | rfl | rfl | rfl | rfl <;> simp [pickC, codeS, codeL] at hc' <;> omega
    rcases Nat.decEq (c / 16) 4 with h4 | h4
    · have h58 : c / 16 = 5 ∨ c / 16 = 6 ∨ c / 16 = 7 ∨ c / 16 = 8 := by omega
      rw [if_neg (by omega), if_neg (by omega), if_neg (by omega), if_neg (by omega), if_neg (by omega), if_neg (by omega), if_neg (by omega), if_neg (by omega), if_neg (by omega), V.val_of]
      have hhd : headC c = nwid c := by
        unfold headC
        rw [if_neg (by omega), if_neg (by omega), if_neg (by omega), if_neg (by omega), if_neg (by omega), if_neg (by omega), if_neg (by omega), if_neg (by omega), if_neg (by omega)]
      exact data_num k n s a c0 e l c _ g cap n₀ xs w hkc.2 h58 own.n0 own.n1 (by omega) hb
    · rw [if_pos h4, V.val_of]
      exact data_none k n s a c0 e l c _ g cap n₀ xs w hkc.2 h4 hb
end
def chkE (v : V) : Int := firstE checkZ (v.all 1)
def encE (v : V) : Int := if chkE v ≠ 0 then chkE v else if 1048576 < T.len v.t then 2 else 0
theorem wts_map (l : List T) : T.wts l = (l.map T.wt).sum := (wts_sum l).symm
theorem sum_le (l : List V) (f g : V → Nat) (h : ∀ x ∈ l, f x ≤ g x) : (l.map f).sum ≤ (l.map g).sum := by
  induction l with
  | nil => simp
  | cons x l ih =>
    have h1 := h x (by simp)
    have h2 := ih (fun y hy => h y (by simp [hy]))
    simp; omega
theorem sum_mul (l : List V) (f : V → Nat) (m : Nat) : (l.map fun x => m * f x).sum = m * (l.map f).sum := by
  induction l with
  | nil => simp
  | cons x l ih => simp [ih, Nat.mul_add]
theorem wt_of' (k n : Int) (s : ByteArray) (a : Option Addr) (c : Nat) (e : Int) (l : List V) : T.wt (V.of k n s a c e l) = 1 + s.size / 64 + (l.map T.wt).sum := by
  unfold T.wt
  rw [V.fold_of]
theorem body_wt (B : Nat → ByteArray → Int) (W : List T → Bool) : ∀ t : T, ∀ f, Gd B W t f → T.body t + 17 ≤ 200 * T.wt t := by
  refine V.ind ?_
  intro k n s a c e l ih f hg
  obtain ⟨hf, own, sub⟩ := (Gd_of _ _ _ _ _ _ _ _ _ _).1 hg
  rw [wt_of']
  have h1 : ∀ x ∈ l, T.body x + 17 ≤ 200 * T.wt x := fun x hx => ih x hx (f - 1) (sub x hx)
  have hk : ∀ x ∈ l, 0 ≤ x.k ∧ x.k ≤ 24 := fun x hx => by
    have := sub x hx
    obtain ⟨k', n', s', a', c', e', l', rfl⟩ := V.ex x
    have o := ((Gd_of _ _ _ _ _ _ _ _ _ _).1 this).2.1
    exact ⟨o.k0, o.k1⟩
  by_cases ht : k = 18 ∨ k = 19 ∨ k = 20
  · rw [body_txt _ _ _ _ _ _ _ ht]; omega
  by_cases ha : k = 23
  · subst ha
    rw [body_arr]
    have hfit := fits_acode (n := n) (s := s) (a := a) (c := c) (own.isArr rfl).2.2.2.2
    obtain ⟨ac, hac⟩ : ∃ ac, T.acode (V.of 23 n s a c e l) = ac := ⟨_, rfl⟩
    rw [hac] at hfit ⊢
    have h2 := sum_le l (fun x => headC ac + T.body x) (fun x => 200 * T.wt x) (fun x hx => by
      have h3 := h1 x hx
      have h4 := (fits_lay (hfit x hx) (hk x hx).1 (hk x hx).2).2
      show headC ac + T.body x ≤ _
      omega)
    rw [sum_plus, sum_mul] at h2
    omega
  · have hb : T.body (V.of k n s a c e l) = (l.map T.len).sum := by
      rw [body_of]
      unfold bodyG
      rw [if_neg (by simp; omega), if_neg (by simp; omega), List.map_map]
      rfl
    rw [hb]
    have h2 := sum_le l T.len (fun x => 200 * T.wt x) (fun x hx => by
      have h3 := h1 x hx
      have h4 := (fits_lay (.inl rfl : FitsC x (T.code x)) (hk x hx).1 (hk x hx).2).2
      unfold T.len
      omega)
    rw [sum_mul] at h2
    omega
theorem run_make8 (c : Nat) (hc : c ≤ 4398046511104) (w : World) :
    (Instr.makeSlice 28 (.int .i64 0) (.int .i64 (c : Int))).run Tryz.prog w = .ok (.slice (some ⟨w.heap.size, 0, none⟩) 0 c) (w.alloc (.cells (madeCells #[.int .u8 0] c) 5)) := by
  obtain ⟨i, hi, hzz⟩ := Option.map_eq_some_iff.1 Tryz.info5
  simp only [Prod.mk.injEq] at hzz
  obtain ⟨hz, hs, hb⟩ := hzz
  have hr := run_make (P := Tryz.prog) w 28 5 i _ Tryz.underlying28 hi hz .i64 .i64 0 c (by omega) (by omega) (by rw [hb]; omega) (by omega)
  simp only [Int.toNat_natCast, hs, Nat.mul_one] at hr
  exact hr
theorem buf_new (w : World) (c : Nat) (hc : c ≤ 1000000000000) : Buf (w.alloc (.cells (madeCells #[.int .u8 0] c) 5)) w.heap.size c [] :=
  World.ownsRow_made w (madeCells #[.int .u8 0] c) c (Nat.le_refl _) (by unfold maxLen; omega) (by rw [size_madeCells]; omega)
set_option maxRecDepth 100000 in
set_option maxHeartbeats 1000000 in
theorem length_any (v : V) (n₀ : Nat) (w : World) (hn : n₀ ≤ w.heap.size) (hl : Lies n₀ w v) (hT : SzTab w) (hU : Lib.Utf8Tabs 1 2 w) (hw : T.wt v.t ≤ 5000000) :
    Calls Tryz.prog 9 #[v.val] w fun e w' => e = .returned (.tuple #[.int .i64 (if encE v = 0 then ((T.len v.t : Nat) : Int) else 0), .int .i64 (encE v)]) ∧ Below w.heap.size w w' := by
  have HCK : Hid (∀ W1, Below w.heap.size w W1 → Calls Tryz.prog 23 #[.agg #[.int .i64 v.k, .int .u64 v.n, .string v.s, .slice v.a v.l.length v.c, .int .i64 v.e]] W1 fun e w' => e = .returned (.int .i64 (chkE v)) ∧ Below W1.heap.size W1 w') := fun W1 hW => by
    have := check_any v n₀ W1 (by have := hW.size; omega) (hl.keep hW hn) (tabs_below hU hW)
    rw [V.val_eq] at this
    exact this
  have hgd : chkE v = 0 → Gd badB twiceW v.t 32 := (check_iff n₀ w v hl).1
  have HLN : Hid (chkE v = 0 → ∀ W1, Below w.heap.size w W1 → Calls Tryz.prog 24 #[.agg #[.int .i64 v.k, .int .u64 v.n, .string v.s, .slice v.a v.l.length v.c, .int .i64 v.e]] W1 fun e w' => e = .returned (.int .i64 ((T.len v.t : Nat) : Int)) ∧ Below W1.heap.size W1 w') := fun h0 W1 hW => by
    have hb := body_wt _ _ _ _ (hgd h0)
    have := length_of badB twiceW v (body_any _ _ v) 32 n₀ W1 (by have := hW.size; omega) (hl.keep hW hn) (hT.below hW) (hgd h0) (by omega)
    rw [V.val_eq] at this
    exact this
  have hbx := bel1 (Below.refl w.heap.size w) (Nat.le_refl _) (Obj.cells #[.int .i64 v.k, .int .u64 v.n, .string v.s, .slice v.a v.l.length v.c, .int .i64 v.e] 25)
  obtain ⟨W0, hW0⟩ : ∃ W0, w.alloc (Obj.cells #[.int .i64 v.k, .int .u64 v.n, .string v.s, .slice v.a v.l.length v.c, .int .i64 v.e] 25) = W0 := ⟨_, rfl⟩
  have HC : Hid (∀ W1, Below W0.heap.size W0 W1 → BoxC W1 w.heap.size v ∧ w.heap.size < W1.heap.size) := fun W1 hW => by
    have hz : w.heap.size < W0.heap.size := by rw [← hW0]; simp
    have hh : W1.heap[w.heap.size]? = some (.cells #[.int .i64 v.k, .int .u64 v.n, .string v.s, .slice v.a v.l.length v.c, .int .i64 v.e] 25) := (hW.block _ hz).trans (by rw [← hW0]; exact World.alloc_heap_new _ _)
    refine ⟨?_, by have := hW.size; omega⟩
    simp [BoxC, World.cell?, hh]
  rw [hW0] at hbx
  have HW0 := hide hW0
  have hszW : w.heap.size ≤ W0.heap.size := by rw [← hW0]; simp
  unfold encE
  clear hl hT hU hgd hW0 hw
  rw [V.val_eq]
  generalize chkE v = z at HCK HLN ⊢
  generalize T.len v.t = ln at HLN ⊢
  by_cases hz : z = 0
  · subst hz
    simp only [ne_eq, not_true_eq_false, if_false]
    have HLN' := hide (HLN.out rfl)
    clear HLN
    by_cases hlong : 1048576 < ln
    · simp only [hlong, if_true]
      go_enter Tryz.func9, Tryz.ntmps9
      go_wp2_with fail
      rw [HW0.out]
      refine Calls.mono (HCK.out _ hbx) ?_
      rintro e1 w1 ⟨rfl, hb1⟩
      obtain ⟨⟨c0, c1, c2, c3, c4⟩, hlt⟩ := HC.out w1 hb1
      have hb2 := belOn hbx hszW hb1
      go_wp2_with fail
      refine Calls.mono (HLN'.out _ hb2) ?_
      rintro e3 w3 ⟨rfl, hb3⟩
      go_wp2
      go_ret2
      exact ⟨rfl, belOn hb2 (by omega) hb3⟩
    · simp only [hlong, if_false]
      go_enter Tryz.func9, Tryz.ntmps9
      go_wp2_with fail
      rw [HW0.out]
      refine Calls.mono (HCK.out _ hbx) ?_
      rintro e1 w1 ⟨rfl, hb1⟩
      obtain ⟨⟨c0, c1, c2, c3, c4⟩, hlt⟩ := HC.out w1 hb1
      have hb2 := belOn hbx hszW hb1
      go_wp2_with fail
      refine Calls.mono (HLN'.out _ hb2) ?_
      rintro e3 w3 ⟨rfl, hb3⟩
      go_wp2
      go_ret2
      exact ⟨rfl, belOn hb2 (by omega) hb3⟩
  · have hzb : (z == 0) = false := by rw [beq_eq_false_iff_ne]; exact hz
    simp only [ne_eq, hz, not_false_eq_true, if_true, if_false]
    clear HLN
    go_enter Tryz.func9, Tryz.ntmps9
    go_wp2_with fail
    rw [HW0.out]
    refine Calls.mono (HCK.out _ hbx) ?_
    rintro e1 w1 ⟨rfl, hb1⟩
    have hb2 := belOn hbx hszW hb1
    go_wp2
    go_ret2
    exact ⟨rfl, hb2⟩
theorem boxC_gro {w w' : World} {g b : Nat} {v : V} (h : BoxC w b v) (hg : Gro g w w') (hlt : b < g) : BoxC w' b v := by
  have hb : b < w.heap.size := block_lt_of_cell h.1
  have hh := hg.block b hb (by simp; omega)
  obtain ⟨h0, h1, h2, h3, h4⟩ := h
  exact ⟨(World.cell?_of_block hh).trans h0, (World.cell?_of_block hh).trans h1, (World.cell?_of_block hh).trans h2, (World.cell?_of_block hh).trans h3, (World.cell?_of_block hh).trans h4⟩
theorem belT {n : Nat} {a b c : World} (h : Below n a b) (k : Below n b c) : Below n a c := h.trans k
def EncOut (v : V) (w : World) (e : Ending) (w' : World) : Prop :=
  (encE v ≠ 0 ∧ e = .returned (.tuple #[.slice none 0 0, .int .i64 (encE v)]) ∧ Below w.heap.size w w') ∨
  (encE v = 0 ∧ ∃ g, e = .returned (.tuple #[.slice (some ⟨g, 0, none⟩) (T.len v.t) (T.len v.t), .int .i64 0]) ∧ Hid (w.heap.size ≤ g ∧ Buf w' g (T.len v.t) (T.enc v.t) ∧ (T.enc v.t).length = T.len v.t ∧ Gd badB twiceW v.t 32 ∧ T.len v.t ≤ 1048576) ∧ Below w.heap.size w w')
set_option maxRecDepth 100000 in
set_option maxHeartbeats 1000000 in
theorem encode_any (v : V) (n₀ : Nat) (w : World) (hn : n₀ ≤ w.heap.size) (hl : Lies n₀ w v) (hT : SzTab w) (hU : Lib.Utf8Tabs 1 2 w) (hw : T.wt v.t ≤ 5000000) :
    Calls Tryz.prog 8 #[v.val] w (EncOut v w) := by
  have HLE : Hid (∀ W1, Below w.heap.size w W1 → Calls Tryz.prog 9 #[.agg #[.int .i64 v.k, .int .u64 v.n, .string v.s, .slice v.a v.l.length v.c, .int .i64 v.e]] W1 fun e w' => e = .returned (.tuple #[.int .i64 (if encE v = 0 then ((T.len v.t : Nat) : Int) else 0), .int .i64 (encE v)]) ∧ Below W1.heap.size W1 w') := fun W1 hW => by
    have := length_any v n₀ W1 (by have := hW.size; omega) (hl.keep hW hn) (hT.below hW) (tabs_below hU hW) hw
    rw [V.val_eq] at this
    exact this
  have hbx := bel1 (Below.refl w.heap.size w) (Nat.le_refl _) (Obj.cells #[.int .i64 v.k, .int .u64 v.n, .string v.s, .slice v.a v.l.length v.c, .int .i64 v.e] 25)
  obtain ⟨W0, hW0⟩ : ∃ W0, w.alloc (Obj.cells #[.int .i64 v.k, .int .u64 v.n, .string v.s, .slice v.a v.l.length v.c, .int .i64 v.e] 25) = W0 := ⟨_, rfl⟩
  have HC : Hid (∀ W1, Below W0.heap.size W0 W1 → BoxC W1 w.heap.size v ∧ w.heap.size < W1.heap.size) := fun W1 hW => by
    have hz : w.heap.size < W0.heap.size := by rw [← hW0]; simp
    have hh : W1.heap[w.heap.size]? = some (.cells #[.int .i64 v.k, .int .u64 v.n, .string v.s, .slice v.a v.l.length v.c, .int .i64 v.e] 25) := (hW.block _ hz).trans (by rw [← hW0]; exact World.alloc_heap_new _ _)
    refine ⟨?_, by have := hW.size; omega⟩
    simp [BoxC, World.cell?, hh]
  rw [hW0] at hbx
  have HW0 := hide hW0
  have hszW : w.heap.size ≤ W0.heap.size := by rw [← hW0]; simp
  by_cases hz : encE v = 0
  · have hck : chkE v = 0 ∧ T.len v.t ≤ 1048576 := by
      unfold encE at hz
      by_cases h1 : chkE v = 0
      · simp only [h1, ne_eq, not_true_eq_false, if_false] at hz
        refine ⟨h1, ?_⟩
        split at hz
        · omega
        · omega
      · simp [h1] at hz
    have hg : Gd badB twiceW v.t 32 := (check_iff n₀ w v hl).1 hck.1
    have hel := enc_len _ _ _ _ hg
    have HWR : Hid (∀ g W1, Below w.heap.size w W1 → w.heap.size ≤ g → Buf W1 g (T.len v.t) [] → Calls Tryz.prog 22 #[.slice (some ⟨g, 0, none⟩) 0 ((T.len v.t : Nat)), .agg #[.int .i64 v.k, .int .u64 v.n, .string v.s, .slice v.a v.l.length v.c, .int .i64 v.e]] W1 (Wrote W1 g (T.len v.t) [] (T.enc v.t))) := fun g W1 hW hgw hbu => by
      have h0 := hT.lt
      have := write_of badB twiceW v (data_any _ _ v) 32 n₀ g (T.len v.t) [] W1 hg (hl.keep hW hn) (by omega) (by omega) (hT.below hW) hbu (by omega) (by simp)
      rw [V.val_eq] at this
      exact this
    have HEL := hide hel
    have HG := hide hg
    have hll := hck.2
    have HMK := run_make8 (T.len v.t) (by omega)
    rw [hz] at HLE
    simp only [if_true] at HLE
    have HZ := hide hz
    have HBN : Hid (∀ W1 : World, Buf (W1.alloc (.cells (madeCells #[.int .u8 0] (T.len v.t)) 5)) W1.heap.size (T.len v.t) []) := fun W1 => buf_new W1 _ (by omega)
    obtain ⟨ln, hln⟩ : ∃ ln, T.len v.t = ln := ⟨_, rfl⟩
    have HLN := hide hln
    rw [hln] at HLE HWR HMK HBN HEL hll
    clear hl hT hU hW0 hw hel hg hck hz hln
    rw [V.val_eq]
    go_enter Tryz.func8, Tryz.ntmps8
    go_wp2_with fail
    rw [HW0.out]
    refine Calls.mono (HLE.out _ hbx) ?_
    rintro e1 w1 ⟨rfl, hb1⟩
    obtain ⟨⟨c0, c1, c2, c3, c4⟩, hlt⟩ := HC.out w1 hb1
    have hb2 := belOn hbx hszW hb1
    have HB2 : Hid (Below w.heap.size w (w1.drew.alloc (.cells (madeCells #[.int .u8 0] ln) 5))) := hb2.drew.alloc (by show w.heap.size ≤ w1.heap.size; omega) _
    have HBU : Hid (Buf (w1.drew.alloc (.cells (madeCells #[.int .u8 0] ln) 5)) w1.heap.size ln []) := HBN.out w1.drew
    have hle1 : w.heap.size ≤ w1.heap.size := by omega
    have HC1 : Hid (BoxC w1.drew w.heap.size v) := ⟨c0, c1, c2, c3, c4⟩
    have HC2 : Hid (BoxC (w1.drew.alloc (.cells (madeCells #[.int .u8 0] ln) 5)) w.heap.size v) := (HC.out _ ((hb1.drew).alloc (by show W0.heap.size ≤ w1.heap.size; exact hb1.size) _)).1
    go_wp2_with fail
    go_region_held (fun W1 => W1.cell? ⟨w.heap.size, 0, none⟩ = some (.int .i64 v.k) ∧ W1.cell? ⟨w.heap.size, 1, none⟩ = some (.int .u64 v.n) ∧ W1.cell? ⟨w.heap.size, 2, none⟩ = some (.string v.s) ∧ W1.cell? ⟨w.heap.size, 3, none⟩ = some (.slice v.a v.l.length v.c) ∧ W1.cell? ⟨w.heap.size, 4, none⟩ = some (.int .i64 v.e)) (first | exact HC3.out | exact HC2.out | exact HC1.out) ((go_at_call 22; refine Calls.mono (HWR.out _ _ HB2.out hle1 HBU.out) ?_; rintro e3 w3 ⟨rfl, HH3⟩; have HC3 : Hid (BoxC w3 w.heap.size v) := boxC_gro HC2.out HH3.out.2 hlt))
    go_wp2
    go_ret2
    have hh := HH3.out
    rw [List.nil_append] at hh
    refine .inr ⟨HZ.out, w1.heap.size, ?_, ⟨hle1, ?_, ?_, HG.out, ?_⟩, ?_⟩
    · rw [HLN.out]
      simp [HEL.out]
    · rw [HLN.out]; exact hh.1
    · rw [HLN.out]; exact HEL.out
    · rw [HLN.out]; exact hll
    · have := Gro.below hh.2 (n := w.heap.size) hle1 HB2.out.size
      exact belT HB2.out this
  · have HZ := hide hz
    have hzb : (encE v == 0) = false := by rw [beq_eq_false_iff_ne]; exact hz
    simp only [hz, if_false] at HLE
    clear hl hT hU hW0 hw hz
    rw [V.val_eq]
    unfold EncOut
    generalize encE v = z at HLE HZ hzb ⊢
    go_enter Tryz.func8, Tryz.ntmps8
    go_wp2_with fail
    rw [HW0.out]
    refine Calls.mono (HLE.out _ hbx) ?_
    rintro e1 w1 ⟨rfl, hb1⟩
    have hb2 := belOn hbx hszW hb1
    go_wp2
    go_ret2
    exact .inl ⟨HZ.out, rfl, hb2⟩
theorem get_width (a : Option Addr) (n cap : Nat) (i x : Int) (w : World) (h : x < 1 ∨ 8 < x) :
    Calls Tryz.prog 67 #[.slice a n cap, .int .i64 i, .int .i64 x] w fun e w' => e = .returned (.tuple #[.int .u64 0, .int .i64 1]) ∧ w = w' := by
  go_enter Tryz.func67, Tryz.ntmps67
  go_wp2_with (go_at_call 83; refine (isWidth_no _ _ h).mono ?_; rintro e w' ⟨rfl, rfl⟩)
  go_ret2
  exact ⟨rfl, rfl⟩
theorem get_short (a : Option Addr) (n cap : Nat) (i x : Int) (w : World) (h1 : 1 ≤ x) (h8 : x ≤ 8) (h0 : 0 ≤ i) (hi : i ≤ n) (hn : n ≤ 281474976710656) (hs : n - i < x) :
    Calls Tryz.prog 67 #[.slice a n cap, .int .i64 i, .int .i64 x] w fun e w' => e = .returned (.tuple #[.int .u64 0, .int .i64 10]) ∧ w = w' := by
  go_enter Tryz.func67, Tryz.ntmps67
  go_wp2_with (go_at_call 83; refine (isWidth_yes _ _ h1 h8).mono ?_; rintro e w' ⟨rfl, rfl⟩)
  go_ret2
  exact ⟨rfl, rfl⟩
theorem or_join (m c : Nat) (hm : m < 72057594037927936) (hc : c < 256) : bits .or .u64 ((m : Int) * 256) (c : Int) = ((m * 256 + c : Nat) : Int) := by
  rw [show (m : Int) * 256 = ((m * 256 : Nat) : Int) by omega, Go.u64_or_nat _ _ (by omega) (by omega), Go.nat_join 8 (m * 256) c (by omega) (by omega)]
set_option maxHeartbeats 1000000 in
theorem get_yes (a : Option Addr) (n cap i k : Nat) (l : List Nat) (w : World) (h1 : 1 ≤ k) (h8 : k ≤ 8) (hik : i + k ≤ n) (hcap : n ≤ cap) (hn : n ≤ 281474976710656) (hrd : Rd w a n l) :
    Calls Tryz.prog 67 #[.slice a n cap, .int .i64 (i : Int), .int .i64 (k : Int)] w fun e w' => e = .returned (.tuple #[.int .u64 ((getN ((l.drop i).take k) : Nat) : Int), .int .i64 0]) ∧ w = w' := by
  obtain ⟨b, off, rfl, hlt, hc⟩ := hrd.2.2 (by omega)
  have hlen := hrd.1
  have HB : Hid (∀ c ∈ (l.drop i).take k, c < 256) := fun c hc => hrd.2.1 c (List.mem_of_mem_drop (List.mem_of_mem_take hc))
  have HC : Hid (∀ j, j < k → w.cell? ⟨b, off + i + j, none⟩ = some (.int .u8 ((((l.drop i).take k).getD j 0 : Nat) : Int))) := fun j hj => by
    have := hc (i + j) (by omega)
    rw [show off + i + j = off + (i + j) by omega, this]
    simp [List.getD_eq_getElem?_getD, List.getElem?_drop, hj]
  have hlen2 : ((l.drop i).take k).length = k := by simp; omega
  clear hc hrd hlen
  generalize (l.drop i).take k = t at *
  go_enter Tryz.func67, Tryz.ntmps67
  go_wp2_with (go_at_call 83; refine (isWidth_yes _ _ (by omega) (by omega)).mono ?_; rintro e w' ⟨rfl, rfl⟩)
  go_loop [8, 37] (fun m i => ∃ j : Nat, j ≤ k ∧ i = .int .i64 j ∧ m = .int .u64 ((getN (t.take j) : Nat) : Int)) (fun _ i => k - (intOf i).toNat)
  case atStart => exact ⟨0, Nat.zero_le _, rfl, rfl⟩
  case round =>
    obtain ⟨j, hj, rfl, rfl⟩ := hrel
    by_cases hjk : j < k
    · have hc := HC.out j hjk
      have hm : getN (t.take j) < 72057594037927936 := by
        have h1 := getN_lt (t.take j) (fun c hc => HB.out c (List.mem_of_mem_take hc))
        have h2 : 256 ^ (t.take j).length ≤ 256 ^ 7 := Nat.pow_le_pow_right (by omega) (by rw [List.length_take]; omega)
        have h3 : (256 : Nat) ^ 7 = 72057594037927936 := by decide
        omega
      have hcl : t.getD j 0 < 256 := by
        rw [List.getD_eq_getElem?_getD, List.getElem?_eq_getElem (by omega)]
        exact HB.out _ (List.getElem_mem _)
      have HS : Hid (getN (t.take (j + 1)) = getN (t.take j) * 256 + t.getD j 0) := by
        rw [take_snocN _ _ (by omega), getN_snoc]; exact rfl
      have he := or_join (getN (t.take j)) (t.getD j 0) hm hcl
      generalize getN (t.take j) = m at *
      generalize t.getD j 0 = y at *
      go_wp2
      go_round
      case rel => exact ⟨j + 1, by omega, by go_num, by rw [HS.out]; go_num⟩
      case measure => simp [intOf]; omega
    · have hjk' : j = k := by omega
      subst hjk'
      have HF : Hid (t.take j = t) := List.take_of_length_le (by omega)
      go_wp2
      go_ret2
      rw [HF.out]
      exact ⟨rfl, rfl⟩
set_option maxRecDepth 100000 in
set_option maxHeartbeats 1000000 in
theorem number_any (R : Nat) (a : Option Addr) (n cap p fin wd : Nat) (sz : Int) (l : List Nat) (w : World) (hs : Src w R a n cap l) (hr : RB w R a n cap p fin sz) (hp : p ≤ fin) (hfin : fin ≤ n) (h1 : 1 ≤ wd) (h8 : wd ≤ 8) :
    Calls Tryz.prog 40 #[.pointer (some ⟨R, 0, none⟩), .int .i64 (wd : Int)] w (Outc (rnum l p fin sz wd) R w (fun m e w' => e = .returned (.int .u64 (m : Int)) ∧ RB w' R a n cap (p + wd) fin sz ∧ p + wd ≤ fin)) := by
  obtain ⟨c0, c1, c2, c3, f1, _, _, hlt⟩ := hr.cells
  have hn := hs.small
  have hcap := hs.room
  have hrd := hs.rd
  have HN : Hid (∀ W1, RB W1 R a n cap p fin sz → Calls Tryz.prog 66 #[.pointer (some ⟨R, 0, none⟩), .int .i64 (wd : Int)] W1 fun e w' => (p + wd ≤ fin → e = .returned (.tuple #[])) ∧ (¬ p + wd ≤ fin → e = Flt (shortC n sz)) ∧ (w' = W1.drew)) := fun W1 hW => need_any R a n cap p fin wd sz W1 hW hp hfin hn (by omega)
  unfold rnum
  rw [hrd.1]
  by_cases hok : p + wd ≤ fin
  · rw [if_pos hok]
    have HG : Hid (∀ W1 : World, (W1.heap = w.heap) → Calls Tryz.prog 67 #[.slice a n cap, .int .i64 (p : Int), .int .i64 (wd : Int)] W1 fun e w' => e = .returned (.tuple #[.int .u64 ((getN ((l.drop p).take wd) : Nat) : Int), .int .i64 0]) ∧ W1 = w') := fun W1 hW => by
      refine get_yes a n cap p wd l W1 h1 h8 (by omega) hcap hn ⟨hrd.1, hrd.2.1, fun h0 => ?_⟩
      obtain ⟨b, off, ha, hb, hc⟩ := hrd.2.2 h0
      exact ⟨b, off, ha, by rw [hW]; exact hb, fun j hj => (World.cell?_of_block (by rw [hW])).trans (hc j hj)⟩
    have HR := hide hr
    generalize getN ((l.drop p).take wd) = m at HG ⊢
    clear hr hs hrd
    go_enter Tryz.func40, Tryz.ntmps40
    go_wp2_with fail
    refine Calls.mono (HN.out _ HR.out) ?_
    rintro e1 w1 ⟨he, _, rfl⟩
    obtain rfl := he hok
    go_wp2_with fail
    go_region_held (fun W1 => W1.cell? ⟨R, 0, none⟩ = some (.slice a n cap) ∧ W1.cell? ⟨R, 1, none⟩ = some (.int .i64 (p : Int))) (go_keep) ((go_at_call 67; refine Calls.mono (HG.out _ rfl) ?_; rintro e2 w2 ⟨rfl, rfl⟩))
    go_wp2
    go_ret
    have e1 : (p : Int) + (wd : Int) = ((p + wd : Nat) : Int) := by omega
    refine ⟨⟨rfl, ?_, hok⟩, ?_⟩
    · first
        | exact (RB.set1 (HR.out : RB w.drew.drew R a n cap p fin sz) (p + wd))
        | (rw [e1]; exact (RB.set1 (HR.out : RB w.drew.drew R a n cap p fin sz) (p + wd)))
    · exact (((Gro.refl R w).drew).drew).set _ _
  · rw [if_neg hok]
    have HR := hide hr
    clear hr hs hrd
    go_enter Tryz.func40, Tryz.ntmps40
    go_wp2_with fail
    refine Calls.mono (HN.out _ HR.out) ?_
    rintro e1 w1 ⟨_, he, rfl⟩
    obtain rfl := he hok
    exact ⟨rfl, rfl, (Gro.refl R w).drew⟩
end Go.Proofs.YthhlpjhkeendcaaGreatDoor
