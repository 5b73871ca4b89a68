import Derived.Test.YtgpimajdcfoigabDoorD29
import Derived.Test.YtgpimajdcfoigabDoorD17
import Derived.Laws.MakeOwn

/- codec.Length, Encode. -/
namespace Go.Proofs.YtgpimajdcfoigabDoor
open Go.RowKit
set_option linter.unusedVariables false
set_option linter.unusedSimpArgs false
/-- the error of Encode -/
def chkE (v : V) : Int := firstE checkZ (v.all 1)
def encE (v : V) : Int := if chkE v ≠ 0 then chkE v else if 1048576 < T.len v.t then 2 else 0
theorem wts_map (l : List T) : T.wts l = (l.map T.wt).sum := (wts_sum l).symm
theorem sum_le (l : List V) (f g : V → Nat) (h : ∀ x ∈ l, f x ≤ g x) : (l.map f).sum ≤ (l.map g).sum := by
  induction l with
  | nil => simp
  | cons x l ih =>
    have h1 := h x (by simp)
    have h2 := ih (fun y hy => h y (by simp [hy]))
    simp; omega
theorem sum_mul (l : List V) (f : V → Nat) (m : Nat) : (l.map fun x => m * f x).sum = m * (l.map f).sum := by
  induction l with
  | nil => simp
  | cons x l ih => simp [ih, Nat.mul_add]
theorem wt_of' (k n : Int) (s : ByteArray) (a : Option Addr) (c : Nat) (e : Int) (l : List V) : T.wt (V.of k n s a c e l) = 1 + s.size / 64 + (l.map T.wt).sum := by
  unfold T.wt
  rw [V.fold_of]
theorem body_wt (B : Nat → ByteArray → Int) (W : List T → Bool) : ∀ t : T, ∀ f, Gd B W t f → T.body t + 17 ≤ 200 * T.wt t := by
  refine V.ind ?_
  intro k n s a c e l ih f hg
  obtain ⟨hf, own, sub⟩ := (Gd_of _ _ _ _ _ _ _ _ _ _).1 hg
  rw [wt_of']
  have h1 : ∀ x ∈ l, T.body x + 17 ≤ 200 * T.wt x := fun x hx => ih x hx (f - 1) (sub x hx)
  have hk : ∀ x ∈ l, 0 ≤ x.k ∧ x.k ≤ 24 := fun x hx => by
    have := sub x hx
    obtain ⟨k', n', s', a', c', e', l', rfl⟩ := V.ex x
    have o := ((Gd_of _ _ _ _ _ _ _ _ _ _).1 this).2.1
    exact ⟨o.k0, o.k1⟩
  by_cases ht : k = 18 ∨ k = 19 ∨ k = 20
  · rw [body_txt _ _ _ _ _ _ _ ht]; omega
  by_cases ha : k = 23
  · subst ha
    rw [body_arr]
    have hfit := fits_acode (n := n) (s := s) (a := a) (c := c) (own.isArr rfl).2.2.2.2
    obtain ⟨ac, hac⟩ : ∃ ac, T.acode (V.of 23 n s a c e l) = ac := ⟨_, rfl⟩
    rw [hac] at hfit ⊢
    have h2 := sum_le l (fun x => headC ac + T.body x) (fun x => 200 * T.wt x) (fun x hx => by
      have h3 := h1 x hx
      have h4 := (fits_lay (hfit x hx) (hk x hx).1 (hk x hx).2).2
      show headC ac + T.body x ≤ _
      omega)
    rw [sum_plus, sum_mul] at h2
    omega
  · have hb : T.body (V.of k n s a c e l) = (l.map T.len).sum := by
      rw [body_of]
      unfold bodyG
      rw [if_neg (by simp; omega), if_neg (by simp; omega), List.map_map]
      rfl
    rw [hb]
    have h2 := sum_le l T.len (fun x => 200 * T.wt x) (fun x hx => by
      have h3 := h1 x hx
      have h4 := (fits_lay (.inl rfl : FitsC x (T.code x)) (hk x hx).1 (hk x hx).2).2
      unfold T.len
      omega)
    rw [sum_mul] at h2
    omega
theorem run_make8 (c : Nat) (hc : c ≤ 4398046511104) (w : World) :
    (Instr.makeSlice 28 (.int .i64 0) (.int .i64 (c : Int))).run Tryd.prog w = .ok (.slice (some ⟨w.heap.size, 0, none⟩) 0 c) (w.alloc (.cells (madeCells #[.int .u8 0] c) 5)) := by
  obtain ⟨i, hi, hzz⟩ := Option.map_eq_some_iff.1 Tryd.info5
  simp only [Prod.mk.injEq] at hzz
  obtain ⟨hz, hs, hb⟩ := hzz
  have hr := run_make (P := Tryd.prog) w 28 5 i _ Tryd.underlying28 hi hz .i64 .i64 0 c (by omega) (by omega) (by rw [hb]; omega) (by omega)
  simp only [Int.toNat_natCast, hs, Nat.mul_one] at hr
  exact hr
theorem buf_new (w : World) (c : Nat) (hc : c ≤ 1000000000000) : Buf (w.alloc (.cells (madeCells #[.int .u8 0] c) 5)) w.heap.size c [] :=
  World.ownsRow_made w (madeCells #[.int .u8 0] c) c (Nat.le_refl _) (by unfold maxLen; omega) (by rw [size_madeCells]; omega)
set_option maxRecDepth 100000 in
set_option maxHeartbeats 1000000 in
theorem length_any (v : V) (n₀ : Nat) (w : World) (hn : n₀ ≤ w.heap.size) (hl : Lies n₀ w v) (hT : SzTab w) (hU : Lib.Utf8Tabs 1 2 w) (hw : T.wt v.t ≤ 5000000) :
    Calls Tryd.prog 10 #[v.val] w fun e w' => e = .returned (.tuple #[.int .i64 (if encE v = 0 then ((T.len v.t : Nat) : Int) else 0), .int .i64 (encE v)]) ∧ Below w.heap.size w w' := by
  have HCK : Hid (∀ W1, Below w.heap.size w W1 → Calls Tryd.prog 19 #[.agg #[.int .i64 v.k, .int .u64 v.n, .string v.s, .slice v.a v.l.length v.c, .int .i64 v.e]] W1 fun e w' => e = .returned (.int .i64 (chkE v)) ∧ Below W1.heap.size W1 w') := fun W1 hW => by
    have := check_any v n₀ W1 (by have := hW.size; omega) (hl.keep hW hn) (tabs_below hU hW)
    rw [V.val_eq] at this
    exact this
  have hgd : chkE v = 0 → Gd badB twiceW v.t 32 := (check_iff n₀ w v hl).1
  have HLN : Hid (chkE v = 0 → ∀ W1, Below w.heap.size w W1 → Calls Tryd.prog 20 #[.agg #[.int .i64 v.k, .int .u64 v.n, .string v.s, .slice v.a v.l.length v.c, .int .i64 v.e]] W1 fun e w' => e = .returned (.int .i64 ((T.len v.t : Nat) : Int)) ∧ Below W1.heap.size W1 w') := fun h0 W1 hW => by
    have hb := body_wt _ _ _ _ (hgd h0)
    have := length_of badB twiceW v (body_any _ _ v) 32 n₀ W1 (by have := hW.size; omega) (hl.keep hW hn) (hT.below hW) (hgd h0) (by omega)
    rw [V.val_eq] at this
    exact this
  have hbx := bel1 (Below.refl w.heap.size w) (Nat.le_refl _) (Obj.cells #[.int .i64 v.k, .int .u64 v.n, .string v.s, .slice v.a v.l.length v.c, .int .i64 v.e] 25)
  obtain ⟨W0, hW0⟩ : ∃ W0, w.alloc (Obj.cells #[.int .i64 v.k, .int .u64 v.n, .string v.s, .slice v.a v.l.length v.c, .int .i64 v.e] 25) = W0 := ⟨_, rfl⟩
  have HC : Hid (∀ W1, Below W0.heap.size W0 W1 → BoxC W1 w.heap.size v ∧ w.heap.size < W1.heap.size) := fun W1 hW => by
    have hz : w.heap.size < W0.heap.size := by rw [← hW0]; simp
    have hh : W1.heap[w.heap.size]? = some (.cells #[.int .i64 v.k, .int .u64 v.n, .string v.s, .slice v.a v.l.length v.c, .int .i64 v.e] 25) := (hW.block _ hz).trans (by rw [← hW0]; exact World.alloc_heap_new _ _)
    refine ⟨?_, by have := hW.size; omega⟩
    simp [BoxC, World.cell?, hh]
  rw [hW0] at hbx
  have HW0 := hide hW0
  have hszW : w.heap.size ≤ W0.heap.size := by rw [← hW0]; simp
  unfold encE
  clear hl hT hU hgd hW0 hw
  rw [V.val_eq]
  generalize chkE v = z at HCK HLN ⊢
  generalize T.len v.t = ln at HLN ⊢
  by_cases hz : z = 0
  · subst hz
    simp only [ne_eq, not_true_eq_false, if_false]
    have HLN' := hide (HLN.out rfl)
    clear HLN
    by_cases hlong : 1048576 < ln
    · simp only [hlong, if_true]
      go_enter Tryd.func10, Tryd.ntmps10
      go_wp2_with fail
      rw [HW0.out]
      refine Calls.mono (HCK.out _ hbx) ?_
      rintro e1 w1 ⟨rfl, hb1⟩
      obtain ⟨⟨c0, c1, c2, c3, c4⟩, hlt⟩ := HC.out w1 hb1
      have hb2 := belOn hbx hszW hb1
      go_wp2_with fail
      refine Calls.mono (HLN'.out _ hb2) ?_
      rintro e3 w3 ⟨rfl, hb3⟩
      go_wp2
      go_ret2
      exact ⟨rfl, belOn hb2 (by omega) hb3⟩
    · simp only [hlong, if_false]
      go_enter Tryd.func10, Tryd.ntmps10
      go_wp2_with fail
      rw [HW0.out]
      refine Calls.mono (HCK.out _ hbx) ?_
      rintro e1 w1 ⟨rfl, hb1⟩
      obtain ⟨⟨c0, c1, c2, c3, c4⟩, hlt⟩ := HC.out w1 hb1
      have hb2 := belOn hbx hszW hb1
      go_wp2_with fail
      refine Calls.mono (HLN'.out _ hb2) ?_
      rintro e3 w3 ⟨rfl, hb3⟩
      go_wp2
      go_ret2
      exact ⟨rfl, belOn hb2 (by omega) hb3⟩
  · have hzb : (z == 0) = false := by rw [beq_eq_false_iff_ne]; exact hz
    simp only [ne_eq, hz, not_false_eq_true, if_true, if_false]
    clear HLN
    go_enter Tryd.func10, Tryd.ntmps10
    go_wp2_with fail
    rw [HW0.out]
    refine Calls.mono (HCK.out _ hbx) ?_
    rintro e1 w1 ⟨rfl, hb1⟩
    have hb2 := belOn hbx hszW hb1
    go_wp2
    go_ret2
    exact ⟨rfl, hb2⟩
theorem boxC_gro {w w' : World} {g b : Nat} {v : V} (h : BoxC w b v) (hg : Gro g w w') (hlt : b < g) : BoxC w' b v := by
  have hb : b < w.heap.size := block_lt_of_cell h.1
  have hh := hg.block b hb (by simp; omega)
  obtain ⟨h0, h1, h2, h3, h4⟩ := h
  exact ⟨(World.cell?_of_block hh).trans h0, (World.cell?_of_block hh).trans h1, (World.cell?_of_block hh).trans h2, (World.cell?_of_block hh).trans h3, (World.cell?_of_block hh).trans h4⟩
theorem belT {n : Nat} {a b c : World} (h : Below n a b) (k : Below n b c) : Below n a c := h.trans k
/-- what Encode hands out -/
def EncOut (v : V) (w : World) (e : Ending) (w' : World) : Prop :=
  (encE v ≠ 0 ∧ e = .returned (.tuple #[.slice none 0 0, .int .i64 (encE v)]) ∧ Below w.heap.size w w') ∨
  (encE v = 0 ∧ ∃ g, e = .returned (.tuple #[.slice (some ⟨g, 0, none⟩) (T.len v.t) (T.len v.t), .int .i64 0]) ∧ Hid (w.heap.size ≤ g ∧ Buf w' g (T.len v.t) (T.enc v.t) ∧ (T.enc v.t).length = T.len v.t ∧ Gd badB twiceW v.t 32 ∧ T.len v.t ≤ 1048576) ∧ Below w.heap.size w w')
set_option maxRecDepth 100000 in
set_option maxHeartbeats 1000000 in
theorem encode_any (v : V) (n₀ : Nat) (w : World) (hn : n₀ ≤ w.heap.size) (hl : Lies n₀ w v) (hT : SzTab w) (hU : Lib.Utf8Tabs 1 2 w) (hw : T.wt v.t ≤ 5000000) :
    Calls Tryd.prog 7 #[v.val] w (EncOut v w) := by
  have HLE : Hid (∀ W1, Below w.heap.size w W1 → Calls Tryd.prog 10 #[.agg #[.int .i64 v.k, .int .u64 v.n, .string v.s, .slice v.a v.l.length v.c, .int .i64 v.e]] W1 fun e w' => e = .returned (.tuple #[.int .i64 (if encE v = 0 then ((T.len v.t : Nat) : Int) else 0), .int .i64 (encE v)]) ∧ Below W1.heap.size W1 w') := fun W1 hW => by
    have := length_any v n₀ W1 (by have := hW.size; omega) (hl.keep hW hn) (hT.below hW) (tabs_below hU hW) hw
    rw [V.val_eq] at this
    exact this
  have hbx := bel1 (Below.refl w.heap.size w) (Nat.le_refl _) (Obj.cells #[.int .i64 v.k, .int .u64 v.n, .string v.s, .slice v.a v.l.length v.c, .int .i64 v.e] 25)
  obtain ⟨W0, hW0⟩ : ∃ W0, w.alloc (Obj.cells #[.int .i64 v.k, .int .u64 v.n, .string v.s, .slice v.a v.l.length v.c, .int .i64 v.e] 25) = W0 := ⟨_, rfl⟩
  have HC : Hid (∀ W1, Below W0.heap.size W0 W1 → BoxC W1 w.heap.size v ∧ w.heap.size < W1.heap.size) := fun W1 hW => by
    have hz : w.heap.size < W0.heap.size := by rw [← hW0]; simp
    have hh : W1.heap[w.heap.size]? = some (.cells #[.int .i64 v.k, .int .u64 v.n, .string v.s, .slice v.a v.l.length v.c, .int .i64 v.e] 25) := (hW.block _ hz).trans (by rw [← hW0]; exact World.alloc_heap_new _ _)
    refine ⟨?_, by have := hW.size; omega⟩
    simp [BoxC, World.cell?, hh]
  rw [hW0] at hbx
  have HW0 := hide hW0
  have hszW : w.heap.size ≤ W0.heap.size := by rw [← hW0]; simp
  by_cases hz : encE v = 0
  · have hck : chkE v = 0 ∧ T.len v.t ≤ 1048576 := by
      unfold encE at hz
      by_cases h1 : chkE v = 0
      · simp only [h1, ne_eq, not_true_eq_false, if_false] at hz
        refine ⟨h1, ?_⟩
        split at hz
        · omega
        · omega
      · simp [h1] at hz
    have hg : Gd badB twiceW v.t 32 := (check_iff n₀ w v hl).1 hck.1
    have hel := enc_len _ _ _ _ hg
    have HWR : Hid (∀ g W1, Below w.heap.size w W1 → w.heap.size ≤ g → Buf W1 g (T.len v.t) [] → Calls Tryd.prog 14 #[.slice (some ⟨g, 0, none⟩) 0 ((T.len v.t : Nat)), .agg #[.int .i64 v.k, .int .u64 v.n, .string v.s, .slice v.a v.l.length v.c, .int .i64 v.e]] W1 (Wrote W1 g (T.len v.t) [] (T.enc v.t))) := fun g W1 hW hgw hbu => by
      have h0 := hT.lt
      have := write_of badB twiceW v (data_any _ _ v) 32 n₀ g (T.len v.t) [] W1 hg (hl.keep hW hn) (by omega) (by omega) (hT.below hW) hbu (by omega) (by simp)
      rw [V.val_eq] at this
      exact this
    have HEL := hide hel
    have HG := hide hg
    have hll := hck.2
    have HMK := run_make8 (T.len v.t) (by omega)
    rw [hz] at HLE
    simp only [if_true] at HLE
    have HZ := hide hz
    have HBN : Hid (∀ W1 : World, Buf (W1.alloc (.cells (madeCells #[.int .u8 0] (T.len v.t)) 5)) W1.heap.size (T.len v.t) []) := fun W1 => buf_new W1 _ (by omega)
    obtain ⟨ln, hln⟩ : ∃ ln, T.len v.t = ln := ⟨_, rfl⟩
    have HLN := hide hln
    rw [hln] at HLE HWR HMK HBN HEL hll
    clear hl hT hU hW0 hw hel hg hck hz hln
    rw [V.val_eq]
    go_enter Tryd.func7, Tryd.ntmps7
    go_wp2_with fail
    rw [HW0.out]
    refine Calls.mono (HLE.out _ hbx) ?_
    rintro e1 w1 ⟨rfl, hb1⟩
    obtain ⟨⟨c0, c1, c2, c3, c4⟩, hlt⟩ := HC.out w1 hb1
    have hb2 := belOn hbx hszW hb1
    have HB2 : Hid (Below w.heap.size w (w1.drew.alloc (.cells (madeCells #[.int .u8 0] ln) 5))) := hb2.drew.alloc (by show w.heap.size ≤ w1.heap.size; omega) _
    have HBU : Hid (Buf (w1.drew.alloc (.cells (madeCells #[.int .u8 0] ln) 5)) w1.heap.size ln []) := HBN.out w1.drew
    have hle1 : w.heap.size ≤ w1.heap.size := by omega
    have HC1 : Hid (BoxC w1.drew w.heap.size v) := ⟨c0, c1, c2, c3, c4⟩
    have HC2 : Hid (BoxC (w1.drew.alloc (.cells (madeCells #[.int .u8 0] ln) 5)) w.heap.size v) := (HC.out _ ((hb1.drew).alloc (by show W0.heap.size ≤ w1.heap.size; exact hb1.size) _)).1
    go_wp2_with fail
    go_region_held (fun W1 => W1.cell? ⟨w.heap.size, 0, none⟩ = some (.int .i64 v.k) ∧ W1.cell? ⟨w.heap.size, 1, none⟩ = some (.int .u64 v.n) ∧ W1.cell? ⟨w.heap.size, 2, none⟩ = some (.string v.s) ∧ W1.cell? ⟨w.heap.size, 3, none⟩ = some (.slice v.a v.l.length v.c) ∧ W1.cell? ⟨w.heap.size, 4, none⟩ = some (.int .i64 v.e)) (first | exact HC3.out | exact HC2.out | exact HC1.out) ((go_at_call 14; refine Calls.mono (HWR.out _ _ HB2.out hle1 HBU.out) ?_; rintro e3 w3 ⟨rfl, HH3⟩; have HC3 : Hid (BoxC w3 w.heap.size v) := boxC_gro HC2.out HH3.out.2 hlt))
    go_wp2
    go_ret2
    have hh := HH3.out
    rw [List.nil_append] at hh
    refine .inr ⟨HZ.out, w1.heap.size, ?_, ⟨hle1, ?_, ?_, HG.out, ?_⟩, ?_⟩
    · rw [HLN.out]
      simp [HEL.out]
    · rw [HLN.out]; exact hh.1
    · rw [HLN.out]; exact HEL.out
    · rw [HLN.out]; exact hll
    · have := Gro.below hh.2 (n := w.heap.size) hle1 HB2.out.size
      exact belT HB2.out this
  · have HZ := hide hz
    have hzb : (encE v == 0) = false := by rw [beq_eq_false_iff_ne]; exact hz
    simp only [hz, if_false] at HLE
    clear hl hT hU hW0 hw hz
    rw [V.val_eq]
    unfold EncOut
    generalize encE v = z at HLE HZ hzb ⊢
    go_enter Tryd.func7, Tryd.ntmps7
    go_wp2_with fail
    rw [HW0.out]
    refine Calls.mono (HLE.out _ hbx) ?_
    rintro e1 w1 ⟨rfl, hb1⟩
    have hb2 := belOn hbx hszW hb1
    go_wp2
    go_ret2
    exact .inl ⟨HZ.out, rfl, hb2⟩
end Go.Proofs.YtgpimajdcfoigabDoor
