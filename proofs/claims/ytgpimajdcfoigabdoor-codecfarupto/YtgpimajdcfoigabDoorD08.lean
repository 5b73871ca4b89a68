import Derived.Test.YtgpimajdcfoigabDoorD06

/- codec.bodyLength, arrayForm: by induction. -/
namespace Go.Proofs.YtgpimajdcfoigabDoor
open Go.RowKit
set_option linter.unusedVariables false
set_option linter.unusedSimpArgs false
theorem wrap_nat (m : Nat) (h : m ≤ 4611686018427387904) : IntKind.i64.wrap (m : Int) = m := by
  simp only [IntKind.wrap, IntKind.bits, IntKind.signed]
  simp
  omega
def lens (L : List T) : Nat := (L.map T.len).sum
def bods (L : List T) : Nat := (L.map T.body).sum
def smalls (L : List T) : Bool := L.all fun y => smallC y.k y.n (T.body y)
theorem ts_take_snoc (l : List V) (j : Nat) (h : j < l.length) : V.ts (l.take (j + 1)) = V.ts (l.take j) ++ [l[j].t] := by
  rw [List.take_succ_eq_append_getElem h, V.ts_map, V.ts_map, List.map_append]
  rfl
theorem ts_take_pre (l : List V) (j : Nat) : ∃ r, V.ts l = V.ts (l.take j) ++ r := ⟨V.ts (l.drop j), by rw [V.ts_map, V.ts_map, V.ts_map, ← List.map_append, List.take_append_drop]⟩
theorem lens_snoc (l : List V) (j : Nat) (h : j < l.length) : lens (V.ts (l.take (j + 1))) = lens (V.ts (l.take j)) + T.len l[j].t := by
  rw [ts_take_snoc l j h]; unfold lens; simp
theorem bods_snoc (l : List V) (j : Nat) (h : j < l.length) : bods (V.ts (l.take (j + 1))) = bods (V.ts (l.take j)) + T.body l[j].t := by
  rw [ts_take_snoc l j h]; unfold bods; simp
theorem smalls_snoc (l : List V) (j : Nat) (h : j < l.length) : smalls (V.ts (l.take (j + 1))) = (smalls (V.ts (l.take j)) && smallC l[j].t.k l[j].t.n (T.body l[j].t)) := by
  rw [ts_take_snoc l j h]; unfold smalls; simp
theorem lens_le (l : List V) (j : Nat) : lens (V.ts (l.take j)) ≤ lens (V.ts l) := by
  obtain ⟨r, hr⟩ := ts_take_pre l j
  rw [hr]; unfold lens; simp
theorem bods_le (l : List V) (j : Nat) : bods (V.ts (l.take j)) ≤ bods (V.ts l) := by
  obtain ⟨r, hr⟩ := ts_take_pre l j
  rw [hr]; unfold bods; simp
theorem mem_ts {l : List V} {x : V} (h : x ∈ l) : x.t ∈ V.ts l := by rw [V.ts_map]; exact List.mem_map.2 ⟨x, h, rfl⟩
theorem tk_eq (x : V) : x.t.k = x.k ∧ x.t.n = x.n := by
  obtain ⟨k, n, s, a, c, e, l, rfl⟩ := V.ex x
  rw [V.t_of]
  exact ⟨rfl, rfl⟩
theorem body_arr_t (n : Int) (s : ByteArray) (a : Option Addr) (c : Nat) (e : Int) (l : List V) : T.body (V.of 23 n s a c e l).t = 1 + (bods (V.ts l) + l.length * headC (T.acode (V.of 23 n s a c e l).t)) := by
  rw [V.t_of]
  unfold T.of
  rw [body_arr, V.ts_length]
  rfl
theorem acode_t (k n : Int) (s : ByteArray) (a : Option Addr) (c : Nat) (e : Int) (l : List V) : T.acode (V.of k n s a c e l).t = pickC e.toNat (smalls (V.ts l)) := by
  rw [V.t_of]
  unfold T.of T.acode acodeG smalls
  rw [V.e_of, V.l_of, List.all_map]
  rfl
theorem body_enc_t (k n : Int) (s : ByteArray) (a : Option Addr) (c : Nat) (e : Int) (l : List V) (h : k ≠ 18 ∧ k ≠ 19 ∧ k ≠ 20 ∧ k ≠ 23) : T.body (V.of k n s a c e l).t = lens (V.ts l) := by
  rw [V.t_of]
  unfold T.of
  rw [body_of]
  unfold bodyG
  rw [if_neg (by simp; omega), if_neg (by simp; omega), List.map_map]
  rfl
section
variable (B : Nat → ByteArray → Int) (W : List T → Bool)
set_option maxRecDepth 100000 in
set_option maxHeartbeats 2000000 in
theorem arrayForm_of (n : Int) (s : ByteArray) (a : Option Addr) (c : Nat) (e : Int) (l : List V) (ih : ∀ x ∈ l, BodyOk B W x) (f n₀ : Nat) (w : World) (hn : n₀ ≤ w.heap.size) (hl : Lies n₀ w (V.of 23 n s a c e l)) (hT : SzTab w) (hg : Gd B W (V.of 23 n s a c e l).t f) (hb : T.body (V.of 23 n s a c e l).t ≤ 1000000000) :
    Calls Tryd.prog 52 #[(V.of 23 n s a c e l).val] w fun e' w' => e' = .returned (.tuple #[.int .u8 ((T.acode (V.of 23 n s a c e l).t : Nat) : Int), .int .i64 ((bods (V.ts l) + l.length * headC (T.acode (V.of 23 n s a c e l).t) : Nat) : Int)]) ∧ Below w.heap.size w w' := by
  obtain ⟨hf, own, sub⟩ := gd_own B W hg
  rw [body_arr_t] at hb
  rw [acode_t] at hb ⊢
  obtain ⟨hn0, hse, he0, he1, hee⟩ := own.isArr rfl
  clear hn0 hse
  have HE : Hid (∀ y ∈ l, y.k = e) := fun y hy => by have := hee y.t (mem_ts hy); rw [(tk_eq y).1] at this; exact this
  have ok := hl.ok
  have o2 := ok.l
  have o3 := ok.c
  have HL := hide hl
  have HT := hide hT
  have IH := hide ih
  have SUB := hide sub
  have hhd : headC (pickC e.toNat (smalls (V.ts l))) ≤ 16 := pick_head _ (by omega) _
  have HPL := pick_lay e.toNat (by omega) (smalls (V.ts l))
  have HPT := pick_lt e.toNat (by omega) (smalls (V.ts l))
  have hbb : bods (V.ts l) ≤ 1000000000 := by omega
  have hmul : l.length * headC (pickC e.toNat (smalls (V.ts l))) ≤ 1000000000 := by omega
  have HP : Hid (∀ W1, Below w.heap.size w W1 → Calls Tryd.prog 31 #[.int .i64 e, .bool (smalls (V.ts l))] W1 fun e' w' => e' = .returned (.int .u8 ((pickC e.toNat (smalls (V.ts l)) : Nat) : Int)) ∧ W1 = w') := fun W1 hW => by
    have := pick_any e.toNat (smalls (V.ts l)) (by omega) W1 (HT.out.below hW)
    rw [Int.toNat_of_nonneg (by omega)] at this
    exact this
  have HH : Hid (∀ W1, Calls Tryd.prog 29 #[.int .u8 ((pickC e.toNat (smalls (V.ts l)) : Nat) : Int)] W1 fun r w' => r = .returned (.int .i64 ((headC (pickC e.toNat (smalls (V.ts l))) : Nat) : Int)) ∧ W1 = w') := fun W1 => head_any _ HPT HPL W1
  have hz : ∀ j : Nat, Hid (bods (V.ts (l.take j)) ≤ bods (V.ts l)) := fun j => bods_le l j
  clear hl hT hg ih sub own hee HPL HPT hb ok
  generalize headC (pickC e.toNat (smalls (V.ts l))) = hd at HH hhd hmul ⊢
  generalize pickC e.toNat (smalls (V.ts l)) = pc at HP HH ⊢
  have HMUL : Hid (l.length * hd ≤ 1000000000) := hmul
  clear hmul
  rw [V.val_of]
  have hb0 := bel1 (Below.refl w.heap.size w) (Nat.le_refl _) (Obj.cells #[.int .i64 23, .int .u64 n, .string s, .slice a l.length c, .int .i64 e] 25)
  obtain ⟨W0, hW0⟩ : ∃ W0, w.alloc (Obj.cells #[.int .i64 23, .int .u64 n, .string s, .slice a l.length c, .int .i64 e] 25) = W0 := ⟨_, rfl⟩
  have hs0 : W0.heap.size = w.heap.size + 1 := by rw [← hW0]; simp
  have HC : Hid (∀ W1, Below W0.heap.size W0 W1 → W1.cell? ⟨w.heap.size, 3, none⟩ = some (.slice a l.length c) ∧ W1.cell? ⟨w.heap.size, 4, none⟩ = some (.int .i64 e)) := fun W1 hW => by
    have hh : W1.heap[w.heap.size]? = some (.cells #[.int .i64 23, .int .u64 n, .string s, .slice a l.length c, .int .i64 e] 25) := (hW.block _ (by omega)).trans (by rw [← hW0]; exact World.alloc_heap_new _ _)
    simp [World.cell?, hh]
  rw [hW0] at hb0
  have HW0 := hide hW0
  clear hW0
  go_enter Tryd.func52, Tryd.ntmps52
  go_wp2_with fail
  rw [HW0.out]
  go_loopw [3, 4, 11] (fun d sm i wr => ∃ j : Nat, i = .int .i64 j ∧ j ≤ l.length ∧ d = .int .i64 ((bods (V.ts (l.take j)) : Nat) : Int) ∧ sm = .bool (smalls (V.ts (l.take j))) ∧ Below W0.heap.size W0 wr) (fun _ _ i _ => l.length - (intOf i).toNat)
  case atStart => exact ⟨0, rfl, Nat.zero_le _, by simp [bods, V.ts], by simp [smalls, V.ts], Below.refl _ _⟩
  case round =>
    obtain ⟨j, rfl, hj, rfl, rfl, hbr⟩ := hrel
    have hbw := belOn hb0 (by omega) hbr
    have hsz := hbr.size
    by_cases hjl : j < l.length
    · obtain ⟨b, o, rfl, hlt, hr⟩ := (HL.out.keep hbw hn).row (by omega)
      obtain ⟨x0, x1, x2, x3, x4⟩ := hr j hjl
      have hmem := List.getElem_mem hjl
      have hbj : T.body l[j].t ≤ 1000000000 := by
        have := bods_snoc l j hjl
        have := bods_le l (j + 1)
        omega
      have hba := bel1 hbr hsz (Obj.cells #[.int .i64 l[j].k, .int .u64 l[j].n, .string l[j].s, .slice l[j].a l[j].l.length l[j].c, .int .i64 l[j].e] 25)
      have hx := IH.out l[j] hmem (f - 1) n₀ _ (by simp; omega) ((HL.out.sub _ hmem).keep (belOn hb0 (by omega) hba) hn) (HT.out.below (belOn hb0 (by omega) hba)) (SUB.out _ hmem) hbj
      rw [V.val_eq] at hx
      have HX := hide hx
      have hsown : 0 ≤ l[j].k ∧ l[j].k ≤ 24 := by rw [HE.out _ hmem]; omega
      have hnown : 0 ≤ l[j].n ∧ l[j].n < 18446744073709551616 := by
        have h := SUB.out _ hmem
        obtain ⟨k', n', s', a', c', e', l', hv⟩ := V.ex l[j]
        rw [hv] at h ⊢
        obtain ⟨_, o, _⟩ := gd_own B W h
        exact ⟨o.n0, o.n1⟩
      have HS : Hid (∀ W1, Calls Tryd.prog 32 #[.agg #[.int .i64 l[j].k, .int .u64 l[j].n, .string l[j].s, .slice l[j].a l[j].l.length l[j].c, .int .i64 l[j].e], .int .i64 ((T.body l[j].t : Nat) : Int)] W1 fun r w' => r = .returned (.bool (smallC l[j].k l[j].n (T.body l[j].t))) ∧ Below W1.heap.size W1 w') := fun W1 => by
        have := isSmall_any l[j] (T.body l[j].t) hsown hnown (by omega) W1
        rw [V.val_eq] at this
        exact this
      have HBS := hide (bods_snoc l j hjl)
      have HSS := hide (smalls_snoc l j hjl)
      rw [(tk_eq l[j]).1, (tk_eq l[j]).2] at HSS
      have hbl := (hz j).out
      have hbl1 := (hz (j + 1)).out
      have hbsum : bods (V.ts (l.take j)) + T.body l[j].t ≤ 1000000000 := by have := HBS.out; omega
      clear hx hr hsown hnown
      obtain ⟨W1, hW1⟩ : ∃ W1, wr.alloc (Obj.cells #[.int .i64 l[j].k, .int .u64 l[j].n, .string l[j].s, .slice l[j].a l[j].l.length l[j].c, .int .i64 l[j].e] 25) = W1 := ⟨_, rfl⟩
      have HCX : Hid (∀ W2, Below W1.heap.size W1 W2 → W2.cell? ⟨wr.heap.size, 0, none⟩ = some (.int .i64 l[j].k) ∧ W2.cell? ⟨wr.heap.size, 1, none⟩ = some (.int .u64 l[j].n) ∧ W2.cell? ⟨wr.heap.size, 2, none⟩ = some (.string l[j].s) ∧ W2.cell? ⟨wr.heap.size, 3, none⟩ = some (.slice l[j].a l[j].l.length l[j].c) ∧ W2.cell? ⟨wr.heap.size, 4, none⟩ = some (.int .i64 l[j].e)) := fun W2 hW => by
        have hh : W2.heap[wr.heap.size]? = some (.cells #[.int .i64 l[j].k, .int .u64 l[j].n, .string l[j].s, .slice l[j].a l[j].l.length l[j].c, .int .i64 l[j].e] 25) := (hW.block _ (by rw [← hW1]; simp)).trans (by rw [← hW1]; exact World.alloc_heap_new _ _)
        simp [World.cell?, hh]
      have hs1 : W1.heap.size = wr.heap.size + 1 := by rw [← hW1]; simp
      rw [hW1] at hba HX
      have HW1 := hide hW1
      have HS1 := hide hs1
      clear hW1 hs1
      go_wp2_with fail
      rw [HW1.out]
      refine Calls.mono HX.out ?_
      rintro e1 w1 ⟨rfl, hb1⟩
      obtain ⟨c0, c1, c2, c3, c4⟩ := HCX.out w1 hb1
      have hbr1 := belOn hba (by have := HS1.out; omega) hb1
      have hlt1 : wr.heap.size < w1.heap.size := by have := hb1.size; have := HS1.out; omega
      generalize hsmv : smalls (V.ts (l.take j)) = smv at HSS ⊢
      have HSMV := hide hsmv
      clear hsmv
      generalize smalls (V.ts (l.take j)) = q1 at *
      cases smv
      · go_wp2
        go_roundw
        case rel =>
          refine ⟨j + 1, by go_num, hjl, ?_, ?_, hbr1⟩
          · rw [HBS.out]; go_num
          · rw [HSS.out]; rfl
        case measure => simp [intOf]; omega
      · go_wp2_with fail
        refine Calls.mono (HS.out _) ?_
        rintro e2 w2 ⟨rfl, hb2⟩
        have hbr2 := belOn hbr1 (by have := hbr1.size; omega) hb2
        go_wp2
        go_roundw
        case rel =>
          refine ⟨j + 1, by go_num, hjl, ?_, ?_, hbr2⟩
          · rw [HBS.out]; go_num
          · rw [HSS.out]; rfl
        case measure => simp [intOf]; omega
    · obtain rfl : j = l.length := by omega
      obtain ⟨c3, c4⟩ := HC.out wr hbr
      have HTL : Hid (l.take l.length = l) := List.take_length
      rw [HTL.out]
      go_wp2_with fail
      refine Calls.mono (HP.out _ hbw) ?_
      rintro e1 w1 ⟨rfl, rfl⟩
      go_wp2_with fail
      go_region_held (fun W1 => W1.cell? ⟨w.heap.size, 3, none⟩ = some (.slice a l.length c)) (go_keep) ((first | (go_at_call 29; refine Calls.mono (HH.out _) ?_; rintro e2 w2 ⟨rfl, rfl⟩)))
      have hml := HMUL.out
      go_wp2
      go_ret2
      refine ⟨?_, hbw.drew⟩
      have e1 : IntKind.i64.wrap (((bods (V.ts l) : Nat) : Int) + IntKind.i64.wrap ((l.length : Int) * (hd : Int))) = ((bods (V.ts l) + l.length * hd : Nat) : Int) := by
        have q1 : (l.length : Int) * (hd : Int) = ((l.length * hd : Nat) : Int) := by simp
        rw [q1]
        generalize l.length * hd = m at hml
        rw [wrap_nat m (by omega), ← Int.natCast_add, wrap_nat _ (by omega)]
      show Ending.returned (.tuple #[.int .u8 (pc : Int), .int .i64 (IntKind.i64.wrap (((bods (V.ts l) : Nat) : Int) + IntKind.i64.wrap ((l.length : Int) * (hd : Int))))]) = _
      rw [e1]
set_option maxRecDepth 100000 in
set_option maxHeartbeats 2000000 in
theorem body_list (k n : Int) (s : ByteArray) (a : Option Addr) (c : Nat) (e : Int) (l : List V) (hk : k ≠ 18 ∧ k ≠ 19 ∧ k ≠ 20 ∧ k ≠ 23) (ih : ∀ x ∈ l, BodyOk B W x) : BodyOk B W (V.of k n s a c e l) := by
  intro f n₀ w hn hl hT hg hb
  obtain ⟨hf, own, sub⟩ := gd_own B W hg
  rw [body_enc_t _ _ _ _ _ _ _ hk] at hb ⊢
  have ok := hl.ok
  have o2 := ok.l
  have o3 := ok.c
  have HL := hide hl
  have HT := hide hT
  have IH := hide ih
  have SUB := hide sub
  have hz : ∀ j : Nat, Hid (lens (V.ts (l.take j)) ≤ lens (V.ts l)) := fun j => lens_le l j
  have g1 : (k == 18) = false := by rw [beq_eq_false_iff_ne]; exact hk.1
  have g2 : (k == 19) = false := by rw [beq_eq_false_iff_ne]; exact hk.2.1
  have g3 : (k == 20) = false := by rw [beq_eq_false_iff_ne]; exact hk.2.2.1
  have g4 : (k == 23) = false := by rw [beq_eq_false_iff_ne]; exact hk.2.2.2
  clear hl hT hg ih sub own ok hk
  rw [V.val_of]
  have hb0 := bel1 (Below.refl w.heap.size w) (Nat.le_refl _) (Obj.cells #[.int .i64 k, .int .u64 n, .string s, .slice a l.length c, .int .i64 e] 25)
  obtain ⟨W0, hW0⟩ : ∃ W0, w.alloc (Obj.cells #[.int .i64 k, .int .u64 n, .string s, .slice a l.length c, .int .i64 e] 25) = W0 := ⟨_, rfl⟩
  have hs0 : W0.heap.size = w.heap.size + 1 := by rw [← hW0]; simp
  rw [hW0] at hb0
  have HW0 := hide hW0
  clear hW0
  go_enter Tryd.func30, Tryd.ntmps30
  go_wp2_with fail
  rw [HW0.out]
  go_loopw [5, 29] (fun d i wr => ∃ j : Nat, i = .int .i64 j ∧ j ≤ l.length ∧ d = .int .i64 ((lens (V.ts (l.take j)) : Nat) : Int) ∧ Below W0.heap.size W0 wr) (fun _ i _ => l.length - (intOf i).toNat)
  case atStart => exact ⟨0, rfl, Nat.zero_le _, by simp [lens, V.ts], Below.refl _ _⟩
  case round =>
    obtain ⟨j, rfl, hj, rfl, hbr⟩ := hrel
    have hbw := belOn hb0 (by omega) hbr
    have hsz := hbr.size
    by_cases hjl : j < l.length
    · obtain ⟨b, o, rfl, hlt, hr⟩ := (HL.out.keep hbw hn).row (by omega)
      obtain ⟨x0, x1, x2, x3, x4⟩ := hr j hjl
      have hmem := List.getElem_mem hjl
      have HBS := hide (lens_snoc l j hjl)
      have hbl := (hz j).out
      have hbl1 := (hz (j + 1)).out
      have hbj : T.body l[j].t ≤ 1000000000 := by
        have := HBS.out
        have : T.body l[j].t ≤ T.len l[j].t := by unfold T.len; omega
        omega
      have hbsum : lens (V.ts (l.take j)) + T.len l[j].t ≤ 1000000000 := by have := HBS.out; omega
      have hba := bel1 hbr hsz (Obj.cells #[.int .i64 l[j].k, .int .u64 l[j].n, .string l[j].s, .slice l[j].a l[j].l.length l[j].c, .int .i64 l[j].e] 25)
      have hx := length_of B W l[j] (IH.out l[j] hmem) (f - 1) n₀ _ (by simp; omega) ((HL.out.sub _ hmem).keep (belOn hb0 (by omega) hba) hn) (HT.out.below (belOn hb0 (by omega) hba)) (SUB.out _ hmem) hbj
      rw [V.val_eq] at hx
      have HX := hide hx
      clear hx hr
      go_wp2_with fail
      refine Calls.mono HX.out ?_
      rintro e1 w1 ⟨rfl, hb1⟩
      have hbr1 := belOn hba (by simp; omega) hb1
      go_wp2
      go_roundw
      case rel =>
        refine ⟨j + 1, by go_num, hjl, ?_, hbr1⟩
        rw [HBS.out]; go_num
      case measure => simp [intOf]; omega
    · obtain rfl : j = l.length := by omega
      have HTL : Hid (l.take l.length = l) := List.take_length
      rw [HTL.out]
      go_wp2
      go_ret
      exact ⟨rfl, hbw⟩
set_option maxRecDepth 100000 in
set_option maxHeartbeats 2000000 in
theorem body_any : ∀ x, BodyOk B W x := by
  refine V.ind ?_
  intro k n s a c e l ih
  by_cases ht : k = 18 ∨ k = 19 ∨ k = 20
  · intro f n₀ w hn hl hT hg hb
    have hbt : T.body (V.of k n s a c e l).t = s.size := by rw [V.t_of]; exact body_txt _ _ _ _ _ _ _ ht
    rw [hbt]
    have ok := hl.ok
    have o1 := ok.s
    have hb0 := bel1 (Below.refl w.heap.size w) (Nat.le_refl _) (Obj.cells #[.int .i64 k, .int .u64 n, .string s, .slice a l.length c, .int .i64 e] 25)
    clear hl hT hg ih hb hbt ok
    rw [V.val_of]
    rcases ht with rfl | rfl | rfl
    all_goals
      go_enter Tryd.func30, Tryd.ntmps30
      go_wp2
      go_ret
      exact ⟨rfl, hb0⟩
  by_cases ha : k = 23
  · subst ha
    intro f n₀ w hn hl hT hg hb
    have HA : Hid (∀ W1, Below w.heap.size w W1 → Calls Tryd.prog 52 #[.agg #[.int .i64 23, .int .u64 n, .string s, .slice a l.length c, .int .i64 e]] W1 fun e' w' => e' = .returned (.tuple #[.int .u8 ((T.acode (V.of 23 n s a c e l).t : Nat) : Int), .int .i64 ((bods (V.ts l) + l.length * headC (T.acode (V.of 23 n s a c e l).t) : Nat) : Int)]) ∧ Below W1.heap.size W1 w') := fun W1 hW => by
      have := arrayForm_of B W n s a c e l ih f n₀ W1 (by have := hW.size; omega) (hl.keep hW hn) (hT.below hW) hg hb
      rw [V.val_of] at this
      exact this
    rw [body_arr_t] at hb ⊢
    have ok := hl.ok
    have hb0 := bel1 (Below.refl w.heap.size w) (Nat.le_refl _) (Obj.cells #[.int .i64 23, .int .u64 n, .string s, .slice a l.length c, .int .i64 e] 25)
    clear hl hT hg ih ok
    generalize bods (V.ts l) + l.length * headC (T.acode (V.of 23 n s a c e l).t) = q at HA hb ⊢
    generalize T.acode (V.of 23 n s a c e l).t = ac at HA
    rw [V.val_of]
    go_enter Tryd.func30, Tryd.ntmps30
    go_wp2_with fail
    refine Calls.mono (HA.out _ hb0) ?_
    rintro e1 w1 ⟨rfl, hb1⟩
    go_wp2
    go_ret
    exact ⟨by go_num, belOn hb0 (by simp) hb1⟩
  · exact body_list B W k n s a c e l ⟨by omega, by omega, by omega, ha⟩ ih
end
end Go.Proofs.YtgpimajdcfoigabDoor
