import Derived.Test.YtgpimajdcfoigabDoorD32

/- longshorelaw03.awake. -/
namespace Go.Proofs.YtgpimajdcfoigabDoor
open Go.RowKit
set_option linter.unusedVariables false
set_option linter.unusedSimpArgs false
theorem tabs_three {w : World} (h : Lib.Utf8Tabs 1 2 w) : 3 ≤ w.heap.size := by
  have l1 := block_lt_of_cell (h.2 0 (by omega)).1
  have : 2 < w.heap.size := l1
  omega
/-- bytes in memory of their own -/
theorem bts_new (w : World) (l : List Nat) (hl : ∀ c ∈ l, c < 256) (hs : l.length ≤ 1000) (hT : SzTab w) (hU : Lib.Utf8Tabs 1 2 w) : Bts (w.alloc (.cells (l.map bV).toArray 5)) (some ⟨w.heap.size, 0, none⟩) l.length l.length l := by
  have hb := bel1 (Below.refl w.heap.size w) (Nat.le_refl _) (.cells (l.map bV).toArray 5)
  refine ⟨⟨rfl, hl, fun _ => ⟨w.heap.size, 0, rfl, by simp, fun j hj => ?_⟩⟩, Nat.le_refl _, by omega, fun _ x hx => by cases hx; simp, hT.below hb, tabs_below hU hb, by have := tabs_three hU; simp; omega⟩
  have hh := World.alloc_heap_new w (.cells (l.map bV).toArray 5)
  rw [Nat.zero_add]
  rw [cells_at hh j]
  simp [List.getElem?_map, List.getElem?_eq_getElem hj, bV, List.getD_eq_getElem?_getD]
/-- Decode of bytes whose constructor has no parts -/
theorem decode_leaf (a : Option Addr) (n cap p : Nat) (l : List Nat) (w : World) (c k : Nat) (hB : Bts w a n cap l) (hp : p + 1 ≤ n) (hc : getN ((l.drop p).take 1) = c) (hk : kindC c = some k) (hc2 : c < 256) (hk2 : k ≤ 24) (hlay : c / 16 = 4 ∨ c / 16 = 5 ∨ c / 16 = 6 ∨ c / 16 = 7 ∨ c / 16 = 8) :
    Calls Tryd.prog 9 #[.slice a n cap, .int .i64 (p : Int)] w (DecOut (rdec badB twiceW l p) p n w) := by
  refine decode_of a n cap p l w hB (by omega) ?_
  refine val_of 32 _ a n cap p n (-1) l _ (hB.src p) (decW_boxes w a n cap p).2.2.2 (by omega) (Nat.le_refl _) ?_
  intro c' k' h1 h2 _
  unfold rnum at h1
  rw [if_pos hp, hc] at h1
  cases h1
  rw [hk] at h2
  cases h2
  rcases hlay with h | h
  · exact dat_none 32 k c (by omega) hc2 hk2 h
  · exact dat_num 32 k c (by omega) hc2 hk2 h
theorem Bts.below {w w' : World} {a : Option Addr} {n cap : Nat} {l : List Nat} (h : Bts w a n cap l) (hb : Below w.heap.size w w') : Bts w' a n cap l :=
  ⟨h.rd.below hb, h.room, h.small, fun h0 x hx => Nat.lt_of_lt_of_le (h.apart h0 x hx) hb.size, h.tab.below hb, tabs_below h.utf hb, Nat.le_trans h.pos hb.size⟩
theorem rd1 : rdec badB twiceW [64, 86, 1] 1 = .ok (T.of 1 1 e0 0 [], 3) := by
  have hk : kindC 86 = some 1 := by decide
  have hd : rdat badB twiceW [64, 86, 1] 32 1 86 1 2 3 (-1) = .ok (T.of 1 1 e0 0 [], 3) := by
    rw [show (32 : Nat) = 31 + 1 from rfl, rdat]
    simp [rnumber, rnum, nwid, getN, formC]
  unfold rdec rval rvalG rnum
  simp [getN, hk, hd]
theorem rd2 : rdec badB twiceW [64, 64] 0 = .ok (T.of 0 0 e0 0 [], 1) := by
  have hk : kindC 64 = some 0 := by decide
  have hd : rdat badB twiceW [64, 64] 32 0 64 0 1 2 (-1) = .ok (T.of 0 0 e0 0 [], 1) := by
    rw [show (32 : Nat) = 31 + 1 from rfl, rdat]
    simp
  unfold rdec rval rvalG rnum
  simp [getN, hk, hd]
theorem rd3 : rdec badB twiceW [82, 255] 0 = .ok (T.of 4 255 e0 0 [], 2) := by
  have hk : kindC 82 = some 4 := by decide
  have hd : rdat badB twiceW [82, 255] 32 4 82 0 1 2 (-1) = .ok (T.of 4 255 e0 0 [], 2) := by
    rw [show (32 : Nat) = 31 + 1 from rfl, rdat]
    simp [rnumber, rnum, nwid, getN, formC]
  unfold rdec rval rvalG rnum
  simp [getN, hk, hd]
theorem rd4 : rdec badB twiceW [112, 0, 0, 0, 255] 0 = .ok (T.of 4 255 e0 0 [], 5) := by
  have hk : kindC 112 = some 4 := by decide
  have hd : rdat badB twiceW [112, 0, 0, 0, 255] 32 4 112 0 1 5 (-1) = .ok (T.of 4 255 e0 0 [], 5) := by
    rw [show (32 : Nat) = 31 + 1 from rfl, rdat]
    simp [rnumber, rnum, nwid, getN, formC]
  unfold rdec rval rvalG rnum
  simp [getN, hk, hd]
theorem own_leaf (k n : Int) (hk : 0 ≤ k ∧ k < 10) (hn : 0 ≤ n ∧ n ≤ 255) (h0 : k = 0 → n = 0) (h1 : k = 1 → n ≤ 1) (h6 : k = 6 → n ≤ 127) : OwnG badB twiceW k n e0 0 [] where
  k0 := hk.1
  k1 := by omega
  n0 := hn.1
  n1 := by omega
  isNull := h0
  isText := fun h => by omega
  isList := fun h => by omega
  isArr := fun h => by omega
  isNum := fun _ => ⟨rfl, rfl, rfl⟩
  num := ⟨h1, by omega, by omega, by omega, by omega, by omega, by omega, by omega⟩
  six := fun h => by omega
  utf := fun h => by omega
  map := fun h => by omega
  desc := fun h => by omega
theorem enc_u : T.enc (T.of 4 255 e0 0 []) = [82, 255] ∧ T.len (T.of 4 255 e0 0 []) = 2 ∧ Gd badB twiceW (T.of 4 255 e0 0 []) 32 ∧ T.wt (T.of 4 255 e0 0 []) = 1 := by
  have hb : T.body (T.of 4 255 e0 0 []) = 0 := body_none _ _ _ _ _ _ (by omega)
  have hc : T.code (T.of 4 255 e0 0 []) = 82 := by
    unfold T.code
    rw [hb]
    show codeG 4 255 ([] : List V).length 0 = 82
    decide
  refine ⟨?_, ?_, ?_, ?_⟩
  · unfold T.enc
    rw [hc, T.of, data_of]
    decide
  · unfold T.len
    rw [hc, hb]
    decide
  · rw [T.of, Gd_of]
    exact ⟨by omega, own_leaf 4 255 (by omega) (by omega) (by omega) (by omega) (by omega), by simp⟩
  · rw [T.wt_of]
    rfl
theorem wh2 : rwhole [64, 64] = .error (1, 35) := by unfold rwhole; rw [rd2]; simp
theorem wh3 : rwhole [82, 255] = .ok (T.of 4 255 e0 0 []) := by unfold rwhole; rw [rd3]; simp
theorem wh4 : rwhole [112, 0, 0, 0, 255] = .ok (T.of 4 255 e0 0 []) := by unfold rwhole; rw [rd4]; simp
theorem sh3 : shortP [82, 255] := ⟨_, wh3, enc_u.2.2.1, by rw [enc_u.2.1]; omega, enc_u.1⟩
theorem sh4 : ¬ shortP [112, 0, 0, 0, 255] := by
  rintro ⟨t, h, _, _, h2⟩
  rw [wh4] at h
  cases h
  rw [enc_u.1] at h2
  simp at h2
/-- the value of the first example -/
def exV (b : Nat) : V := V.of 21 0 e0 (some ⟨b, 0, none⟩) 2 0 [V.of 1 1 e0 none 0 0 [], V.of 4 1 e0 none 0 0 []]
def exT : T := T.of 21 0 e0 0 [T.of 1 1 e0 0 [], T.of 4 1 e0 0 []]
theorem exV_t (b : Nat) : (exV b).t = exT := by
  unfold exV exT
  rw [V.t_of]
  simp only [V.ts, V.t_of]
theorem ex_enc : T.enc exT = [192, 4, 2, 65, 82, 1] ∧ T.len exT = 6 ∧ Gd badB twiceW exT 32 ∧ T.wt exT ≤ 100 := by
  have b1 : T.body (T.of 1 1 e0 0 []) = 0 := body_none _ _ _ _ _ _ (by omega)
  have b4 : T.body (T.of 4 1 e0 0 []) = 0 := body_none _ _ _ _ _ _ (by omega)
  have c1 : T.code (T.of 1 1 e0 0 []) = 65 := by unfold T.code; rw [b1]; show codeG 1 1 ([] : List V).length 0 = 65; decide
  have c4 : T.code (T.of 4 1 e0 0 []) = 82 := by unfold T.code; rw [b4]; show codeG 4 1 ([] : List V).length 0 = 82; decide
  have n1 : T.enc (T.of 1 1 e0 0 []) = [65] := by unfold T.enc; rw [c1, T.of, data_of]; decide
  have n4 : T.enc (T.of 4 1 e0 0 []) = [82, 1] := by unfold T.enc; rw [c4, T.of, data_of]; decide
  have l1 : T.len (T.of 1 1 e0 0 []) = 1 := by unfold T.len; rw [c1, b1]; decide
  have l4 : T.len (T.of 4 1 e0 0 []) = 2 := by unfold T.len; rw [c4, b4]; decide
  have hb : T.body exT = 3 := by
    unfold exT
    rw [T.of, body_enc _ _ _ _ _ _ _ (by omega)]
    simp [l1, l4]
  have hc : T.code exT = 192 := by
    unfold T.code
    rw [hb]
    show codeG 21 0 (V.l exT).length 3 = 192
    rw [show V.l exT = [T.of 1 1 e0 0 [], T.of 4 1 e0 0 []] from V.l_of _ _ _ _ _ _ _]
    decide
  refine ⟨?_, ?_, ?_, ?_⟩
  · unfold T.enc
    rw [hc]
    have : T.data exT 192 = [4, 2, 65, 82, 1] := by
      have hbx := hb
      unfold exT at hbx ⊢
      rw [T.of] at hbx ⊢
      rw [data_of, hbx]
      simp only [encs, List.map_cons, List.map_nil, n1, n4]
      decide
    rw [this]
  · unfold T.len
    rw [hc, hb]
    decide
  · unfold exT
    rw [T.of, Gd_of]
    refine ⟨by omega, ⟨by omega, by omega, by omega, by omega, fun _ => rfl, fun h => by omega, fun _ => ⟨rfl, rfl, rfl⟩, fun h => by omega, fun h => by omega, ⟨by omega, by omega, by omega, by omega, by omega, by omega, by omega, by omega⟩, fun h => by omega, fun h => by omega, fun h => by omega, fun h => by omega⟩, fun x hx => ?_⟩
    simp only [List.mem_cons, List.not_mem_nil, or_false] at hx
    rcases hx with rfl | rfl
    · rw [T.of, Gd_of]
      exact ⟨by omega, own_leaf 1 1 (by omega) (by omega) (by omega) (by omega) (by omega), by simp⟩
    · rw [T.of, Gd_of]
      exact ⟨by omega, own_leaf 4 1 (by omega) (by omega) (by omega) (by omega) (by omega), by simp⟩
  · unfold exT
    rw [T.wt_of]
    simp only [T.wts, T.wt_of]
    decide
theorem ex_lies (w W : World) (h : W.heap[w.heap.size]? = some (.cells #[.int .i64 1, .int .u64 1, .string ⟨#[]⟩, .slice none 0 0, .int .i64 0, .int .i64 4, .int .u64 1, .string ⟨#[]⟩, .slice none 0 0, .int .i64 0] 25)) (hz : w.heap.size < W.heap.size) : Lies W.heap.size W (exV w.heap.size) := by
  refine .mk ⟨by decide, by decide, by decide, by decide, by decide, by decide⟩ (fun _ => ⟨w.heap.size, 0, rfl, hz, fun i hi => ?_⟩) (fun x hx => ?_)
  · have : i = 0 ∨ i = 1 := by simp at hi; omega
    rcases this with rfl | rfl <;> simp [World.cell?, h, V.k_of, V.n_of, V.s_of, V.a_of, V.l_of, V.c_of, V.e_of, e0]
  · simp only [List.mem_cons, List.not_mem_nil, or_false] at hx
    rcases hx with rfl | rfl
    · exact lies_leaf _ _ _ _ _ (by omega) (by omega) (by decide)
    · exact lies_leaf _ _ _ _ _ (by omega) (by omega) (by decide)
theorem aw_dec (w : World) (hT : SzTab w) (hU : Lib.Utf8Tabs 1 2 w) : Calls Tryd.prog 9 #[.slice (some ⟨w.heap.size, 0, none⟩) 3 3, .int .i64 1] (w.alloc (.cells #[.int .u8 64, .int .u8 86, .int .u8 1] 5)) fun e w' => ∃ s b len c x, e = .returned (.tuple #[.agg #[.int .i64 1, .int .u64 1, .string s, .slice b len c, .int .i64 x], .int .i64 3, .int .i64 0]) ∧ Below w.heap.size w w' := by
  have hB := bts_new w [64, 86, 1] (by decide) (by decide) hT hU
  have h := decode_leaf _ _ _ 1 _ _ 86 1 hB (by decide) (by decide) (by decide) (by decide) (by decide) (by decide)
  rw [rd1] at h
  refine Calls.mono h ?_
  rintro e w' ⟨⟨y, rfl, HY⟩, hb⟩
  have hy := HY.out.1
  have h1 := (tk_eq y).1
  have h2 := (tk_eq y).2
  rw [hy] at h1 h2
  have h1' : y.k = 1 := h1.symm
  have h2' : y.n = 1 := h2.symm
  refine ⟨y.s, y.a, y.l.length, y.c, y.e, by rw [h1', h2']; rfl, ?_⟩
  exact belOn (bel1 (Below.refl w.heap.size w) (Nat.le_refl _) _) (by simp) hb
theorem aw_whole (w : World) (hT : SzTab w) (hU : Lib.Utf8Tabs 1 2 w) : Calls Tryd.prog 11 #[.slice (some ⟨w.heap.size, 0, none⟩) 2 2] (w.alloc (.cells #[.int .u8 64, .int .u8 64] 5)) fun e w' => e = .returned (.tuple #[.agg #[.int .i64 0, .int .u64 0, .string ⟨#[]⟩, .slice none 0 0, .int .i64 0], .int .i64 1, .int .i64 35]) ∧ Below w.heap.size w w' := by
  have hB := bts_new w [64, 64] (by decide) (by decide) hT hU
  have h := whole_of (some ⟨w.heap.size, 0, none⟩) 2 2 [64, 64] (w.alloc (.cells #[.int .u8 64, .int .u8 64] 5)) rfl (by omega) (fun x hx => by rw [rd2] at hx; cases hx) (fun W1 hW => decode_leaf _ _ _ 0 _ W1 64 0 (hB.below hW) (by decide) (by decide) (by decide) (by decide) (by decide) (by decide))
  rw [wh2] at h
  refine Calls.mono h ?_
  rintro e w' ⟨rfl, hb⟩
  exact ⟨rfl, belOn (bel1 (Below.refl w.heap.size w) (Nat.le_refl _) _) (by simp) hb⟩
theorem aw_short3 (w : World) (hT : SzTab w) (hU : Lib.Utf8Tabs 1 2 w) : Calls Tryd.prog 12 #[.slice (some ⟨w.heap.size, 0, none⟩) 2 2] (w.alloc (.cells #[.int .u8 82, .int .u8 255] 5)) fun e w' => e = .returned (.bool true) ∧ Below w.heap.size w w' := by
  have hB := bts_new w [82, 255] (by decide) (by decide) hT hU
  have hw := whole_of (some ⟨w.heap.size, 0, none⟩) 2 2 [82, 255] (w.alloc (.cells #[.int .u8 82, .int .u8 255] 5)) rfl (by omega) (fun x hx => by rw [rd3] at hx; cases hx) (fun W1 hW => decode_leaf _ _ _ 0 _ W1 82 4 (hB.below hW) (by decide) (by decide) (by decide) (by decide) (by decide) (by decide))
  have h := shortest_of (some ⟨w.heap.size, 0, none⟩) 2 2 [82, 255] (w.alloc (.cells #[.int .u8 82, .int .u8 255] 5)) hB (by omega) (fun x hx => by rw [wh3] at hx; cases hx) (fun t ht => by rw [wh3] at ht; cases ht; rw [enc_u.2.2.2]; omega) hw
  refine Calls.mono h ?_
  rintro e w' ⟨b, rfl, HB, hb⟩
  have : b = true := HB.out.2 sh3
  exact ⟨by rw [this], belOn (bel1 (Below.refl w.heap.size w) (Nat.le_refl _) _) (by simp) hb⟩
theorem aw_short4 (w : World) (hT : SzTab w) (hU : Lib.Utf8Tabs 1 2 w) : Calls Tryd.prog 12 #[.slice (some ⟨w.heap.size, 0, none⟩) 5 5] (w.alloc (.cells #[.int .u8 112, .int .u8 0, .int .u8 0, .int .u8 0, .int .u8 255] 5)) fun e w' => e = .returned (.bool false) ∧ Below w.heap.size w w' := by
  have hB := bts_new w [112, 0, 0, 0, 255] (by decide) (by decide) hT hU
  have hw := whole_of (some ⟨w.heap.size, 0, none⟩) 5 5 [112, 0, 0, 0, 255] (w.alloc (.cells #[.int .u8 112, .int .u8 0, .int .u8 0, .int .u8 0, .int .u8 255] 5)) rfl (by omega) (fun x hx => by rw [rd4] at hx; cases hx) (fun W1 hW => decode_leaf _ _ _ 0 _ W1 112 4 (hB.below hW) (by decide) (by decide) (by decide) (by decide) (by decide) (by decide))
  have h := shortest_of (some ⟨w.heap.size, 0, none⟩) 5 5 [112, 0, 0, 0, 255] (w.alloc (.cells #[.int .u8 112, .int .u8 0, .int .u8 0, .int .u8 0, .int .u8 255] 5)) hB (by omega) (fun x hx => by rw [wh4] at hx; cases hx) (fun t ht => by rw [wh4] at ht; cases ht; rw [enc_u.2.2.2]; omega) hw
  refine Calls.mono h ?_
  rintro e w' ⟨b, rfl, HB, hb⟩
  have : b = false := by
    cases b with
    | false => rfl
    | true => exact absurd (HB.out.1 rfl) sh4
  exact ⟨by rw [this], belOn (bel1 (Below.refl w.heap.size w) (Nat.le_refl _) _) (by simp) hb⟩
set_option maxRecDepth 100000 in
set_option maxHeartbeats 4000000 in
theorem awake_any (w : World) (hT : SzTab w) (hU : Lib.Utf8Tabs 1 2 w) : Calls Tryd.prog 5 #[] w fun e w' => e = .returned (.bool true) ∧ Below w.heap.size w w' := by
  have HTB : Hid (∀ W1, Below w.heap.size w W1 → SzTab W1 ∧ Lib.Utf8Tabs 1 2 W1) := fun W1 hW => ⟨hT.below hW, tabs_below hU hW⟩
  clear hT hU
  obtain ⟨W0, hW0⟩ : ∃ W0, (w.alloc (Obj.cells #[.int .i64 1, .int .u64 1, .string ⟨#[]⟩, .slice none 0 0, .int .i64 0, .int .i64 4, .int .u64 1, .string ⟨#[]⟩, .slice none 0 0, .int .i64 0] 25)).alloc (Obj.cells #[.int .i64 21, .int .u64 0, .string ⟨#[]⟩, .slice (some ⟨w.heap.size, 0, none⟩) 2 2, .int .i64 0] 25) = W0 := ⟨_, rfl⟩
  have hb0 : Below w.heap.size w W0 := by rw [← hW0]; exact bel2 (Below.refl _ _) (Nat.le_refl _) _ _
  have hx0 : W0.heap[w.heap.size]? = some (.cells #[.int .i64 1, .int .u64 1, .string ⟨#[]⟩, .slice none 0 0, .int .i64 0, .int .i64 4, .int .u64 1, .string ⟨#[]⟩, .slice none 0 0, .int .i64 0] 25) := by rw [← hW0]; exact heap_past (World.alloc_heap_new _ _) _
  have hx1 : W0.heap[w.heap.size + 1]? = some (.cells #[.int .i64 21, .int .u64 0, .string ⟨#[]⟩, .slice (some ⟨w.heap.size, 0, none⟩) 2 2, .int .i64 0] 25) := by rw [← hW0]; exact heap_at1 _ _ _
  have hz0 : W0.heap.size = w.heap.size + 2 := by rw [← hW0]; simp
  have HLI : Hid (∀ W1, Below W0.heap.size W0 W1 → Lies W1.heap.size W1 (exV w.heap.size) ∧ Below w.heap.size w W1) := fun W1 hW => ⟨ex_lies w W1 ((hW.block _ (by omega)).trans hx0) (by have := hW.size; omega), belOn hb0 (by omega) hW⟩
  have HVX : Hid (∀ W1, Below W0.heap.size W0 W1 → W1.heap[w.heap.size + 1]? = some (.cells #[.int .i64 21, .int .u64 0, .string ⟨#[]⟩, .slice (some ⟨w.heap.size, 0, none⟩) 2 2, .int .i64 0] 25) ∧ w.heap.size + 1 < W1.heap.size) := fun W1 hW => ⟨(hW.block _ (by omega)).trans hx1, by have := hW.size; omega⟩
  have hval : (exV w.heap.size).val = .agg #[.int .i64 21, .int .u64 0, .string ⟨#[]⟩, .slice (some ⟨w.heap.size, 0, none⟩) 2 2, .int .i64 0] := by unfold exV; rw [V.val_of]; rfl
  have hee : ∀ W1, Below W0.heap.size W0 W1 → encE (exV w.heap.size) = 0 := fun W1 hW => by
    rw [encE_iff _ _ _ (HLI.out W1 hW).1, exV_t]
    exact ⟨ex_enc.2.2.1, by rw [ex_enc.2.1]; omega⟩
  have HEN : Hid (∀ W1, Below W0.heap.size W0 W1 → Calls Tryd.prog 7 #[.agg #[.int .i64 21, .int .u64 0, .string ⟨#[]⟩, .slice (some ⟨w.heap.size, 0, none⟩) 2 2, .int .i64 0]] W1 fun e w' => (∃ g, e = .returned (.tuple #[.slice (some ⟨g, 0, none⟩) 6 6, .int .i64 0]) ∧ Hid (Rd w' (some ⟨g, 0, none⟩) 6 [192, 4, 2, 65, 82, 1])) ∧ Below W1.heap.size W1 w') := fun W1 hW => by
    have h := encode_any (exV w.heap.size) W1.heap.size W1 (Nat.le_refl _) (HLI.out W1 hW).1 (HTB.out W1 (HLI.out W1 hW).2).1 (HTB.out W1 (HLI.out W1 hW).2).2 (by rw [exV_t]; have := ex_enc.2.2.2; omega)
    rw [hval] at h
    refine Calls.mono h ?_
    rintro e w' (⟨hz, _⟩ | ⟨hz, g, rfl, HG, hb⟩)
    · exact absurd (hee W1 hW) hz
    · refine ⟨⟨g, by rw [exV_t, ex_enc.2.1], ?_⟩, hb⟩
      have hg := HG.out.2.1.rd (enc_lt _)
      rw [exV_t, ex_enc.1] at hg
      exact hg
  have HLE : Hid (∀ W1, Below W0.heap.size W0 W1 → Calls Tryd.prog 10 #[.agg #[.int .i64 21, .int .u64 0, .string ⟨#[]⟩, .slice (some ⟨w.heap.size, 0, none⟩) 2 2, .int .i64 0]] W1 fun e w' => e = .returned (.tuple #[.int .i64 6, .int .i64 0]) ∧ Below W1.heap.size W1 w') := fun W1 hW => by
    have h := length_any (exV w.heap.size) W1.heap.size W1 (Nat.le_refl _) (HLI.out W1 hW).1 (HTB.out W1 (HLI.out W1 hW).2).1 (HTB.out W1 (HLI.out W1 hW).2).2 (by rw [exV_t]; have := ex_enc.2.2.2; omega)
    rw [hval, hee W1 hW, exV_t, ex_enc.2.1] at h
    exact h
  have HDE : Hid (∀ W1, Below w.heap.size w W1 → Calls Tryd.prog 9 #[.slice (some ⟨W1.heap.size, 0, none⟩) 3 3, .int .i64 1] (W1.alloc (.cells #[.int .u8 64, .int .u8 86, .int .u8 1] 5)) fun e w' => ∃ s b len c x, e = .returned (.tuple #[.agg #[.int .i64 1, .int .u64 1, .string s, .slice b len c, .int .i64 x], .int .i64 3, .int .i64 0]) ∧ Below W1.heap.size W1 w') := fun W1 hW => aw_dec W1 (HTB.out W1 hW).1 (HTB.out W1 hW).2
  have HWH : Hid (∀ W1, Below w.heap.size w W1 → Calls Tryd.prog 11 #[.slice (some ⟨W1.heap.size, 0, none⟩) 2 2] (W1.alloc (.cells #[.int .u8 64, .int .u8 64] 5)) fun e w' => e = .returned (.tuple #[.agg #[.int .i64 0, .int .u64 0, .string ⟨#[]⟩, .slice none 0 0, .int .i64 0], .int .i64 1, .int .i64 35]) ∧ Below W1.heap.size W1 w') := fun W1 hW => aw_whole W1 (HTB.out W1 hW).1 (HTB.out W1 hW).2
  have HS3 : Hid (∀ W1, Below w.heap.size w W1 → Calls Tryd.prog 12 #[.slice (some ⟨W1.heap.size, 0, none⟩) 2 2] (W1.alloc (.cells #[.int .u8 82, .int .u8 255] 5)) fun e w' => e = .returned (.bool true) ∧ Below W1.heap.size W1 w') := fun W1 hW => aw_short3 W1 (HTB.out W1 hW).1 (HTB.out W1 hW).2
  have HS4 : Hid (∀ W1, Below w.heap.size w W1 → Calls Tryd.prog 12 #[.slice (some ⟨W1.heap.size, 0, none⟩) 5 5] (W1.alloc (.cells #[.int .u8 112, .int .u8 0, .int .u8 0, .int .u8 0, .int .u8 255] 5)) fun e w' => e = .returned (.bool false) ∧ Below W1.heap.size W1 w') := fun W1 hW => aw_short4 W1 (HTB.out W1 hW).1 (HTB.out W1 hW).2
  have HW0 := hide hW0
  have HB0 := hide hb0
  clear hW0 hx0 hx1 hval hee hb0 hz0
  go_enter Tryd.func5, Tryd.ntmps5
  go_wp2_with fail
  rw [HW0.out]
  refine Calls.mono (HEN.out _ (Below.refl _ _)) ?_
  rintro e1 w1 ⟨⟨g, rfl, HRD⟩, hb1⟩
  have HB1 := hide hb1
  obtain ⟨q1, hz1⟩ := HVX.out w1 hb1
  have k0 := cells_at q1 0
  have k1 := cells_at q1 1
  have k2 := cells_at q1 2
  have k3 := cells_at q1 3
  have k4 := cells_at q1 4
  simp only [List.getElem?_toArray, List.getElem?_cons_zero, List.getElem?_cons_succ] at k0 k1 k2 k3 k4
  clear hb1 q1
  go_wp2_with fail
  refine Calls.mono (HLE.out _ HB1.out) ?_
  rintro e2 w2 ⟨rfl, hb2⟩
  have HB2 : Hid (Below W0.heap.size W0 w2) := belOn HB1.out HB1.out.size hb2
  have HR2 : Hid (Rd w2 (some ⟨g, 0, none⟩) 6 [192, 4, 2, 65, 82, 1]) := HRD.out.below hb2
  clear k0 k1 k2 k3 k4 hb2
  go_wp2_with fail
  refine Calls.mono (HDE.out _ (HLI.out _ HB2.out).2) ?_
  rintro e3 w3 ⟨s, b, len, c, x, rfl, hb3⟩
  have HB3 : Hid (Below w.heap.size w w3) := belOn (HLI.out _ HB2.out).2 (HLI.out _ HB2.out).2.size hb3
  have HR3 : Hid (Rd w3 (some ⟨g, 0, none⟩) 6 [192, 4, 2, 65, 82, 1]) := HR2.out.below hb3
  clear hb3
  obtain ⟨W4, hW4⟩ : ∃ W4, w3.alloc (Obj.cells #[.int .i64 1, .int .u64 1, .string s, .slice b len c, .int .i64 x] 25) = W4 := ⟨_, rfl⟩
  have HX4 : Hid (W4.heap[w3.heap.size]? = some (.cells #[.int .i64 1, .int .u64 1, .string s, .slice b len c, .int .i64 x] 25)) := by show W4.heap[w3.heap.size]? = _; rw [← hW4]; exact World.alloc_heap_new _ _
  have HB4 : Hid (Below w.heap.size w W4) := by show Below _ _ _; rw [← hW4]; exact bel1 HB3.out HB3.out.size _
  have HR4 : Hid (Rd W4 (some ⟨g, 0, none⟩) 6 [192, 4, 2, 65, 82, 1]) := by show Rd _ _ _ _; rw [← hW4]; exact HR3.out.below (bel1 (Below.refl _ _) (Nat.le_refl _) _)
  have HZ4 : Hid (w3.heap.size < W4.heap.size) := by show w3.heap.size < W4.heap.size; rw [← hW4]; simp
  have hz4 : W4.heap.size = w3.heap.size + 1 := by rw [← hW4]; simp
  have hwh := HWH.out W4 HB4.out
  rw [hz4] at hwh
  have HWH4 := hide hwh
  have HSZ4 := hide hz4
  have HW4 := hide hW4
  clear hW4 hwh hz4
  go_wp2_with fail
  rw [HW4.out]
  refine Calls.mono HWH4.out ?_
  rintro e5 w5 ⟨rfl, hb5'⟩
  have hb5 : Below W4.heap.size W4 w5 := by rw [HSZ4.out]; exact hb5'
  clear hb5'
  have HB5 : Hid (Below w.heap.size w w5) := belOn HB4.out HB4.out.size hb5
  have HR5 : Hid (Rd w5 (some ⟨g, 0, none⟩) 6 [192, 4, 2, 65, 82, 1]) := HR4.out.below hb5
  have HX5 : Hid (w5.heap[w3.heap.size]? = some (.cells #[.int .i64 1, .int .u64 1, .string s, .slice b len c, .int .i64 x] 25)) := (hb5.block _ HZ4.out).trans HX4.out
  clear hb5
  obtain ⟨W6, hW6⟩ : ∃ W6, w5.alloc (Obj.cells #[.int .i64 0, .int .u64 0, .string ⟨#[]⟩, .slice none 0 0, .int .i64 0] 25) = W6 := ⟨_, rfl⟩
  have HB6 : Hid (Below w.heap.size w W6) := by show Below _ _ _; rw [← hW6]; exact bel1 HB5.out HB5.out.size _
  have HR6 : Hid (Rd W6 (some ⟨g, 0, none⟩) 6 [192, 4, 2, 65, 82, 1]) := by show Rd _ _ _ _; rw [← hW6]; exact HR5.out.below (bel1 (Below.refl _ _) (Nat.le_refl _) _)
  have HX6 : Hid (W6.heap[w3.heap.size]? = some (.cells #[.int .i64 1, .int .u64 1, .string s, .slice b len c, .int .i64 x] 25)) := by show W6.heap[w3.heap.size]? = _; rw [← hW6]; exact heap_past HX5.out _
  have hz6 : W6.heap.size = w5.heap.size + 1 := by rw [← hW6]; simp
  have hs3 := HS3.out W6 HB6.out
  rw [hz6] at hs3
  have HS36 := hide hs3
  have HSZ6 := hide hz6
  have HW6 := hide hW6
  clear hW6 hs3 hz6
  go_wp2_with fail
  rw [HW6.out]
  refine Calls.mono HS36.out ?_
  rintro e7 w7 ⟨rfl, hb7'⟩
  have hb7 : Below W6.heap.size W6 w7 := by rw [HSZ6.out]; exact hb7'
  clear hb7'
  have HB7 : Hid (Below w.heap.size w w7) := belOn HB6.out HB6.out.size hb7
  have HR7 : Hid (Rd w7 (some ⟨g, 0, none⟩) 6 [192, 4, 2, 65, 82, 1]) := HR6.out.below hb7
  have HX7 : Hid (w7.heap[w3.heap.size]? = some (.cells #[.int .i64 1, .int .u64 1, .string s, .slice b len c, .int .i64 x] 25)) := (hb7.block _ (Array.getElem?_eq_some_iff.1 HX6.out).1).trans HX6.out
  clear hb7
  go_wp2_with fail
  refine Calls.mono (HS4.out _ HB7.out) ?_
  rintro e8 w8 ⟨rfl, hb8⟩
  have HB8 : Hid (Below w.heap.size w w8) := belOn HB7.out HB7.out.size hb8
  have hr8 : Rd w8 (some ⟨g, 0, none⟩) 6 [192, 4, 2, 65, 82, 1] := HR7.out.below hb8
  have hx8 : w8.heap[w3.heap.size]? = some (.cells #[.int .i64 1, .int .u64 1, .string s, .slice b len c, .int .i64 x] 25) := (hb8.block _ (Array.getElem?_eq_some_iff.1 HX7.out).1).trans HX7.out
  obtain ⟨S, hS⟩ : ∃ S : ByteArray, S = mkS [192, 4, 2, 65, 82, 1] := ⟨_, rfl⟩
  have hcv : (convert 28 9 (.slice (some ⟨g, 0, none⟩) 6 6)).run Tryd.prog w8 = .ok (.string S) w8 := by rw [hS]; exact conv8 hr8 (by omega) 6
  have hse : S.toList = [192, 4, 2, 65, 82, 1] := by rw [hS, mkS_list]; rfl
  clear hS
  have k0 := cells_at hx8 0
  have k1 := cells_at hx8 1
  simp only [List.getElem?_toArray, List.getElem?_cons_zero, List.getElem?_cons_succ] at k0 k1
  have hz8 := (Array.getElem?_eq_some_iff.1 hx8).1
  clear hb8 hr8 hx8
  go_wp2
  go_ret
  refine ⟨?_, HB8.out⟩
  first | rfl | simp
end Go.Proofs.YtgpimajdcfoigabDoor
