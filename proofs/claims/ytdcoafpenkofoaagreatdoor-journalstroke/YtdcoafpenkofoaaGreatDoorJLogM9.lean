import Derived.Test.YtdcoafpenkofoaaGreatDoorJLstM9

/- Stage 20: bytes of batches. -/
namespace Go.Proofs.YtdcoafpenkofoaaGreatDoor
open Go.RowKit
set_option linter.unusedVariables false
set_option linter.unusedSimpArgs false
/-- a number as four bytes -/
def num4 (k : Nat) : List Nat := [dig k 3, dig k 2, dig k 1, dig k 0]
theorem num4_lt (k : Nat) : ∀ c ∈ num4 k, c < 256 := by
  intro c hc
  simp only [num4, dig, List.mem_cons, List.not_mem_nil, or_false] at hc
  rcases hc with rfl | rfl | rfl | rfl <;> exact Nat.mod_lt _ (by decide)
theorem num4_len (k : Nat) : (num4 k).length = 4 := rfl
theorem put4 (k : Nat) (w : World) (hk : k < 18446744073709551616) : Calls Tryz.prog 189 #[.int .u64 (k : Int), .int .i64 4] w fun e w' => e = .returned (.slice (some ⟨w.heap.size, 0, none⟩) 4 4) ∧ Rb w' (.slice (some ⟨w.heap.size, 0, none⟩) 4 4) (num4 k) ∧ Below w.heap.size w w' := by
  refine (put_yes k 4 w hk (by decide) (by decide)).mono ?_
  rintro e w' ⟨rfl, hrow, hsz, hb⟩
  refine ⟨rfl, ⟨_, 4, rfl, (fun h => by cases h), by simp [num4], rfl, num4_lt k, fun _ => ⟨w.heap.size, 0, rfl, by omega, fun j hj => ?_⟩⟩, hb⟩
  rw [Nat.zero_add, hrow.cell hj]
  have hj4 : j < 4 := hj
  have : j = 0 ∨ j = 1 ∨ j = 2 ∨ j = 3 := by omega
  rcases this with rfl | rfl | rfl | rfl <;> rfl
set_option maxHeartbeats 1000000 in
theorem appendNumber_any (B : Nat) (v : Value) (l : List Nat) (k : Nat) (w : World) (hv : Ob B w v l) (hB : B ≤ w.heap.size) (hk : k < 4294967296) (hl : l.length ≤ 4294967296) :
    Calls Tryz.prog 174 #[v, .int .i64 (k : Int)] w fun e w' => ∃ v', e = .returned v' ∧ Ob B w' v' (l ++ num4 k) ∧ Below B w w' := by
  obtain ⟨va, vc, rfl, _⟩ := hv.slice
  have HP := hide (put4 k w (by omega))
  have HV := hide hv
  have HBB := hide hB
  clear hv
  go_enter Tryz.func174, Tryz.ntmps174
  go_wp2_with fail
  refine HP.out.mono ?_
  rintro e w1 ⟨rfl, hrb, hb⟩
  have HR := hide hrb
  have HB1 := hide hb
  have HV1 := hide (HV.out.below hb)
  clear hrb hb
  go_wp2_with (at_builtin; go_loud (refine wpList_app w1 rfl (.tmp 5) (.tmp 8) rfl B (.slice va l.length vc) l rfl HV1.out (.slice (some ⟨w.heap.size, 0, none⟩) 4 4) (num4 k) rfl HR.out (by rw [num4_len]; omega) (by have := HB1.out.size; have := HBB.out; omega) ?_; intro v' w3 r1 r2 r3; have HO := hide r1; have HG := hide r2; clear r1 r2 r3))
  go_ret
  refine ⟨_, rfl, HO.out, (HB1.out.mono HBB.out).grown HG.out (by have := HB1.out.size; have := HBB.out; omega) (fun q hq => (HV1.out.lt q hq).1)⟩
/-- records that are read -/
def RdB (w : World) (a : Option Addr) (L : List (List Nat)) : Prop := 0 < L.length → ∃ b off, a = some ⟨b, off, none⟩ ∧ b < w.heap.size ∧ ∀ j (hj : j < L.length), ∃ x c, w.cell? ⟨b, off + j, none⟩ = some (.slice x L[j].length c) ∧ Rb w (.slice x L[j].length c) L[j]
theorem RdB.below {w w' : World} {a : Option Addr} {L : List (List Nat)} (h : RdB w a L) (hb : Below w.heap.size w w') : RdB w' a L := fun h0 => by
  obtain ⟨b, off, e, hlt, hc⟩ := h h0
  refine ⟨b, off, e, by have := hb.size; omega, fun j hj => ?_⟩
  obtain ⟨x, c, h1, h2⟩ := hc j hj
  exact ⟨x, c, (hb.cell (p := ⟨b, off + j, none⟩) hlt).trans h1, h2.below hb⟩
/-- a batch's bytes: of its body, of all -/
def bodB (L : List (List Nat)) : List Nat := L.flatMap fun r => num4 r.length ++ r
def bodN (L : List (List Nat)) : Nat := (L.map fun r => 4 + r.length).sum
def hedB (L : List (List Nat)) : List Nat := num4 (bodN L) ++ num4 (sumN (num4 (bodN L)))
def batB (L : List (List Nat)) : List Nat := if L = [] then [] else (hedB L ++ bodB L) ++ num4 (sumN (hedB L ++ bodB L))
def batN (L : List (List Nat)) : Nat := if L = [] then 0 else 12 + bodN L
theorem bodB_len (L : List (List Nat)) : (bodB L).length = bodN L := by
  induction L with
  | nil => rfl
  | cons r L ih =>
    simp only [bodB, bodN, List.flatMap_cons, List.map_cons, List.sum_cons, List.length_append, num4_len] at ih ⊢
    omega
theorem batB_len (L : List (List Nat)) : (batB L).length = batN L := by
  unfold batB batN
  split
  · rfl
  · simp only [List.length_append, num4_len, hedB, bodB_len]
    omega
theorem bodN_take (L : List (List Nat)) {k : Nat} (hk : k < L.length) : bodN (L.take (k + 1)) = bodN (L.take k) + (4 + L[k].length) := by
  unfold bodN
  rw [List.take_succ_eq_append_getElem hk, List.map_append, List.sum_append]
  simp only [List.map_cons, List.map_nil, List.sum_cons, List.sum_nil, Nat.add_zero]
theorem bodB_take (L : List (List Nat)) {k : Nat} (hk : k < L.length) : bodB (L.take (k + 1)) = bodB (L.take k) ++ (num4 L[k].length ++ L[k]) := by
  unfold bodB
  rw [List.take_succ_eq_append_getElem hk, List.flatMap_append]
  simp only [List.flatMap_cons, List.flatMap_nil, List.append_nil]
theorem bodN_mono (L : List (List Nat)) (k : Nat) : bodN (L.take k) ≤ bodN L := by
  induction L generalizing k with
  | nil => simp [bodN]
  | cons r L ih =>
    cases k with
    | zero => simp [bodN]
    | succ k =>
      have := ih k
      simp only [bodN, List.take_succ_cons, List.map_cons, List.sum_cons] at this ⊢
      omega
set_option maxHeartbeats 1000000 in
theorem batchSize_any (a : Option Addr) (cap : Nat) (L : List (List Nat)) (w : World) (hR : RdB w a L) (hn : bodN L ≤ 4611686018427387904) (hl : L.length ≤ 4611686018427387904) :
    Calls Tryz.prog 142 #[.slice a L.length cap] w fun e w' => e = .returned (.int .i64 (batN L : Int)) ∧ w' = w := by
  by_cases h0 : L = []
  · subst h0
    go_enter Tryz.func142, Tryz.ntmps142
    go_wp2
    go_ret
    exact ⟨rfl, rfl⟩
  · have hpos : 0 < L.length := List.length_pos_iff.2 h0
    obtain ⟨b, off, rfl, hlt, hc⟩ := hR hpos
    have HC := hide hc
    have HN : Hid (batN L = 12 + bodN L) := by show batN L = _; unfold batN; rw [if_neg h0]
    clear hc hR h0
    have hne : ((L.length : Int) == 0) = false := beq_eq_false_iff_ne.2 (by omega)
    go_enter Tryz.func142, Tryz.ntmps142
    go_wp2
    go_loop [3, 11] (fun n i => ∃ k : Nat, k ≤ L.length ∧ i = .int .i64 (k : Int) ∧ n = .int .i64 ((12 + bodN (L.take k) : Nat) : Int)) (fun _ i => L.length - (intOf i).toNat)
    case atStart => exact ⟨0, Nat.zero_le _, rfl, rfl⟩
    case round =>
      obtain ⟨k, hk, rfl, rfl⟩ := hrel
      by_cases hkn : k < L.length
      · obtain ⟨x, c, hcell, _⟩ := HC.out k hkn
        have hs := bodN_take L hkn
        have hm := bodN_mono L (k + 1)
        have HS : Hid (bodN (L.take (k + 1)) = bodN (L.take k) + (4 + L[k].length)) := hs
        rw [hs] at hm
        clear hs
        generalize bodN (L.take k) = q at *
        generalize L[k].length = m at *
        have hki : (k : Int) < (L.length : Int) := by omega
        go_wp2
        go_round
        case rel => exact ⟨k + 1, by omega, by go_num, by rw [HS.out]; go_num⟩
        case measure => simp [intOf]; omega
      · have hkn' : k = L.length := by omega
        subst hkn'
        go_wp2
        go_ret
        rw [HN.out]
        exact ⟨ret_intJ (a := 12 + (bodN L : Int)) (by omega), rfl⟩
theorem Ob.some {B : Nat} {w : World} {v : Value} {l : List Nat} (h : Ob B w v l) (h0 : 0 < l.length) : ∃ g cap, v = .slice (some ⟨g, 0, none⟩) l.length cap ∧ l.length ≤ cap ∧ Rd w (some ⟨g, 0, none⟩) l.length l := by
  obtain ⟨a, c, rfl, _, h2, h3⟩ := h.rb
  rcases h.1.2 with ⟨e, hn⟩ | ⟨g, cap, cur, e, _⟩
  · omega
  · simp only [Value.slice.injEq] at e
    obtain ⟨rfl, _, rfl⟩ := e
    exact ⟨g, c, rfl, h2, h3⟩
theorem sumAt (x : Option Addr) (m c : Nat) (t : List Nat) (W : World) (h : Rd W x m t) (hm : m ≤ 140737488355328) : Calls Tryz.prog 175 #[.slice (some ⟨W.heap.size, 0, none⟩) 1 1] (W.alloc (.cells #[.slice x m c] 23)) fun e w' => e = .returned (.int .u32 ((sumN t : Nat) : Int)) ∧ Below W.heap.size W w' := by
  have hb : Below W.heap.size W (W.alloc (.cells #[.slice x m c] 23)) := bel1 (Below.refl _ _) (Nat.le_refl _) _
  refine (sum1 W.heap.size x m c t _ (cellOf (heap_new W _) 0 _ rfl) hm (h.below hb)).mono ?_
  rintro e w' ⟨rfl, hb'⟩
  exact ⟨rfl, belOn hb hb.size hb'⟩
theorem Ob.byte {B : Nat} {w : World} {v : Value} {l : List Nat} (h : Ob B w v l) : ∀ c ∈ l, c < 256 := h.2
set_option maxHeartbeats 2000000 in
/-- bytes of a batch are laid behind a log's -/
theorem appendBatch_any (B : Nat) (v : Value) (l : List Nat) (a : Option Addr) (cap : Nat) (L : List (List Nat)) (w0 w : World) (hv : Ob B w v l) (hB : w0.heap.size = B) (hb0 : Below B w0 w) (hR : RdB w0 a L) (hL : L.length ≤ 4294967296) (hn : l.length + batN L ≤ 16777216) :
    Calls Tryz.prog 143 #[v, .slice a L.length cap] w fun e w' => ∃ v', e = .returned v' ∧ Ob B w' v' (l ++ batB L) ∧ Below B w w' := by
  obtain ⟨va, vc, rfl, hvc⟩ := hv.slice
  have hBw : B ≤ w.heap.size := by have := hb0.size; omega
  by_cases h0 : L = []
  · subst h0
    have HV := hide hv
    clear hv
    go_enter Tryz.func143, Tryz.ntmps143
    go_wp2
    go_ret
    exact ⟨_, rfl, by rw [show batB [] = [] from rfl, List.append_nil]; exact HV.out, Below.refl _ _⟩
  · have hpos : 0 < L.length := List.length_pos_iff.2 h0
    have hne : ((L.length : Int) == 0) = false := beq_eq_false_iff_ne.2 (by omega)
    have hbn : batN L = 12 + bodN L := by unfold batN; rw [if_neg h0]
    rw [hbn] at hn
    have hRw : RdB w a L := hR.below (by rw [hB]; exact hb0)
    have HBS := hide (batchSize_any a cap L w hRw (by omega) (by omega))
    have HAN : Hid (∀ (V : Value) (t : List Nat) (k : Nat) (W : World), Ob B W V t → B ≤ W.heap.size → k < 4294967296 → t.length ≤ 4294967296 → Calls Tryz.prog 174 #[V, .int .i64 (k : Int)] W fun e w' => ∃ v', e = .returned v' ∧ Ob B w' v' (t ++ num4 k) ∧ Below B W w') := fun V t k W h1 h2 h3 h4 => appendNumber_any B V t k W h1 h2 h3 h4
    rw [hbn] at HBS
    have HV := hide hv
    have HR := hide hR
    have HB0 := hide hb0
    have HBE := hide hB
    clear hv hR hb0 hRw
    have HSM : Hid (∀ (W : World) (x : Option Addr) (m c : Nat) (t : List Nat), Rd W x m t → m ≤ 140737488355328 → Calls Tryz.prog 175 #[.slice (some ⟨W.heap.size, 0, none⟩) 1 1] (W.alloc (.cells #[.slice x m c] 23)) fun e w' => e = .returned (.int .u32 ((sumN t : Nat) : Int)) ∧ Below W.heap.size W w') := fun W x m c t h1 h2 => sumAt x m c t W h1 h2
    have e1 : (12 : Int) + (bodN L : Int) - 8 - 4 = (bodN L : Int) := by omega
    go_enter Tryz.func143, Tryz.ntmps143
    go_wp2_with (first | (go_at_call 142; refine HBS.out.mono ?_; rintro e w' ⟨rfl, rfl⟩) | fail)
    rename World => w
    refine (HAN.out _ l (bodN L) w HV.out hBw (by omega) (by omega)).mono ?_
    rintro e w1 ⟨v1, rfl, hv1, hb1⟩
    obtain ⟨g1, c1, rfl, hc1, hr1⟩ := hv1.some (by rw [List.length_append, num4_len]; omega)
    have hl1 : (l ++ num4 (bodN L)).length = l.length + 4 := by rw [List.length_append, num4_len]
    have hs1 := hr1.drop (k := l.length) (by omega)
    rw [List.drop_left] at hs1
    have hS1 := sumN_lt (l := num4 (bodN L)) (num4_lt _)
    rw [hl1] at hs1 hc1 hv1 ⊢
    rw [Nat.zero_add, Nat.add_sub_cancel_left] at hs1
    have HV1 := hide hv1
    have HB1 := hide hb1
    have HR1 := hide (HSM.out w1 _ _ (c1 - l.length) _ hs1 (by omega))
    have hcq1 : ¬ c1 = l.length := by omega
    clear hv1 hb1 hr1 hs1 e1 hl1
    obtain ⟨s1, hs1⟩ : ∃ s1, sumN (num4 (bodN L)) = s1 := ⟨_, rfl⟩
    have HS1 := hide hs1
    rw [hs1] at HR1 hS1
    clear hs1
    go_wp2_with fail
    refine HR1.out.mono ?_
    rintro e w2 ⟨rfl, hb2⟩
    have HV2 := hide (HV1.out.below hb2)
    have HB2 : Hid (Below B w w2) := HB1.out.trans (hb2.mono (Nat.le_trans hBw HB1.out.size))
    have hBw2 : B ≤ w2.heap.size := Nat.le_trans hBw HB2.out.size
    clear hb2
    go_wp2_with fail
    refine (HAN.out _ (l ++ num4 (bodN L)) s1 w2 HV2.out hBw2 hS1 (by rw [List.length_append, num4_len]; omega)).mono ?_
    rintro e w3 ⟨v3, rfl, hv3, hb3⟩
    obtain ⟨a3, c3, rfl, hc3⟩ := hv3.slice
    have HV3 : Hid (Ob B w3 (.slice a3 ((l ++ num4 (bodN L)) ++ num4 s1).length c3) (l ++ (hedB L ++ bodB (L.take 0)))) := by
      have e : (l ++ num4 (bodN L)) ++ num4 s1 = l ++ (hedB L ++ bodB (L.take 0)) := by
        rw [← HS1.out]
        simp [hedB, bodB]
      rw [← e]
      exact hv3
    have HB3 : Hid (Below B w w3) := HB2.out.trans hb3
    obtain ⟨n3, hn3⟩ : ∃ n3, ((l ++ num4 (bodN L)) ++ num4 s1).length = n3 := ⟨_, rfl⟩
    rw [hn3] at HV3 ⊢
    clear hv3 hb3 hS1 hc1 hcq1 hc3 hn3
    go_wp2_with fail
    go_loopw [0, 30] (fun v0 i wr => ∃ k : Nat, k ≤ L.length ∧ i = .int .i64 (k : Int) ∧ Hid (Ob B wr v0 (l ++ (hedB L ++ bodB (L.take k)))) ∧ Hid (Below B w wr)) (fun _ i _ => L.length - (intOf i).toNat)
    case atStart => exact ⟨0, Nat.zero_le _, rfl, HV3.out, HB3.out⟩
    case round =>
      obtain ⟨k, hk, rfl, HVk, HBk⟩ := hrel
      clear HV3 HB3
      obtain ⟨ak, ck, rfl, hck⟩ := HVk.out.slice
      have hBk : B ≤ wr.heap.size := Nat.le_trans hBw HBk.out.size
      have hbk := bodN_mono L k
      have hlk : (l ++ (hedB L ++ bodB (L.take k))).length = l.length + 8 + bodN (L.take k) := by
        simp only [List.length_append, hedB, num4_len, bodB_len]
        omega
      obtain ⟨nk, hnk⟩ : ∃ nk, (l ++ (hedB L ++ bodB (L.take k))).length = nk := ⟨_, rfl⟩
      rw [hnk] at hlk hck HVk ⊢
      have hlk1 : nk ≤ l.length + 8 + bodN (L.take k) := by omega
      have hlk2 : l.length + 8 + bodN (L.take k) ≤ nk := by omega
      have HNK := hide hnk
      clear hlk hnk
      by_cases hkn : k < L.length
      · obtain ⟨b, off, rfl, hbl, hc⟩ := HR.out hpos
        obtain ⟨x, c, hcell, hrb⟩ := hc k hkn
        have hrb0 := hide hrb
        have hw0 : Below w0.heap.size w0 wr := by rw [HBE.out]; exact HB0.out.trans HBk.out
        have hcw := (hw0.cell (p := ⟨b, off + k, none⟩) hbl).trans hcell
        have HRB := hide (hrb.below hw0)
        have hst := bodN_take L hkn
        have hm1 := bodN_mono L (k + 1)
        rw [hst] at hm1
        have HBT : Hid (bodB (L.take (k + 1)) = bodB (L.take k) ++ (num4 L[k].length ++ L[k])) := bodB_take L hkn
        obtain ⟨r, hr⟩ : ∃ r, L[k] = r := ⟨_, rfl⟩
        rw [hr] at hcw HRB hm1 HBT hrb0
        have hki : (k : Int) < (L.length : Int) := by omega
        clear hc hcell hrb hst hr hbl
        go_wp2_with fail
        refine (HAN.out _ _ r.length wr HVk.out hBk (by omega) (by rw [HNK.out]; omega)).mono ?_
        rintro e w4 ⟨v4, rfl, hv4, hb4⟩
        have HB4 : Hid (Below B w w4) := HBk.out.trans hb4
        have hBw4 : B ≤ w4.heap.size := Nat.le_trans hBw HB4.out.size
        have HRB4 : Hid (Rb w4 (.slice x r.length c) r) := by
          have hw4 : Below w0.heap.size w0 w4 := by rw [HBE.out]; exact HB0.out.trans HB4.out
          exact hrb0.out.below hw4
        obtain ⟨a4, c4, rfl, hc4⟩ := hv4.slice
        have HV4 := hide hv4
        obtain ⟨n4, hn4⟩ : ∃ n4, ((l ++ (hedB L ++ bodB (L.take k))) ++ num4 r.length).length = n4 := ⟨_, rfl⟩
        have hn4' : n4 ≤ nk + 4 := by rw [← hn4, List.length_append, HNK.out, num4_len]; omega
        rw [hn4] at HV4 ⊢
        have HN4 := hide hn4
        clear hv4 hb4 hc4 hn4 HVk
        go_wp2_with (at_builtin; go_loud (refine wpList_app w4 rfl (.tmp 37) (.tmp 38) rfl B (.slice a4 n4 c4) ((l ++ (hedB L ++ bodB (L.take k))) ++ num4 r.length) rfl HV4.out (.slice x r.length c) r rfl HRB4.out (by rw [HN4.out]; omega) hBw4 ?_; intro v5 w5 r1 r2 r3; have HO := hide r1; have HG := hide r2; clear r1 r2 r3))
        go_roundw
        case rel =>
          refine ⟨k + 1, by omega, by go_num, ?_, HB4.out.grown HG.out hBw4 (fun q hq => (HV4.out.lt q hq).1)⟩
          show Ob _ _ _ _
          rw [HBT.out]
          have e : ((l ++ (hedB L ++ bodB (L.take k))) ++ num4 r.length) ++ r = l ++ (hedB L ++ (bodB (L.take k) ++ (num4 r.length ++ r))) := by simp
          rw [← e]
          exact HO.out
        case measure => simp [intOf]; omega
      · have hkn' : k = L.length := by omega
        subst hkn'
        rw [List.take_length] at HVk hlk1 hlk2 hbk HNK
        obtain ⟨g5, c5, e5, hc5, hr5⟩ := HVk.out.some (by rw [HNK.out]; omega)
        simp only [Value.slice.injEq] at e5
        obtain ⟨rfl, hx5, rfl⟩ := e5
        clear hx5
        have hd5 := hr5.drop (k := l.length) (by rw [HNK.out]; omega)
        rw [List.drop_left, HNK.out, Nat.zero_add] at hd5
        have hS5 := sumN_lt (l := hedB L ++ bodB L) (fun c hc => HVk.out.byte c (List.mem_append_right _ hc))
        have HR5 := hide (HSM.out wr _ _ (ck - l.length) _ hd5 (by omega))
        obtain ⟨s5, hs5⟩ : ∃ s5, sumN (hedB L ++ bodB L) = s5 := ⟨_, rfl⟩
        have HS5 := hide hs5
        rw [hs5] at HR5 hS5
        have hcq5 : ¬ ck = l.length := by omega
        clear hr5 hd5 hs5 hc5
        go_wp2_with fail
        refine HR5.out.mono ?_
        rintro e w6 ⟨rfl, hb6⟩
        have HV6 := hide (HVk.out.below hb6)
        have HB6 : Hid (Below B w w6) := HBk.out.trans (hb6.mono hBk)
        have hBw6 : B ≤ w6.heap.size := Nat.le_trans hBw HB6.out.size
        clear hb6
        go_wp2_with fail
        refine (HAN.out _ (l ++ (hedB L ++ bodB L)) s5 w6 HV6.out hBw6 hS5 (by rw [HNK.out]; omega)).mono ?_
        rintro e w7 ⟨v7, rfl, hv7, hb7⟩
        have HV7 := hide hv7
        have HB7 : Hid (Below B w w7) := HB6.out.trans hb7
        clear hv7 hb7
        go_wp2
        go_ret
        refine ⟨_, rfl, ?_, HB7.out⟩
        have e : l ++ batB L = (l ++ (hedB L ++ bodB L)) ++ num4 s5 := by
          unfold batB
          rw [if_neg (List.length_pos_iff.1 hpos), HS5.out]
          simp
        rw [e]
        exact HV7.out
end Go.Proofs.YtdcoafpenkofoaaGreatDoor


/- Stage 20: bytes of several batches. -/
namespace Go.Proofs.YtdcoafpenkofoaaGreatDoor
open Go.RowKit
set_option linter.unusedVariables false
set_option linter.unusedSimpArgs false
/-- batches that are read -/
def RdL (w : World) (a : Option Addr) (M : List (List (List Nat))) : Prop := 0 < M.length → ∃ b off, a = some ⟨b, off, none⟩ ∧ b < w.heap.size ∧ ∀ j (hj : j < M.length), ∃ x c, w.cell? ⟨b, off + j, none⟩ = some (.slice x M[j].length c) ∧ RdB w x M[j]
def logB (M : List (List (List Nat))) : List Nat := M.flatMap batB
def logN (M : List (List (List Nat))) : Nat := (M.map batN).sum
theorem logB_len (M : List (List (List Nat))) : (logB M).length = logN M := by
  induction M with
  | nil => rfl
  | cons m M ih =>
    simp only [logB, logN, List.flatMap_cons, List.map_cons, List.sum_cons, List.length_append, batB_len] at ih ⊢
    omega
theorem logN_take (M : List (List (List Nat))) {k : Nat} (hk : k < M.length) : logN (M.take (k + 1)) = logN (M.take k) + batN M[k] := by
  unfold logN
  rw [List.take_succ_eq_append_getElem hk, List.map_append, List.sum_append]
  simp only [List.map_cons, List.map_nil, List.sum_cons, List.sum_nil, Nat.add_zero]
theorem logB_take (M : List (List (List Nat))) {k : Nat} (hk : k < M.length) : logB (M.take (k + 1)) = logB (M.take k) ++ batB M[k] := by
  unfold logB
  rw [List.take_succ_eq_append_getElem hk, List.flatMap_append]
  simp only [List.flatMap_cons, List.flatMap_nil, List.append_nil]
theorem logN_mono (M : List (List (List Nat))) (k : Nat) : logN (M.take k) ≤ logN M := by
  induction M generalizing k with
  | nil => simp [logN]
  | cons r M ih =>
    cases k with
    | zero => simp [logN]
    | succ k =>
      have := ih k
      simp only [logN, List.take_succ_cons, List.map_cons, List.sum_cons] at this ⊢
      omega
theorem bodN_le (L : List (List Nat)) : bodN L ≤ batN L := by
  unfold batN
  by_cases h : L = []
  · rw [if_pos h, h]; decide
  · rw [if_neg h]; omega
def LoP (B : Nat) (M : List (List (List Nat))) (e : Ending) (w' : World) : Prop := (16777216 < logN M ∧ e = .returned (.tuple #[.slice none 0 0, nB 190])) ∨ (logN M ≤ 16777216 ∧ ∃ v, e = .returned (.tuple #[v, .nilIface]) ∧ Ob B w' v (logB M))
set_option maxHeartbeats 4000000 in
set_option maxRecDepth 100000 in
theorem logOf_any (a : Option Addr) (cap : Nat) (M : List (List (List Nat))) (w : World) (hR : RdL w a M) (hM : M.length ≤ 4294967296) (hm : ∀ m ∈ M, m.length ≤ 4294967296) (hn : logN M ≤ 4611686018427387904) :
    Calls Tryz.prog 109 #[.slice a M.length cap] w fun e w' => LoP w.heap.size M e w' ∧ Below w.heap.size w w' := by
  have HR := hide hR
  have HBS : Hid (∀ (x : Option Addr) (c : Nat) (L : List (List Nat)), RdB w x L → batN L ≤ 4611686018427387904 → L.length ≤ 4294967296 → Calls Tryz.prog 142 #[.slice x L.length c] w fun e w' => e = .returned (.int .i64 (batN L : Int)) ∧ w' = w) := fun x c L h1 h2 h3 => batchSize_any x c L w h1 (Nat.le_trans (bodN_le L) h2) (by omega)
  have HM : Hid (∀ k (h : k < M.length), M[k].length ≤ 4294967296) := fun k h => hm _ (List.getElem_mem h)
  clear hR hm
  go_enter Tryz.func109, Tryz.ntmps109
  go_wp2
  go_loop [4, 12] (fun n i => ∃ k : Nat, k ≤ M.length ∧ i = .int .i64 (k : Int) ∧ n = .int .i64 ((logN (M.take k) : Nat) : Int)) (fun _ i => M.length - (intOf i).toNat)
  case atStart => exact ⟨0, Nat.zero_le _, rfl, rfl⟩
  case round =>
    obtain ⟨k, hk, rfl, rfl⟩ := hrel
    by_cases hkn : k < M.length
    · obtain ⟨b, off, rfl, hbl, hc⟩ := HR.out (by omega)
      obtain ⟨x, c, hcell, hrb⟩ := hc k hkn
      have hst := logN_take M hkn
      have hmo := logN_mono M (k + 1)
      rw [hst] at hmo
      have HB := hide (HBS.out x c M[k] hrb (by omega) (HM.out k hkn))
      have HST := hide hst
      clear hst hc hrb
      generalize logN (M.take k) = q at *
      obtain ⟨m, hm⟩ : ∃ m, M[k] = m := ⟨_, rfl⟩
      rw [hm] at hcell HB HST hmo
      clear hm
      obtain ⟨z, hz⟩ : ∃ z, batN m = z := ⟨_, rfl⟩
      rw [hz] at HB HST hmo
      clear hz
      have hki : (k : Int) < (M.length : Int) := by omega
      go_wp2_with (go_at_call 142; refine HB.out.mono ?_; rintro e w' ⟨rfl, rfl⟩)
      go_round
      case rel => exact ⟨k + 1, by omega, by go_num, by rw [HST.out]; go_num⟩
      case measure => simp [intOf]; omega
    · have hkn' : k = M.length := by omega
      subst hkn'
      rw [List.take_length]
      obtain ⟨z, hz⟩ : ∃ z, logN M = z := ⟨_, rfl⟩
      have HZ := hide hz
      rw [hz] at hn ⊢
      clear hz hkn
      by_cases hbig : 16777216 < z
      · have HQ : Hid (∀ W, LoP w.heap.size M (.returned (.tuple #[.slice none 0 0, nB 190])) W) := fun W => .inl ⟨by rw [HZ.out]; exact hbig, rfl⟩
        go_wp2
        go_ret2
        exact ⟨HQ.out _, Below.refl _ _⟩
      · have hzs : z ≤ 16777216 := by omega
        have HAB : Hid (∀ (v : Value) (l : List Nat) (x : Option Addr) (c : Nat) (L : List (List Nat)) (W : World), Ob w.heap.size W v l → Below w.heap.size w W → RdB w x L → L.length ≤ 4294967296 → l.length + batN L ≤ 16777216 → Calls Tryz.prog 143 #[v, .slice x L.length c] W fun e w' => ∃ v', e = .returned v' ∧ Ob w.heap.size w' v' (l ++ batB L) ∧ Below w.heap.size W w') := fun v l x c L W h1 h2 h3 h4 h5 => appendBatch_any w.heap.size v l x c L w W h1 rfl h2 h3 h4 h5
        have hnn : ¬ ((z : Int) < 0) := by omega
        obtain ⟨i0, hi0, hz0, hz1, hz2⟩ := info_parts Tryz.info5
        go_wp2_with (at_make; go_loud (refine wpList_make_own w rfl (.const (.int .i64 0)) (.tmp 24) 23 rfl w.heap.size 5 i0 (.int .u8 0) 1 Tryz.underlying23 hi0 hz0 hz1 .i64 .i64 (z : Int) z rfl rfl rfl (by rw [hz2]; omega) (by unfold maxLen; omega) (Nat.le_refl _) ?_; intro w1 r1 r2; have HO : Hid (Ob w.heap.size w1 (.slice (some ⟨w.heap.size, 0, none⟩) 0 z) (logB (M.take 0))) := ⟨r1, by simp [logB]⟩; have HB1 : Hid (Below w.heap.size w w1) := (Below.refl _ _).grown r2 (Nat.le_refl _) (fun k hk => by cases hk); clear r1 r2))
        go_loopw [7, 28] (fun v7 i wr => ∃ k : Nat, k ≤ M.length ∧ i = .int .i64 (k : Int) ∧ Hid (Ob w.heap.size wr v7 (logB (M.take k))) ∧ Hid (Below w.heap.size w wr)) (fun _ i _ => M.length - (intOf i).toNat)
        case atStart => exact ⟨0, Nat.zero_le _, rfl, HO.out, HB1.out⟩
        case round =>
          obtain ⟨k, hk, rfl, HVk, HBk⟩ := hrel
          clear HO HB1
          obtain ⟨ak, ck, rfl, hck⟩ := HVk.out.slice
          obtain ⟨nk, hnk⟩ : ∃ nk, (logB (M.take k)).length = nk := ⟨_, rfl⟩
          have hnk' := hnk
          rw [logB_len] at hnk'
          rw [hnk] at HVk ⊢
          have HNK := hide hnk
          by_cases hkn : k < M.length
          · obtain ⟨b, off, rfl, hbl, hc⟩ := HR.out (by omega)
            obtain ⟨x, c, hcell, hrb⟩ := hc k hkn
            have hcw := (HBk.out.cell (p := ⟨b, off + k, none⟩) hbl).trans hcell
            have hst := logN_take M hkn
            have hmo := logN_mono M (k + 1)
            rw [hst, hnk'] at hmo
            have HLT : Hid (logB (M.take (k + 1)) = logB (M.take k) ++ batB M[k]) := logB_take M hkn
            have HC := hide (HAB.out (.slice ak nk ck) (logB (M.take k)) x c M[k] wr HVk.out HBk.out hrb (HM.out k hkn) (by rw [HNK.out]; have := HZ.out; omega))
            obtain ⟨m, hm⟩ : ∃ m, M[k] = m := ⟨_, rfl⟩
            rw [hm] at hcw HC HLT
            have hki : (k : Int) < (M.length : Int) := by omega
            clear hm hst hmo hc hcell hrb hnk hnk' hck
            go_wp2_with (go_at_call 143; refine HC.out.mono ?_; rintro e w2 ⟨v2, rfl, hv2, hb2⟩; have HV2 := hide hv2; have HB2 : Hid (Below w.heap.size w w2) := HBk.out.trans hb2; clear hv2 hb2)
            go_roundw
            case rel => exact ⟨k + 1, by omega, by go_num, by rw [HLT.out]; exact HV2.out, HB2.out⟩
            case measure => simp [intOf]; omega
          · have hkn' : k = M.length := by omega
            subst hkn'
            have HQ : Hid (LoP w.heap.size M (.returned (.tuple #[.slice ak nk ck, .nilIface])) wr) := .inr ⟨by rw [HZ.out]; exact hzs, _, rfl, by have := HVk.out; rwa [List.take_length] at this⟩
            clear hnk hnk' hck HVk HNK
            go_wp2
            go_ret2
            exact ⟨HQ.out, HBk.out⟩
end Go.Proofs.YtdcoafpenkofoaaGreatDoor
