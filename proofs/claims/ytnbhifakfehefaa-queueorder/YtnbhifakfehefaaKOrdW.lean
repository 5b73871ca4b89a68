
/- QueueOrder: the walk. -/
import Derived.Test.YtnbhifakfehefaaKOrdC
import Derived.Deep.Cut
import Derived.Deep.DeepCutAuto
import Derived.Deep.CutBlock
import Derived.BigQuiet
namespace Go.Proofs.Ytnbhifakfehefaa
open Go.RowKit
set_option linter.unusedVariables false
set_option linter.unusedSimpArgs false
set_option pp.maxSteps 200000
set_option pp.deepTerms true
/-- the law's list and the queue, ahead of the i-th entry -/
def OrI (w : World) (qb n0 i : Nat) (v7 : Value) (wr : World) : Prop := ∃ hi ls, OQ w qb hi ls wr ∧ hi ≤ (i : Int) ∧ Wy EK wr w.heap.size v7 ls ∧ (i = n0 → ls = [])
/-- the same behind the i-th entry, with k more to be taken -/
def OL (w : World) (qb n0 i : Nat) (k : Int) (v7 : Value) (wr : World) : Prop := ∃ hi ls, OQ w qb hi ls wr ∧ hi ≤ (i : Int) + 1 ∧ Wy EK wr w.heap.size v7 ls ∧ (i + 1 = n0 → (ls.length : Int) ≤ k)
theorem erase_take_at {A : Type} (ls : List A) (n : Nat) (hn : n < ls.length) : (ls.take (n + 1)).eraseIdx n = (ls.take n).eraseIdx n := by
  have hl : (ls.take n).length = n := by rw [List.length_take]; omega
  rw [List.take_succ_eq_append_getElem hn, List.eraseIdx_append_of_length_le (by omega), hl, Nat.sub_self, List.eraseIdx_of_length_le (l := ls.take n) (by omega)]
  simp
theorem erase_take_ne {A : Type} (ls : List A) (n k : Nat) (hn : n < ls.length) (h : n ≠ k) : (ls.take (n + 1)).eraseIdx k = (ls.take n).eraseIdx k ++ [ls[n]] := by
  rw [List.take_succ_eq_append_getElem hn]
  by_cases hk : k < n
  · rw [List.eraseIdx_append_of_lt_length (by rw [List.length_take]; omega)]
  · rw [List.eraseIdx_of_length_le (by rw [List.length_append, List.length_take]; simp; omega), List.eraseIdx_of_length_le (by rw [List.length_take]; omega)]
theorem Wy.mono {w : World} {base base' : Nat} {v : Value} {ls : List Ev} (h : Wy EK w base v ls) (hb : base' ≤ base) : Wy EK w base' v ls := by
  rcases h with h | ⟨g, off, cap, cur, rfl, h1, h2⟩
  · exact .inl h
  · exact .inr ⟨g, off, cap, cur, rfl, Nat.le_trans hb h1, h2⟩
/-- the rest of the law's list, as it is made -/
def R4 (w ws : World) (qb k n : Nat) (hi : Int) (l7 v22 : Value) (ls : List Ev) (wx : World) : Prop := OQ w qb hi (ls.eraseIdx k) wx ∧ Wy EK wx w.heap.size l7 ls ∧ Wy EK wx ws.heap.size v22 ((ls.take n).eraseIdx k) ∧ (∀ b, l7.ownBlock = some b → b < ws.heap.size) ∧ ws.heap.size ≤ wx.heap.size
theorem R4.put {w ws wx w' : World} {qb k n : Nat} {hi : Int} {l7 v22 v' : Value} {ls : List Ev} {o : Obj} {y : Ev} (h : R4 w ws qb k n hi l7 v22 ls wx) (hws : w.heap.size ≤ ws.heap.size) (hn : n < ls.length) (hne : n ≠ k) (hy : ls[n] = y) (hwy : Wy EK w' ws.heap.size v' ((ls.take n).eraseIdx k ++ [y])) (hgr : (wx.alloc o).grownBy w' v22.ownBlock) : R4 w ws qb k (n + 1) hi l7 v' ls w' := by
  obtain ⟨h1, h2, h3, h4, h5⟩ := h
  have hb : Below wx.heap.size wx (wx.alloc o) := bel1 (Below.refl _ _) (Nat.le_refl _) _
  have h3' := h3.ke (KE.below hb)
  refine ⟨(h1.below hb).grown hgr (fun g e => ⟨Nat.le_trans hws (h3.lt e).1, ?_⟩), h2.at (fun b e => ?_), ?_, h4, ?_⟩
  · obtain ⟨cur, hc⟩ := h3'.typ e
    exact ⟨cur, (0, 0), hc⟩
  · have hbl := h4 b e
    refine (hgr.block b (Nat.lt_of_lt_of_le (h2.lt e).2 hb.size) (fun e' => ?_)).trans (hb.block b (h2.lt e).2)
    have := (h3.lt e'.symm).1
    omega
  · rw [erase_take_ne ls n k hn hne, hy]
    exact hwy
  · have := hgr.size
    have := hb.size
    omega
theorem bel_dn {B : Nat} {a w : World} (h : Below B a w) (n : Nat) : Below B a (w.drewN n) := ⟨h.os, h.tape, h.output, h.size, h.block⟩
theorem tm4 (z : Int) : -4 < z.tmod 4 ∧ z.tmod 4 < 4 := by
  rcases Int.le_total 0 z with h | h
  · rw [Int.tmod_eq_emod_of_nonneg h]; omega
  · have : z.tmod 4 = - ((-z).tmod 4) := by rw [Int.neg_tmod]; omega
    rw [this, Int.tmod_eq_emod_of_nonneg (by omega)]; omega
set_option maxRecDepth 100000 in
set_option maxHeartbeats 16000000 in
theorem order_walk (a0 : Option Addr) (n0 c0 : Nat) (f : Nat → Ev) (a1 : Option Addr) (n1 c1 : Nat) (zs : List Int) (w : World) (hE : InE w a0 n0 f) (hn0 : n0 ≤ 140737488351232) (hR : Ri w a1 n1 zs) (hwz : ∀ j, j < n1 → -9223372036854775808 ≤ zs.getD j 0 ∧ zs.getD j 0 < 9223372036854775808) (hn1 : n1 ≤ 140737488351232) :
    Calls Try.prog 5 #[.slice a0 n0 c0, .slice a1 n1 c1] w fun e w' => e = .returned (.bool true) ∧ Below w.heap.size w w' := by
  have HE := hide hE
  have HR := hide hR
  have HWZ := hide hwz
  have HN0 := hide hn0
  have HN1 := hide hn1
  clear hE hR hwz hn0 hn1
  go_enter Try.func5, Try.ntmps5
  go_wp2_with fail
  refine (live_any w).mono ?_
  rintro e w1 ⟨rfl, hb1⟩
  have HB1 := hide hb1
  clear hb1
  go_wp2_with fail
  refine (new_any cO (by decide) (by decide) w1).mono ?_
  rintro e w2 (⟨ho, _⟩ | ⟨_, qb, rfl, HN, hb2⟩)
  · rw [cO_ok] at ho
    cases ho
  have HO2 : Hid (OrI w qb n0 0 (.slice none 0 0) w2) := ⟨0, [], ⟨belOn HB1.out HB1.out.size hb2, _, _, [], [], e0, fun _ => [], Qs.empty HN.out.2 (Nat.le_trans HB1.out.size HN.out.1) _ _, rfl, fun k x hk => by simp at hk⟩, Int.le_refl _, .inl ⟨rfl, rfl⟩, fun _ => rfl⟩
  clear hb2 HN
  go_wp2_with fail
  go_loopw [7, 8, 9] (fun v7 v8 v9 wr => ∃ i : Nat, v8 = .int .i64 (i : Int) ∧ v9 = .int .i64 (i : Int) ∧ i ≤ n0 ∧ Hid (OrI w qb n0 i v7 wr)) (fun _ _ v9 _ => n0 - (intOf v9).toNat)
  case atStart => exact ⟨0, rfl, rfl, Nat.zero_le _, HO2⟩
  case round =>
    rename World => wr
    clear HO2
    obtain ⟨i, rfl, rfl, hin, HI⟩ := hrel
    obtain ⟨hi, ls, hO, hhi, hW, hend⟩ := HI.out
    obtain ⟨a7, c7, h7⟩ := hW.shape
    subst h7
    obtain ⟨m, hm⟩ : ∃ m, ls.length = m := ⟨_, rfl⟩
    have HO := hide hO
    have HHI := hide hhi
    have HW := hide hW
    have HEND := hide hend
    have HM := hide hm
    have hm4 : m ≤ 4096 := by have := hO.len; omega
    rw [hm] at HW ⊢
    have hi47 : i ≤ 140737488351232 := by have := HN0.out; omega
    have HIN := hide hin
    clear hO hhi hW hend hm HI
    by_cases hlt : i < n0
    · have hlt' : (i : Int) < (n0 : Int) := by omega
      obtain ⟨g, off, ha0, hgl, hce⟩ := HE.out.row (by omega)
      subst ha0
      have hup := HO.out.1
      have HCE : Hid (∀ j u, (f i).enc[j]? = some u → wr.cell? ⟨g, off + i * 7 + j, none⟩ = some u) := fun j u hu => (hup.cell (p := ⟨g, off + i * 7 + j, none⟩) hgl).trans (hce i hlt j u hu)
      have e0 := HCE.out 0 _ rfl
      have e1 := HCE.out 1 _ rfl
      have e2 := HCE.out 2 _ rfl
      have e3 := HCE.out 3 _ rfl
      have e4 := HCE.out 4 _ rfl
      have e5 := HCE.out 5 _ rfl
      have e6 := HCE.out 6 _ rfl
      rw [Nat.add_zero] at e0
      have HGL : Hid (g < wr.heap.size) := Nat.lt_of_lt_of_le hgl hup.size
      have hglr : g < wr.heap.size := HGL.out
      have hwi : IntKind.i64.wrap ((i : Int) + 1) = (i : Int) + 1 := by rw [IntKind.wrap_i64]; omega
      clear hup hce hgl
      obtain ⟨l, hln, hlr, hlnil, hlcap⟩ := HE.out.dat i hlt
      obtain ⟨W0, hW0⟩ : ∃ W0, wr.alloc (Obj.cells #[.int .i64 ((i : Int) + 1), .int .i64 (f i).pri, .int .i64 (f i).exp, .bool (f i).dur, .int .i64 (f i).cnt, .int .i64 0, .slice (f i).a (f i).n (f i).c] 37) = W0 := ⟨_, rfl⟩
      have hb0 : Below wr.heap.size wr W0 := by rw [← hW0]; exact bel1 (Below.refl _ _) (Nat.le_refl _) _
      have HH0 : Hid (W0.heap[wr.heap.size]? = some (.cells #[.int .i64 ((i : Int) + 1), .int .i64 (f i).pri, .int .i64 (f i).exp, .bool (f i).dur, .int .i64 (f i).cnt, .int .i64 0, .slice (f i).a (f i).n (f i).c] 37 (0, 0))) := by rw [← hW0]; exact heap_new _ _
      have HPUT := hide (put_or (HO.out.below hb0) { f i with seq := (i : Int) + 1, hol := 0 } l hln hlr hlnil hlcap (by have := HHI.out; show hi < (i : Int) + 1; omega))
      have HW1 : Hid (Wy EK W0 w.heap.size (.slice a7 m c7) ls) := HW.out.ke (KE.below hb0)
      have HW0 := hide hW0
      simp only at HPUT
      clear hW0 hb0 hln hlr hlnil hlcap
      go_wp2_with fail
      rw [HW0.out]
      refine Calls.mono HPUT.out ?_
      rintro e w3 ⟨z, rfl, HKE, HZ⟩
      clear e0 e1 e2 e3 e4 e5 e6
      have hx3 := HKE.out.2 _ _ _ HH0.out
      obtain ⟨x0, x1, x2, x3, x4, x5, x6⟩ := ent_cells hx3
      have hx3l := (Array.getElem?_eq_some_iff.1 hx3).1
      have HW3 : Hid (Wy EK w3 w.heap.size (.slice a7 m c7) ls) := HW1.out.ke HKE.out
      clear hx3 hglr
      go_upto_if 54 with fail
      go_cut [7] (fun v7 wx => ∃ (hi' : Int) (ls' : List Ev), Hid (OQ w qb hi' ls' wx) ∧ Hid (hi' ≤ (i : Int) + 1) ∧ Hid (Wy EK wx w.heap.size v7 ls'))
      case first =>
        rcases HZ.out with ⟨hz, hO3⟩ | ⟨rfl, hO3⟩
        · have HO3 := hide hO3
          clear hO3
          go_wp2
          go_meet
          exact ⟨hi, ls, HO3, by have := HHI.out; show hi ≤ (i : Int) + 1; omega, HW3⟩
        · have HO3 := hide hO3
          clear hO3
          go_wp2_with (first | (refine wpList_build_one ekOk rfl (.tmp 56) rfl { f i with seq := (i : Int) + 1, hol := 0 } rfl ?_) | (at_builtin; refine wpList_append_way ekOk _ rfl (.tmp 55) (.tmp 57) rfl w.heap.size (.slice a7 m c7) ls { f i with seq := (i : Int) + 1, hol := 0 } rfl (HW3.out.ke (KE.below (bel1 (Below.refl _ _) (Nat.le_refl _) _))) w3.heap.size 1 rfl (heap_new _ _) (by have := HO3.out.1.size; simp; omega) (by have := HM.out; omega) ?_; intro v' w4 hwy hgr hat; have HWY := hide hwy; have HGR := hide hgr; clear hwy hgr hat))
          go_meet
          refine ⟨(i : Int) + 1, ls ++ [{ f i with seq := (i : Int) + 1, hol := 0 }], ?_, Int.le_refl _, HWY⟩
          have hb4 : Below w3.heap.size w3 (w3.alloc (Obj.cells ⟨EK.enc { f i with seq := (i : Int) + 1, hol := 0 }⟩ EK.t)) := bel1 (Below.refl _ _) (Nat.le_refl _) _
          have hwy4 := HW3.out.ke (KE.below hb4)
          refine (HO3.out.below hb4).grown HGR.out (fun g' e => ⟨(hwy4.lt e).1, ?_⟩)
          obtain ⟨cur, hc⟩ := hwy4.typ e
          exact ⟨cur, (0, 0), hc⟩
      case rest =>
        rename World => w4
        obtain ⟨hi', ls', HO4, HHI4, HW4⟩ := hcut
        clear x0 x1 x2 x3 x4 x5 x6 HPUT HW1 HW0 HH0 HKE HZ HW3 HO HHI HW HEND HM HCE HGL hm4 hx3l
        obtain ⟨a7', c7', h7⟩ := HW4.out.shape
        subst h7
        obtain ⟨m, hm⟩ : ∃ m, ls'.length = m := ⟨_, rfl⟩
        have HM := hide hm
        have hm4 : m ≤ 4096 := by have := HO4.out.len; omega
        rw [hm] at HW4 ⊢
        clear hm
        go_upto_if 62 with fail
        go_cut [12] (fun v wx => ∃ k : Int, v = .int .i64 k ∧ (-4 < k ∧ k < 4) ∧ w4 = wx)
        case first =>
          by_cases h1 : i < n1
          · have h1' : (i : Int) < (n1 : Int) := by omega
            obtain ⟨gb, off1, ha1, hl1, hc1⟩ := HR.out (by omega)
            subst ha1
            have hcell : w4.cell? ⟨gb, off1 + i, none⟩ = some (.int .i64 (zs.getD i 0)) := (HO4.out.1.cell (p := ⟨gb, off1 + i, none⟩) hl1).trans (hc1 i h1)
            have hl4 : gb < w4.heap.size := Nat.lt_of_lt_of_le hl1 HO4.out.1.size
            clear hc1 hl1
            go_wp2
            go_meet
            exact ⟨_, rfl, tm4 _, rfl⟩
          · have h1' : ¬ (i : Int) < (n1 : Int) := by omega
            go_wp2
            go_meet
            exact ⟨0, rfl, by omega, rfl⟩
        case rest =>
          obtain ⟨k0, rfl, ⟨hk1, hk2⟩, hw4⟩ := hcut
          subst hw4
          go_upto_if 72 with fail
          go_cut [12] (fun v wx => ∃ k : Int, v = .int .i64 k ∧ Hid (i + 1 = n0 → k = m) ∧ (-4 < k ∧ k ≤ 4096) ∧ w4 = wx)
          case first =>
            have hwn : IntKind.i64.wrap ((n0 : Int) - 1) = (n0 : Int) - 1 := by rw [IntKind.wrap_i64]; have := HN0.out; omega
            have hnp : 0 < n0 := by omega
            go_wp2
            all_goals go_meet
            all_goals first | exact ⟨m, rfl, fun _ => rfl, by omega, rfl⟩ | exact ⟨k0, rfl, fun h => by rename_i hh; exfalso; rw [beq_eq_false_iff_ne] at hh; apply hh; unfold wrap64; have := HN0.out; omega, by omega, rfl⟩
          case rest =>
            obtain ⟨k1, rfl, HK, ⟨hk3, hk4⟩, hw4⟩ := hcut
            subst hw4
            have HO5 : Hid (OL w qb n0 i k1 (.slice a7' m c7') w4) := ⟨hi', ls', HO4.out, HHI4.out, HW4.out, fun h => by have := HK.out h; have := HM.out; omega⟩
            clear HO4 HHI4 HW4 HM hm4 HK hk1 hk2
            go_wp2_with fail
            go_loopw [7, 12] (fun v7 v12 wr => ∃ k : Int, v12 = .int .i64 k ∧ -4 < k ∧ k ≤ 4096 ∧ Hid (OL w qb n0 i k v7 wr)) (fun _ v12 _ => (intOf v12).toNat)
            case atStart => exact ⟨k1, rfl, hk3, hk4, HO5⟩
            case round =>
              rename World => wr2
              clear HO5 hk3 hk4
              obtain ⟨k, rfl, hk5, hk6, HL⟩ := hrel
              obtain ⟨hi2, ls2, hO2, hhi2, hW2, hend2⟩ := HL.out
              obtain ⟨a2, c2, h2⟩ := hW2.shape
              subst h2
              obtain ⟨m2, hm2⟩ : ∃ m2, ls2.length = m2 := ⟨_, rfl⟩
              have HO2 := hide hO2
              have HHI2 := hide hhi2
              have HW2 := hide hW2
              have HEND2 := hide hend2
              have HM2 := hide hm2
              have hm4 : m2 ≤ 4096 := by have := hO2.len; omega
              rw [hm2] at HW2 ⊢
              clear hO2 hhi2 hW2 hend2 hm2 HL
              by_cases hk : 0 < k
              · have hwk : IntKind.i64.wrap (k - 1) = k - 1 := by rw [IntKind.wrap_i64]; omega
                have hw1 : IntKind.i64.wrap (1 + (i : Int)) = 1 + (i : Int) := by rw [IntKind.wrap_i64]; omega
                have HTK := hide (take_or HO2.out (1 + (i : Int)) (by omega))
                go_wp2_with fail
                refine Calls.mono HTK.out ?_
                clear HTK
                rintro e w5 (⟨hls, rfl, HO5, HKE5⟩ | ⟨k', x, a, c, hx, rfl, HT⟩)
                · subst hls
                  obtain rfl : m2 = 0 := HM2.out.symm
                  obtain ⟨W5, hW5⟩ : ∃ W5, w5.alloc (Obj.cells #[.int .i64 0, .int .i64 0, .int .i64 0, .bool false, .int .i64 0, .int .i64 0, .slice none 0 0] 37) = W5 := ⟨_, rfl⟩
                  have HN5 : Hid (OrI w qb n0 (i + 1) (.slice a2 0 c2) W5) := by
                    have hb5 : Below w5.heap.size w5 W5 := by rw [← hW5]; exact bel1 (Below.refl _ _) (Nat.le_refl _) _
                    exact ⟨hi2, [], HO5.out.below hb5, by have := HHI2.out; show hi2 ≤ ((i + 1 : Nat) : Int); omega, (HW2.out.ke HKE5.out).ke (KE.below hb5), fun _ => rfl⟩
                  have HW5 := hide hW5
                  clear hW5 HO2 HHI2 HW2 HEND2 HM2 HO5 HKE5
                  go_wp2_with fail
                  rw [HW5.out]
                  go_loopw [15, 16] (fun v15 v16 wx => v15 = .int .i64 (-1) ∧ v16 = .int .i64 0 ∧ wx = W5) (fun _ _ _ => 0)
                  case atStart => exact ⟨rfl, rfl, rfl⟩
                  case round =>
                    obtain ⟨rfl, rfl, hwx⟩ := hrel
                    subst hwx
                    go_wp2_with fail
                    go_roundw
                    case rel => exact ⟨i + 1, by go_num, by go_num, by omega, HN5⟩
                    case measure => simp [intOf]; omega
                · have hkl := (List.getElem?_eq_some_iff.1 hx).1
                  have hk2 : k' < m2 := by have := HM2.out; omega
                  obtain ⟨W5, hW5⟩ : ∃ W5, w5.alloc (Obj.cells #[.int .i64 x.seq, .int .i64 x.pri, .int .i64 x.exp, .bool x.dur, .int .i64 x.cnt, .int .i64 (1 + (i : Int)), .slice a x.n c] 37) = W5 := ⟨_, rfl⟩
                  have HB5 : Hid (Below w5.heap.size w5 W5) := by show Below _ _ _; rw [← hW5]; exact bel1 (Below.refl _ _) (Nat.le_refl _) _
                  have HH5 : Hid (W5.heap[w5.heap.size]? = some (.cells #[.int .i64 x.seq, .int .i64 x.pri, .int .i64 x.exp, .bool x.dur, .int .i64 x.cnt, .int .i64 (1 + (i : Int)), .slice a x.n c] 37 (0, 0))) := by show _ = _; rw [← hW5]; exact heap_new _ _
                  have HW5 := hide hW5
                  have HX := hide hx
                  have HWY : Hid (Wy EK W5 w.heap.size (.slice a2 m2 c2) ls2) := (HW2.out.ke HT.out.2.2.1).ke (KE.below HB5.out)
                  clear hW5 hx HO2 HW2
                  go_wp2_with fail
                  rw [HW5.out]
                  go_loopw [15, 16] (fun v15 v16 wx => ∃ (n : Nat) (b : Int), v16 = .int .i64 (n : Int) ∧ v15 = .int .i64 b ∧ n ≤ m2 ∧ -1 ≤ b ∧ b ≤ 4096 ∧ Hid ((n = 0 ∧ b = -1) ∨ ∃ kk : Nat, b = (kk : Int) ∧ Best ls2 n kk) ∧ Hid (Below W5.heap.size W5 wx)) (fun _ v16 _ => m2 - (intOf v16).toNat)
                  case atStart => exact ⟨0, -1, rfl, rfl, Nat.zero_le _, by omega, by omega, .inl ⟨rfl, rfl⟩, Below.refl _ _⟩
                  case round =>
                    rename World => wx
                    obtain ⟨n, b, rfl, rfl, hn, hb1, hb2, HBE, HBX⟩ := hrel
                    by_cases hnm : n < m2
                    · have hnm' : (n : Int) < (m2 : Int) := by omega
                      have hwn : IntKind.i64.wrap ((n : Int) + 1) = (n : Int) + 1 := by rw [IntKind.wrap_i64]; omega
                      rcases HBE.out with ⟨hn0, hbm⟩ | ⟨kk, hbk, hbest⟩
                      · subst hn0 hbm
                        clear HBE
                        go_wp2_with fail
                        go_quiet (fail)
                        go_wp2_with fail
                        exact ⟨⟨1, 0, rfl, rfl, by omega, by omega, by omega, .inr ⟨0, rfl, Best.one ls2⟩, bel_dn HBX.out _⟩, by simp [intOf]; omega⟩
                      · subst hbk
                        have HBK := hide hbest
                        have hkn := hbest.1
                        have hn2 : n < ls2.length := by have := HM2.out; omega
                        obtain ⟨g2, o2, cp2, e2, hcp, hg2, hg3, hc2⟩ := (HWY.out.ke (KE.below HBX.out)).ent n hn2
                        obtain ⟨g4, o4, cp4, e4, hcp4, hg4, hg5, hc4⟩ := (HWY.out.ke (KE.below HBX.out)).ent kk (by omega)
                        rw [HM2.out] at e2 e4
                        cases e2
                        cases e4
                        have p1 := hc2 1 _ rfl
                        have p2 := hc4 1 _ rfl
                        clear hc2 hc4 hg3 hg4 hg5 hcp4 hbest HBE
                        have HP : Hid (pr ls2 n = ls2[n].pri ∧ pr ls2 kk = ls2[kk].pri) := ⟨pr_get hn2, pr_get (by omega)⟩
                        obtain ⟨p, hp⟩ : ∃ p, ls2[n].pri = p := ⟨_, rfl⟩
                        obtain ⟨q, hq⟩ : ∃ q, ls2[kk].pri = q := ⟨_, rfl⟩
                        rw [hp] at p1 HP
                        rw [hq] at p2 HP
                        clear hp hq
                        have hk0 : ¬ (kk : Int) < 0 := by omega
                        have hkm : (kk : Int) < (m2 : Int) := by omega
                        by_cases hpq : q < p
                        · go_wp2_with fail
                          go_quiet (fail)
                          go_wp2_with fail
                          exact ⟨⟨n + 1, n, by go_num, rfl, by omega, by omega, by omega, .inr ⟨n, rfl, HBK.out.new (by rw [HP.out.1, HP.out.2]; exact hpq)⟩, bel_dn HBX.out _⟩, by simp [intOf]; omega⟩
                        · go_wp2_with fail
                          go_quiet (fail)
                          go_wp2_with fail
                          exact ⟨⟨n + 1, kk, by go_num, rfl, by omega, by omega, by omega, .inr ⟨kk, rfl, HBK.out.old (by rw [HP.out.1, HP.out.2]; omega)⟩, bel_dn HBX.out _⟩, by simp [intOf]; omega⟩
                    · obtain rfl : m2 = n := by omega
                      rcases HBE.out with ⟨hm0, _⟩ | ⟨kk, hbk, hbest⟩
                      · exfalso
                        omega
                      obtain rfl : k' = kk := Best.same (by have := HT.out.1; rw [HM2.out] at this; exact this) hbest
                      subst hbk
                      clear hbest HBE
                      obtain ⟨g2, o2, cp2, e2, hcp, hg2, hg3, hc2⟩ := (HWY.out.ke (KE.below HBX.out)).ent k' hkl
                      rw [HM2.out] at e2
                      cases e2
                      have hxx : ls2[k'] = x := by have := HX.out; rw [List.getElem?_eq_getElem hkl] at this; simpa using this
                      rw [hxx] at hc2
                      have q0 := hc2 0 _ rfl
                      have q1 := hc2 1 _ rfl
                      have q2 := hc2 2 _ rfl
                      have q3 := hc2 3 _ rfl
                      have q4 := hc2 4 _ rfl
                      have q5 := hc2 5 _ rfl
                      have q6 := hc2 6 _ rfl
                      rw [Nat.add_zero] at q0
                      have h13 : wx.heap[w5.heap.size]? = some (.cells #[.int .i64 x.seq, .int .i64 x.pri, .int .i64 x.exp, .bool x.dur, .int .i64 x.cnt, .int .i64 (1 + (i : Int)), .slice a x.n c] 37 (0, 0)) := (KE.below HBX.out).2 _ _ _ HH5.out
                      obtain ⟨t0, t1, t2, t3, t4, t5, t6⟩ := ent_cells h13
                      have hl13 := (Array.getElem?_eq_some_iff.1 h13).1
                      obtain ⟨W6, hW6⟩ : ∃ W6, wx.alloc (Obj.cells #[.int .i64 x.seq, .int .i64 x.pri, .int .i64 x.exp, .bool x.dur, .int .i64 x.cnt, .int .i64 (1 + (i : Int)), .slice x.a x.n x.c] 37) = W6 := ⟨_, rfl⟩
                      have HX6 : Hid (Below wx.heap.size wx W6) := by show Below _ _ _; rw [← hW6]; exact bel1 (Below.refl _ _) (Nat.le_refl _) _
                      have HB6 : Hid (Below w5.heap.size w5 W6) := belOn (belOn HB5.out HB5.out.size HBX.out) (Nat.le_trans HB5.out.size HBX.out.size) HX6.out
                      have H17 : Hid (W6.heap[wx.heap.size]? = some (.cells #[.int .i64 x.seq, .int .i64 x.pri, .int .i64 x.exp, .bool x.dur, .int .i64 x.cnt, .int .i64 (1 + (i : Int)), .slice x.a x.n x.c] 37 (0, 0))) := by show _ = _; rw [← hW6]; exact heap_new _ _
                      have H13 : Hid (W6.heap[w5.heap.size]? = some (.cells #[.int .i64 x.seq, .int .i64 x.pri, .int .i64 x.exp, .bool x.dur, .int .i64 x.cnt, .int .i64 (1 + (i : Int)), .slice a x.n c] 37 (0, 0))) := by show _ = _; rw [← hW6]; exact heap_past h13 _
                      have HM6 : Hid (OM w qb hi2 ls2 k' (1 + (i : Int)) W6) := HT.out.2.1.below HB6.out
                      have HS1 : Hid (Calls Try.prog 14 #[.agg #[.int .i64 x.seq, .int .i64 x.pri, .int .i64 x.exp, .bool x.dur, .int .i64 x.cnt, .int .i64 (1 + (i : Int)), .slice a x.n c], .agg #[.int .i64 x.seq, .int .i64 x.pri, .int .i64 x.exp, .bool x.dur, .int .i64 x.cnt, .int .i64 (1 + (i : Int)), .slice x.a x.n x.c]] W6 fun e w' => e = .returned (.bool true) ∧ Below W6.heap.size W6 w') := by
                        obtain ⟨l, r1, r2⟩ := HT.out.2.2.2
                        exact same_eq { x with hol := 1 + (i : Int) } a c l W6 (r2.below HM6.out.1) (r1.below HB6.out)
                      have HL6 : Hid (Wy EK W6 w.heap.size (.slice (some ⟨g2, o2, none⟩) m2 c2) ls2) := HWY.out.ke (KE.below (belOn HBX.out HBX.out.size HX6.out))
                      have HW6 := hide hW6
                      clear hW6 hc2 hxx h13 hg3 HT HB5 HH5 HW5 HBX HWY HX6
                      go_wp2_with fail
                      rw [HW6.out]
                      refine Calls.mono HS1.out ?_
                      rintro e w7 ⟨rfl, hb7⟩
                      clear q0 q1 q2 q3 q4 q5 q6 t0 t1 t2 t3 t4 t5 t6 hl13 hg2 HS1
                      have HM7 := hide (HM6.out.below hb7)
                      have HL7 := hide (HL6.out.ke (KE.below hb7))
                      have h13 := (KE.below hb7).2 _ _ _ H13.out
                      have H17b := hide ((KE.below hb7).2 _ _ _ H17.out)
                      obtain ⟨t0, t1, t2, t3, t4, t5, t6⟩ := ent_cells h13
                      have hl13 := (Array.getElem?_eq_some_iff.1 h13).1
                      have HREM := hide (rem_or HM7.out HX.out (by omega))
                      clear t1 t2 t3 t4 t5 t6 h13 hb7 HM6 HL6 H13 H17 HW6
                      go_wp2_with fail
                      refine Calls.mono HREM.out ?_
                      rintro e w8 ⟨a8, c8, rfl, HR8⟩
                      have h17 := HR8.out.2.1.2 _ _ _ H17b.out
                      obtain ⟨u0, u1, u2, u3, u4', u5, u6⟩ := ent_cells h17
                      have hl17 := (Array.getElem?_eq_some_iff.1 h17).1
                      obtain ⟨W9, hW9⟩ : ∃ W9, w8.alloc (Obj.cells #[.int .i64 x.seq, .int .i64 x.pri, .int .i64 x.exp, .bool x.dur, .int .i64 x.cnt, .int .i64 (1 + (i : Int)), .slice a8 x.n c8] 37) = W9 := ⟨_, rfl⟩
                      have HB9 : Hid (Below w8.heap.size w8 W9) := by show Below _ _ _; rw [← hW9]; exact bel1 (Below.refl _ _) (Nat.le_refl _) _
                      have HQ9 : Hid (OQ w qb hi2 (ls2.eraseIdx k') W9) := HR8.out.1.below HB9.out
                      have HL9 : Hid (Wy EK W9 w.heap.size (.slice (some ⟨g2, o2, none⟩) m2 c2) ls2) := (HL7.out.ke HR8.out.2.1).ke (KE.below HB9.out)
                      have HS2 : Hid (Calls Try.prog 14 #[.agg #[.int .i64 x.seq, .int .i64 x.pri, .int .i64 x.exp, .bool x.dur, .int .i64 x.cnt, .int .i64 (1 + (i : Int)), .slice a8 x.n c8], .agg #[.int .i64 x.seq, .int .i64 x.pri, .int .i64 x.exp, .bool x.dur, .int .i64 x.cnt, .int .i64 (1 + (i : Int)), .slice x.a x.n x.c]] W9 fun e w' => e = .returned (.bool true) ∧ Below W9.heap.size W9 w') := by
                        obtain ⟨l, r1, r2⟩ := HR8.out.2.2
                        exact same_eq { x with hol := 1 + (i : Int) } a8 c8 l W9 (r2.below HQ9.out.1) (r1.below HB9.out)
                      have HW9 := hide hW9
                      clear hW9 h17 t0 hl13 HREM HR8 HB9 HL7 HM7 H17b
                      go_wp2_with fail
                      rw [HW9.out]
                      refine Calls.mono HS2.out ?_
                      rintro e ws ⟨rfl, hb9⟩
                      clear u0 u1 u2 u3 u4' u5 u6 hl17 HS2
                      have HR0 : Hid (R4 w ws qb k' 0 hi2 (.slice (some ⟨g2, o2, none⟩) m2 c2) (.slice none 0 0) ls2 ws) := ⟨HQ9.out.below hb9, HL9.out.ke (KE.below hb9), .inl ⟨rfl, by simp⟩, fun b e => Nat.lt_of_lt_of_le (HL9.out.lt e).2 hb9.size, Nat.le_refl _⟩
                      have HWS : Hid (w.heap.size ≤ ws.heap.size) := Nat.le_trans HQ9.out.1.size hb9.size
                      clear hb9 HQ9 HL9 HW9
                      go_wp2_with fail
                      go_loopw [22, 23] (fun v22 v23 wx => ∃ n : Nat, v23 = .int .i64 (n : Int) ∧ n ≤ m2 ∧ Hid (R4 w ws qb k' n hi2 (.slice (some ⟨g2, o2, none⟩) m2 c2) v22 ls2 wx)) (fun _ v23 _ => m2 - (intOf v23).toNat)
                      case atStart => exact ⟨0, rfl, Nat.zero_le _, HR0⟩
                      case round =>
                        rename World => wy
                        clear HR0
                        obtain ⟨n, rfl, hn, HR4⟩ := hrel
                        obtain ⟨a22, c22, h22⟩ := HR4.out.2.2.1.shape
                        subst h22
                        obtain ⟨m3, hm3⟩ : ∃ m3, ((ls2.take n).eraseIdx k').length = m3 := ⟨_, rfl⟩
                        have HM3 := hide hm3
                        have hm34 : m3 ≤ 4096 := by
                          rw [← hm3]
                          have h1 : ((ls2.take n).eraseIdx k').length ≤ (ls2.take n).length := by rw [List.length_eraseIdx]; split <;> omega
                          rw [List.length_take] at h1
                          omega
                        rw [hm3] at HR4 ⊢
                        clear hm3
                        by_cases hnm : n < m2
                        · have hnm' : (n : Int) < (m2 : Int) := by omega
                          have hwn : IntKind.i64.wrap ((n : Int) + 1) = (n : Int) + 1 := by rw [IntKind.wrap_i64]; omega
                          have hn2 : n < ls2.length := by have := HM2.out; omega
                          by_cases hnk : n = k'
                          · subst hnk
                            have HRN : Hid (R4 w ws qb n (n + 1) hi2 (.slice (some ⟨g2, o2, none⟩) m2 c2) (.slice a22 m3 c22) ls2 wy) := by
                              have h := HR4.out
                              refine ⟨h.1, h.2.1, ?_, h.2.2.2⟩
                              rw [erase_take_at ls2 n hn2]
                              exact h.2.2.1
                            clear HR4
                            go_wp2_with fail
                            go_roundw
                            case rel => exact ⟨n + 1, by go_num, by omega, HRN⟩
                            case measure => simp [intOf]; omega
                          · have hnk' : ¬ (n : Int) = (k' : Int) := by omega
                            obtain ⟨g4, o4, cp4, e4, hcp4, hg4, hg5, hc4⟩ := HR4.out.2.1.ent n hn2
                            rw [HM2.out] at e4
                            cases e4
                            have HY := hide (rfl : ls2[n] = ls2[n])
                            obtain ⟨y, hy⟩ : ∃ y, ls2[n] = y := ⟨_, rfl⟩
                            have HYE := hide hy
                            rw [hy] at hc4
                            have q0 := hc4 0 _ rfl
                            have q1 := hc4 1 _ rfl
                            have q2 := hc4 2 _ rfl
                            have q3 := hc4 3 _ rfl
                            have q4 := hc4 4 _ rfl
                            have q5 := hc4 5 _ rfl
                            have q6 := hc4 6 _ rfl
                            rw [Nat.add_zero] at q0
                            clear hc4 hg5 hy HY
                            go_wp2_with (first | (refine wpList_build_one ekOk rfl (.tmp 159) rfl y rfl ?_) | (at_builtin; refine wpList_append_way ekOk _ rfl (.tmp 155) (.tmp 160) rfl ws.heap.size (.slice a22 m3 c22) ((ls2.take n).eraseIdx k') y rfl (HR4.out.2.2.1.ke (KE.below (bel1 (Below.refl _ _) (Nat.le_refl _) _))) wy.heap.size 1 rfl (heap_new _ _) (by have := HR4.out.2.2.2.2; simp; omega) (by have := HM3.out; omega) ?_; intro v' w4 hwy hgr hat; have HWY := hide hwy; have HGR := hide hgr; clear hwy hgr hat))
                            go_roundw
                            case rel => exact ⟨n + 1, by go_num, by omega, R4.put HR4.out HWS.out hn2 hnk HYE.out HWY.out HGR.out⟩
                            case measure => simp [intOf]; omega
                        · obtain rfl : m2 = n := by omega
                          have HOL : Hid (OL w qb n0 i (k - 1) (.slice a22 m3 c22) wy) := by
                            have h := HR4.out
                            refine ⟨hi2, ls2.eraseIdx k', h.1, HHI2.out, ?_, fun e => ?_⟩
                            · have h3 := h.2.2.1
                              rw [List.take_of_length_le (by have := HM2.out; omega)] at h3
                              exact h3.mono HWS.out
                            · have := HEND2.out e
                              rw [List.length_eraseIdx, if_pos hkl]
                              omega
                          clear HR4
                          go_wp2_with fail
                          go_roundw
                          case rel => exact ⟨k - 1, rfl, by omega, by omega, HOL⟩
                          case measure => simp [intOf]; omega
              · have HNX : Hid (OrI w qb n0 (i + 1) (.slice a2 m2 c2) wr2) := ⟨hi2, ls2, HO2.out, by have := HHI2.out; show hi2 ≤ ((i + 1 : Nat) : Int); omega, HW2.out, fun h => List.eq_nil_of_length_eq_zero (by have := HEND2.out h; omega)⟩
                clear HO2 HHI2 HW2 HEND2 HM2
                go_wp2_with fail
                go_roundw
                case rel => exact ⟨i + 1, by go_num, by go_num, by omega, HNX⟩
                case measure => simp [intOf]; omega
    · obtain rfl : n0 = i := by have := HIN.out; omega
      have hls : ls = [] := HEND.out rfl
      subst hls
      obtain rfl : m = 0 := HM.out.symm
      clear HHI HW HEND HM HIN HE
      go_wp2_with fail
      refine Calls.mono (len_or HO.out) ?_
      rintro e w9 ⟨rfl, hb9⟩
      go_wp2
      go_ret
      exact ⟨rfl, hb9⟩
end Go.Proofs.Ytnbhifakfehefaa
