/- OctetBack: the walk. -/
import Derived.Test.YtjgdebifomkkcaaBackP
namespace Go.Proofs.Ytjgdebifomkkcaa
open Go.RowKit
set_option linter.unusedVariables false
theorem Try.info5b : (Try.prog.info? 5).map (fun i => (i.zero, i.size, i.bytes)) = some (some (.int .u8 0), 1, 1) := by kernel_rfl
theorem pow_lt8 (j : Nat) (h : j ≤ 7) : 256 ^ j ≤ 72057594037927936 := by
  have h2 : 256 ^ j ≤ 256 ^ 7 := Nat.pow_le_pow_right (by omega) h
  have h3 : (256 : Nat) ^ 7 = 72057594037927936 := by decide
  omega
set_option maxRecDepth 100000 in
set_option maxHeartbeats 4000000 in
theorem back_pos (aa : Option Addr) (na ca : Nat) (la : List Nat) (N : Nat) (wd k : Nat) (hk1 : 1 ≤ k) (hk8 : k ≤ 8) (hwk : (1 : Int) + (wd : Int) % 8 = (k : Int)) (ab : Option Addr) (nb cb : Nat) (lb : List Nat) (w : World) (hra : Rd w aa na la) (hrb : Rd w ab nb lb) (hN : N < 18446744073709551616) (hna : na ≤ 1048576) (hnb : nb ≤ 1048576) :
    Calls Try.prog 3 #[.slice aa na ca, .int .u64 (N : Int), .int .i64 (wd : Int), .slice ab nb cb] w fun e w' => e = .returned (.bool true) ∧ Below w.heap.size w w' := by
  have HRA := hide hra
  have HRB := hide hrb
  have hla := hra.1
  have hlb := hrb.1
  clear hra hrb
  obtain ⟨i0, hi, hz0, hz1, hz2⟩ := info_parts Try.info5b
  have HI := hide hi
  have HZ0 := hide hz0
  have HZ1 := hide hz1
  have HZ2 := hide hz2
  clear hi hz0 hz1 hz2
  go_enter Try.func3, Try.ntmps3
  go_wp2_with fail
  refine (put_yes N k w hN (by omega) (by omega)).mono ?_
  rintro e w1 ⟨rfl, hrow, hsz, hb1⟩
  have HPL := hide (Rd.of_digs hrow)
  have hpl : (digs N k).length = k := digs_length N _
  have HGD := hide (getN_digs N k)
  have HDL := hide (digs_lt N k)
  have hlt0 := hrow.lt
  clear hrow
  generalize digs N k = pl at *
  have HRA1 := hide (HRA.out.below hb1)
  have HRB1 := hide (HRB.out.below hb1)
  go_wp2
  go_loopw [11, 12] (fun vb i wr => ∃ j : Nat, j ≤ na ∧ i = .int .i64 j ∧ wr.ownsRow w1.heap.size 5 1 vb j ((la.take j).map bV) ∧ Below w1.heap.size w1 wr) (fun _ i _ => na - (intOf i).toNat)
  case atStart => exact ⟨0, Nat.zero_le _, rfl, World.ownsRow_nil _ _ _ _, Below.refl _ _⟩
  case round =>
    obtain ⟨j, hj, rfl, hown, hbw⟩ := hrel
    have HO := hide hown
    clear hown
    by_cases hjn : j < na
    · obtain ⟨b, off, rfl, hblt, hc0⟩ := HRA1.out.2.2 (by omega)
      have hc := (hbw.cell (p := ⟨b, off + j, none⟩) hblt).trans (hc0 j hjn)
      have HTK := hide (map_take la j (by omega) [])
      generalize la.getD j 0 = y at *
      clear hc0
      go_wp2_with (at_builtin; refine wpList_append_new _ rfl (.tmp 41) (.tmp 46) 22 rfl w1.heap.size 5 i0 (.int .u8 0) 1 Try.underlying22 HI.out HZ0.out HZ1.out HZ2.out rfl _ j _ rfl (HO.out.alloc _) ⟨wr.heap.size, 0, none⟩ 1 (bV y) rfl (cell_new1 _ _ _) rfl (by unfold maxLen; omega) (by omega) (by have := hbw.size; simp; omega) ?_; intro vb' w3 r1 r2 r3; have HR1 := hide r1; have HB3 := hide ((hbw.alloc hbw.size _).grown r2 (by have := hbw.size; simp; omega) (fun g hg => (HO.out.lt g hg).1)); clear r1 r2 r3)
      go_roundw
      case rel => exact ⟨j + 1, by omega, by go_num, by have := HTK.out; simp only [List.nil_append] at this; rw [this]; exact HR1.out, HB3.out⟩
      case measure => simp [intOf]; omega
    · have hjn' : j = na := by omega
      subst hjn'
      have HO1 : Hid (wr.ownsRow w1.heap.size 5 1 u11 j ((la ++ pl.take 0).map bV)) := by
        have := HO.out
        rw [List.take_of_length_le (by omega)] at this
        simpa [Hid] using this
      clear HO
      go_wp2
      go_loopw [11, 13] (fun vb i wr => ∃ m : Nat, m ≤ k ∧ i = .int .i64 m ∧ wr.ownsRow w1.heap.size 5 1 vb (j + m) ((la ++ pl.take m).map bV) ∧ Below w1.heap.size w1 wr) (fun _ i _ => k - (intOf i).toNat)
      case atStart => exact ⟨0, by omega, rfl, HO1.out, hbw⟩
      case round =>
        obtain ⟨m, hm, rfl, hown, hbw⟩ := hrel
        have HO := hide hown
        clear hown HO1
        by_cases hmk : m < k
        · obtain ⟨b, off, hbo, hblt, hc0⟩ := HPL.out.2.2 (by omega)
          cases hbo
          have hc := (hbw.cell (p := ⟨w.heap.size, 0 + m, none⟩) hblt).trans (hc0 m hmk)
          rw [Nat.zero_add] at hc
          have HTK := hide (map_take pl m (by omega) la)
          generalize pl.getD m 0 = y at *
          clear hc0
          go_wp2_with (at_builtin; refine wpList_append_new _ rfl (.tmp 54) (.tmp 59) 22 rfl w1.heap.size 5 i0 (.int .u8 0) 1 Try.underlying22 HI.out HZ0.out HZ1.out HZ2.out rfl _ (j + m) _ rfl (HO.out.alloc _) ⟨wr.heap.size, 0, none⟩ 1 (bV y) rfl (cell_new1 _ _ _) rfl (by unfold maxLen; omega) (by omega) (by have := hbw.size; simp; omega) ?_; intro vb' w3 r1 r2 r3; have HR1 := hide r1; have HB3 := hide ((hbw.alloc hbw.size _).grown r2 (by have := hbw.size; simp; omega) (fun g hg => (HO.out.lt g hg).1)); clear r1 r2 r3)
          go_roundw
          case rel => exact ⟨m + 1, by omega, by go_num, by rw [HTK.out]; exact HR1.out, HB3.out⟩
          case measure => simp [intOf]; omega
        · have hmk' : m = k := by omega
          have HF : Hid (pl.take m = pl) := List.take_of_length_le (by omega)
          subst hmk'
          have HO2 : Hid (wr.ownsRow w1.heap.size 5 1 u11 (j + m) ((la ++ pl).map bV)) := by
            have := HO.out
            rw [HF.out] at this
            exact this
          rcases HO2.out.2 with ⟨rfl, h0⟩ | ⟨g, cg, cur, rfl, _, _, hnc, hrest⟩
          · omega
          clear hrest HO
          have hnc' : ((j : Int) + (m : Int) - 1) ≤ (cg : Int) := by omega
          have hnc0 : (0 : Int) ≤ (j : Int) + (m : Int) - 1 := by omega
          go_wp2_with fail
          refine (get_short _ _ _ _ _ wr (by omega) (by omega) (by omega) (by omega) (by omega) (by omega)).mono ?_
          rintro e w6 ⟨rfl, rfl⟩
          have HO3 : Hid (wr.ownsRow w1.heap.size 5 1 (.slice (some ⟨g, 0, none⟩) (j + m) cg) (j + m + 0) (((la ++ pl) ++ lb.take 0).map bV)) := by
            have := HO2.out
            simpa [Hid] using this
          clear HO2
          go_wp2
          go_loopw [11, 17] (fun vb i wq => ∃ q : Nat, q ≤ nb ∧ i = .int .i64 q ∧ wq.ownsRow w1.heap.size 5 1 vb (j + m + q) (((la ++ pl) ++ lb.take q).map bV) ∧ Below w1.heap.size w1 wq) (fun _ i _ => nb - (intOf i).toNat)
          case atStart => exact ⟨0, by omega, rfl, HO3.out, hbw⟩
          case round =>
            obtain ⟨q, hq, rfl, hown, hbw⟩ := hrel
            have HO := hide hown
            clear hown HO3
            by_cases hqn : q < nb
            · obtain ⟨b, off, rfl, hblt, hc0⟩ := HRB1.out.2.2 (by omega)
              have hc := (hbw.cell (p := ⟨b, off + q, none⟩) hblt).trans (hc0 q hqn)
              have HTK := hide (map_take lb q (by omega) (la ++ pl))
              generalize lb.getD q 0 = y at *
              clear hc0
              go_wp2_with (at_builtin; refine wpList_append_new _ rfl (.tmp 80) (.tmp 85) 22 rfl w1.heap.size 5 i0 (.int .u8 0) 1 Try.underlying22 HI.out HZ0.out HZ1.out HZ2.out rfl _ (j + m + q) _ rfl (HO.out.alloc _) ⟨wr.heap.size, 0, none⟩ 1 (bV y) rfl (cell_new1 _ _ _) rfl (by unfold maxLen; omega) (by omega) (by have := hbw.size; simp; omega) ?_; intro vb' w3 r1 r2 r3; have HR1 := hide r1; have HB3 := hide ((hbw.alloc hbw.size _).grown r2 (by have := hbw.size; simp; omega) (fun g hg => (HO.out.lt g hg).1)); clear r1 r2 r3)
              go_roundw
              case rel => exact ⟨q + 1, by omega, by go_num, by rw [HTK.out]; exact HR1.out, HB3.out⟩
              case measure => simp [intOf]; omega
            · have hqn' : q = nb := by omega
              subst hqn'
              have HFB : Hid (lb.take q = lb) := List.take_of_length_le (by omega)
              have HO4 : Hid (wr.ownsRow w1.heap.size 5 1 u11 (j + m + q) ((la ++ pl ++ lb).map bV)) := by
                have := HO.out
                rw [HFB.out] at this
                exact this
              have HLT : Hid (∀ c ∈ la ++ pl ++ lb, c < 256) := fun c hc => by
                rcases List.mem_append.1 hc with h | h
                · rcases List.mem_append.1 h with h | h
                  · exact HRA.out.2.1 c h
                  · exact HDL.out c h
                · exact HRB.out.2.1 c h
              rcases HO4.out.2 with ⟨rfl, h0⟩ | ⟨g2, cg2, cur2, rfl, _, _, hnc2, hrest⟩
              · omega
              clear hrest HO
              have HGY := hide (get_yes (some ⟨g2, 0, none⟩) (j + m + q) cg2 j m (la ++ pl ++ lb) wr (by omega) (by omega) (by omega) hnc2 (by omega) (Rd.ofOwn HO4.out HLT.out))
              have hgv : getN (((la ++ pl ++ lb).drop j).take m) = N % 256 ^ m := by
                rw [List.append_assoc, List.drop_append_of_le_length (by omega), List.drop_of_length_le (by omega), List.nil_append, List.take_append_of_le_length (by omega), List.take_of_length_le (by omega)]
                exact HGD.out
              generalize getN (((la ++ pl ++ lb).drop j).take m) = V at *
              have HVV := hide hgv
              clear hgv
              go_wp2_with fail
              refine HGY.out.mono ?_
              rintro e w7 ⟨rfl, rfl⟩
              clear HGY
              have hby : Below w.heap.size w wr := hb1.trans (hbw.mono hb1.size)
              by_cases hm8 : m < 8
              · have hpw := pow_lt8 m (by omega)
                go_wp2
                go_loop [21, 22] (fun lst i => ∃ r : Nat, r ≤ m ∧ i = .int .i64 r ∧ lst = .int .u64 ((256 ^ r : Nat) : Int)) (fun _ i => m - (intOf i).toNat)
                case atStart => exact ⟨0, Nat.zero_le _, rfl, rfl⟩
                case round =>
                  obtain ⟨r, hr, rfl, rfl⟩ := hrel
                  by_cases hrm : r < m
                  · have hpr := pow_lt8 r (by omega)
                    have HPS : Hid (256 ^ (r + 1) = 256 ^ r * 256) := Nat.pow_succ _ _
                    have hpr2 := pow_lt8 (r + 1) (by omega)
                    have hps2 : 256 ^ r * 256 ≤ 72057594037927936 := by have := HPS.out; omega
                    clear hpr2
                    generalize 256 ^ r = R at *
                    go_wp2
                    go_round
                    case rel => exact ⟨r + 1, by omega, by go_num, by rw [HPS.out]; go_num⟩
                    case measure => simp [intOf]; omega
                  · have hrm' : r = m := by omega
                    subst hrm'
                    have hpos : 0 < 256 ^ r := Nat.pow_pos (by omega)
                    generalize hL : 256 ^ r = L at *
                    have HLL := hide hL
                    clear hL
                    have hL0 : ((L : Int) == 0) = false := by simp; omega
                    have heq : (N : Int) % (L : Int) = (V : Int) := by rw [HVV.out]; simp
                    go_wp2
                    go_ret
                    exact ⟨rfl, hby⟩
              · have hm8' : m = 8 := by omega
                have hVN : V = N := by rw [HVV.out]; exact Nat.mod_eq_of_lt (by rw [hm8']; exact hN)
                subst hVN
                have hm9 : 8 ≤ m := by omega
                clear hm8'
                go_wp2
                go_ret
                exact ⟨rfl, hby⟩
set_option maxRecDepth 100000 in
set_option maxHeartbeats 4000000 in
theorem back_neg (aa : Option Addr) (na ca : Nat) (la : List Nat) (N : Nat) (x : Int) (hx : x < 0) (ab : Option Addr) (nb cb : Nat) (lb : List Nat) (w : World) (hra : Rd w aa na la) (hrb : Rd w ab nb lb) (hN : N < 18446744073709551616) (hna : na ≤ 1048576) (hnb : nb ≤ 1048576) :
    Calls Try.prog 3 #[.slice aa na ca, .int .u64 (N : Int), .int .i64 x, .slice ab nb cb] w fun e w' => e = .returned (.bool true) ∧ Below w.heap.size w w' := by
  have HRA := hide hra
  have HRB := hide hrb
  have hla := hra.1
  have hlb := hrb.1
  clear hra hrb
  obtain ⟨i0, hi, hz0, hz1, hz2⟩ := info_parts Try.info5b
  have HI := hide hi
  have HZ0 := hide hz0
  have HZ1 := hide hz1
  have HZ2 := hide hz2
  clear hi hz0 hz1 hz2
  go_enter Try.func3, Try.ntmps3
  go_wp2_with fail
  refine (put_yes N 8 w hN (by omega) (by omega)).mono ?_
  rintro e w1 ⟨rfl, hrow, hsz, hb1⟩
  have HPL := hide (Rd.of_digs hrow)
  have hpl : (digs N 8).length = 8 := digs_length N _
  have HGD := hide (getN_digs N 8)
  have HDL := hide (digs_lt N 8)
  have hlt0 := hrow.lt
  clear hrow
  generalize digs N 8 = pl at *
  have HRA1 := hide (HRA.out.below hb1)
  have HRB1 := hide (HRB.out.below hb1)
  go_wp2
  go_loopw [11, 12] (fun vb i wr => ∃ j : Nat, j ≤ na ∧ i = .int .i64 j ∧ wr.ownsRow w1.heap.size 5 1 vb j ((la.take j).map bV) ∧ Below w1.heap.size w1 wr) (fun _ i _ => na - (intOf i).toNat)
  case atStart => exact ⟨0, Nat.zero_le _, rfl, World.ownsRow_nil _ _ _ _, Below.refl _ _⟩
  case round =>
    obtain ⟨j, hj, rfl, hown, hbw⟩ := hrel
    have HO := hide hown
    clear hown
    by_cases hjn : j < na
    · obtain ⟨b, off, rfl, hblt, hc0⟩ := HRA1.out.2.2 (by omega)
      have hc := (hbw.cell (p := ⟨b, off + j, none⟩) hblt).trans (hc0 j hjn)
      have HTK := hide (map_take la j (by omega) [])
      generalize la.getD j 0 = y at *
      clear hc0
      go_wp2_with (at_builtin; refine wpList_append_new _ rfl (.tmp 41) (.tmp 46) 22 rfl w1.heap.size 5 i0 (.int .u8 0) 1 Try.underlying22 HI.out HZ0.out HZ1.out HZ2.out rfl _ j _ rfl (HO.out.alloc _) ⟨wr.heap.size, 0, none⟩ 1 (bV y) rfl (cell_new1 _ _ _) rfl (by unfold maxLen; omega) (by omega) (by have := hbw.size; simp; omega) ?_; intro vb' w3 r1 r2 r3; have HR1 := hide r1; have HB3 := hide ((hbw.alloc hbw.size _).grown r2 (by have := hbw.size; simp; omega) (fun g hg => (HO.out.lt g hg).1)); clear r1 r2 r3)
      go_roundw
      case rel => exact ⟨j + 1, by omega, by go_num, by have := HTK.out; simp only [List.nil_append] at this; rw [this]; exact HR1.out, HB3.out⟩
      case measure => simp [intOf]; omega
    · have hjn' : j = na := by omega
      subst hjn'
      have HO1 : Hid (wr.ownsRow w1.heap.size 5 1 u11 j ((la ++ pl.take 0).map bV)) := by
        have := HO.out
        rw [List.take_of_length_le (by omega)] at this
        simpa [Hid] using this
      clear HO
      go_wp2
      go_loopw [11, 13] (fun vb i wr => ∃ m : Nat, m ≤ 8 ∧ i = .int .i64 m ∧ wr.ownsRow w1.heap.size 5 1 vb (j + m) ((la ++ pl.take m).map bV) ∧ Below w1.heap.size w1 wr) (fun _ i _ => 8 - (intOf i).toNat)
      case atStart => exact ⟨0, by omega, rfl, HO1.out, hbw⟩
      case round =>
        obtain ⟨m, hm, rfl, hown, hbw⟩ := hrel
        have HO := hide hown
        clear hown HO1
        by_cases hmk : m < 8
        · obtain ⟨b, off, hbo, hblt, hc0⟩ := HPL.out.2.2 (by omega)
          cases hbo
          have hc := (hbw.cell (p := ⟨w.heap.size, 0 + m, none⟩) hblt).trans (hc0 m hmk)
          rw [Nat.zero_add] at hc
          have HTK := hide (map_take pl m (by omega) la)
          generalize pl.getD m 0 = y at *
          clear hc0
          go_wp2_with (at_builtin; refine wpList_append_new _ rfl (.tmp 54) (.tmp 59) 22 rfl w1.heap.size 5 i0 (.int .u8 0) 1 Try.underlying22 HI.out HZ0.out HZ1.out HZ2.out rfl _ (j + m) _ rfl (HO.out.alloc _) ⟨wr.heap.size, 0, none⟩ 1 (bV y) rfl (cell_new1 _ _ _) rfl (by unfold maxLen; omega) (by omega) (by have := hbw.size; simp; omega) ?_; intro vb' w3 r1 r2 r3; have HR1 := hide r1; have HB3 := hide ((hbw.alloc hbw.size _).grown r2 (by have := hbw.size; simp; omega) (fun g hg => (HO.out.lt g hg).1)); clear r1 r2 r3)
          go_roundw
          case rel => exact ⟨m + 1, by omega, by go_num, by rw [HTK.out]; exact HR1.out, HB3.out⟩
          case measure => simp [intOf]; omega
        · have hmk' : m = 8 := by omega
          have HF : Hid (pl.take m = pl) := List.take_of_length_le (by omega)
          subst hmk'
          have HO2 : Hid (wr.ownsRow w1.heap.size 5 1 u11 (j + 8) ((la ++ pl).map bV)) := by
            have := HO.out
            rw [HF.out] at this
            exact this
          rcases HO2.out.2 with ⟨rfl, h0⟩ | ⟨g, cg, cur, rfl, _, _, hnc, hrest⟩
          · omega
          clear hrest HO
          have hnc' : ((j : Int) + (8 : Int) - 1) ≤ (cg : Int) := by omega
          have hnc0 : (0 : Int) ≤ (j : Int) + (8 : Int) - 1 := by omega
          go_wp2_with fail
          refine (get_short _ _ _ _ _ wr (by omega) (by omega) (by omega) (by omega) (by omega) (by omega)).mono ?_
          rintro e w6 ⟨rfl, rfl⟩
          have HO3 : Hid (wr.ownsRow w1.heap.size 5 1 (.slice (some ⟨g, 0, none⟩) (j + 8) cg) (j + 8 + 0) (((la ++ pl) ++ lb.take 0).map bV)) := by
            have := HO2.out
            simpa [Hid] using this
          clear HO2
          go_wp2
          go_loopw [11, 17] (fun vb i wq => ∃ q : Nat, q ≤ nb ∧ i = .int .i64 q ∧ wq.ownsRow w1.heap.size 5 1 vb (j + 8 + q) (((la ++ pl) ++ lb.take q).map bV) ∧ Below w1.heap.size w1 wq) (fun _ i _ => nb - (intOf i).toNat)
          case atStart => exact ⟨0, by omega, rfl, HO3.out, hbw⟩
          case round =>
            obtain ⟨q, hq, rfl, hown, hbw⟩ := hrel
            have HO := hide hown
            clear hown HO3
            by_cases hqn : q < nb
            · obtain ⟨b, off, rfl, hblt, hc0⟩ := HRB1.out.2.2 (by omega)
              have hc := (hbw.cell (p := ⟨b, off + q, none⟩) hblt).trans (hc0 q hqn)
              have HTK := hide (map_take lb q (by omega) (la ++ pl))
              generalize lb.getD q 0 = y at *
              clear hc0
              go_wp2_with (at_builtin; refine wpList_append_new _ rfl (.tmp 80) (.tmp 85) 22 rfl w1.heap.size 5 i0 (.int .u8 0) 1 Try.underlying22 HI.out HZ0.out HZ1.out HZ2.out rfl _ (j + 8 + q) _ rfl (HO.out.alloc _) ⟨wr.heap.size, 0, none⟩ 1 (bV y) rfl (cell_new1 _ _ _) rfl (by unfold maxLen; omega) (by omega) (by have := hbw.size; simp; omega) ?_; intro vb' w3 r1 r2 r3; have HR1 := hide r1; have HB3 := hide ((hbw.alloc hbw.size _).grown r2 (by have := hbw.size; simp; omega) (fun g hg => (HO.out.lt g hg).1)); clear r1 r2 r3)
              go_roundw
              case rel => exact ⟨q + 1, by omega, by go_num, by rw [HTK.out]; exact HR1.out, HB3.out⟩
              case measure => simp [intOf]; omega
            · have hqn' : q = nb := by omega
              subst hqn'
              have HFB : Hid (lb.take q = lb) := List.take_of_length_le (by omega)
              have HO4 : Hid (wr.ownsRow w1.heap.size 5 1 u11 (j + 8 + q) ((la ++ pl ++ lb).map bV)) := by
                have := HO.out
                rw [HFB.out] at this
                exact this
              have HLT : Hid (∀ c ∈ la ++ pl ++ lb, c < 256) := fun c hc => by
                rcases List.mem_append.1 hc with h | h
                · rcases List.mem_append.1 h with h | h
                  · exact HRA.out.2.1 c h
                  · exact HDL.out c h
                · exact HRB.out.2.1 c h
              rcases HO4.out.2 with ⟨rfl, h0⟩ | ⟨g2, cg2, cur2, rfl, _, _, hnc2, hrest⟩
              · omega
              clear hrest HO
              have HGY := hide (get_yes (some ⟨g2, 0, none⟩) (j + 8 + q) cg2 j 8 (la ++ pl ++ lb) wr (by omega) (by omega) (by omega) hnc2 (by omega) (Rd.ofOwn HO4.out HLT.out))
              have hgv : getN (((la ++ pl ++ lb).drop j).take 8) = N % 256 ^ 8 := by
                rw [List.append_assoc, List.drop_append_of_le_length (by omega), List.drop_of_length_le (by omega), List.nil_append, List.take_append_of_le_length (by omega), List.take_of_length_le (by omega)]
                exact HGD.out
              generalize getN (((la ++ pl ++ lb).drop j).take 8) = V at *
              have HVV := hide hgv
              clear hgv
              go_wp2_with fail
              refine HGY.out.mono ?_
              rintro e w7 ⟨rfl, rfl⟩
              clear HGY
              have hby : Below w.heap.size w wr := hb1.trans (hbw.mono hb1.size)
              have hVN : V = N := by rw [HVV.out]; exact Nat.mod_eq_of_lt hN
              subst hVN
              go_wp2
              go_ret
              exact ⟨rfl, hby⟩
end Go.Proofs.Ytjgdebifomkkcaa
