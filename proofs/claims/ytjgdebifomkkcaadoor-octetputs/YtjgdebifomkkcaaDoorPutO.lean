/- ByteBook's Owned: the walk. -/
import Derived.Test.YtjgdebifomkkcaaDoorPutQ
namespace Go.Proofs.YtjgdebifomkkcaaDoor
open Go.RowKit
set_option linter.unusedVariables false

set_option maxRecDepth 100000 in
set_option maxHeartbeats 4000000 in
theorem owned_yes (pb gl capl m : Nat) (ad : Nat → Option Addr) (gd : Nat → Nat) (w : World) (hbk : Book w pb 30 (.slice (some ⟨gl, 0, none⟩) 3 capl)) (hgl : ∀ j, j < 3 → w.cell? ⟨gl, j, none⟩ = some (.slice (ad j) m m)) (hgll : gl < w.heap.size)
    (hne : ¬ In3 m gd pb ∧ ¬ In3 m gd gl) (hinj : 0 < m → ∀ a b, a < 3 → b < 3 → gd a = gd b → a = b) (had : ∀ j, j < 3 → 0 < m → ad j = some ⟨gd j, 0, none⟩) (hnil : m = 0 → ∀ j, j < 3 → ad j = none) (hm8 : m ≤ 8) (h3 : Own3 w m gd 0 0) :
    Calls Tryd.prog 13 #[.pointer (some ⟨pb, 0, none⟩)] w fun e w' => e = .returned (.bool true) ∧ Kp (In3 m gd) w w' := by
  obtain ⟨i0, hi, hz0, hz1, hz2⟩ := info_parts Tryd.infoL
  have HI := hide hi
  have HZ0 := hide hz0
  have HZ1 := hide hz1
  have HZ2 := hide hz2
  clear hi hz0 hz1 hz2
  obtain ⟨i5, hi, hz0, hz1, hz2⟩ := info_parts Tryd.info5
  have HJ := hide hi
  have HY0 := hide hz0
  have HY1 := hide hz1
  have HY2 := hide hz2
  clear hi hz0 hz1 hz2
  have hpbl : pb < w.heap.size := (Array.getElem?_eq_some_iff.1 hbk).1
  have HC : Hid (∀ w', Kp (In3 m gd) w w' → w'.cell? ⟨pb, 0, none⟩ = some (.slice (some ⟨gl, 0, none⟩) 3 capl) ∧ ∀ j, j < 3 → w'.cell? ⟨gl, j, none⟩ = some (.slice (ad j) m m)) := fun w' hk =>
    ⟨(hk.cell hpbl hne.1).trans (cell_of_blk hbk).1, fun j hj => (hk.cell hgll hne.2).trans (hgl j hj)⟩
  have HINJ := hide hinj
  have HAD := hide had
  have HNIL := hide hnil
  have H3 := hide h3
  clear hbk hgl hne hinj had hnil h3
  go_enter Tryd.func13, Tryd.ntmps13
  go_wp2
  go_loopw [3] (fun i w1 => ∃ a : Nat, a ≤ 3 ∧ i = .int .i64 a ∧ Hid (Own3 w1 m gd a 0) ∧ Hid (Kp (In3 m gd) w w1)) (fun i _ => 3 - (intOf i).toNat)
  case atStart => exact ⟨0, Nat.zero_le _, rfl, H3, hide (Kp.refl _ _)⟩
  case round =>
    rename World => w1
    obtain ⟨a, ha, rfl, HO1, HK1⟩ := hrel
    by_cases ha3 : a < 3
    · obtain ⟨hc, hgc⟩ := HC.out _ HK1.out
      have hg := hgc a ha3
      have HA : Hid (0 < m → ad a = some ⟨gd a, 0, none⟩) := fun h => HAD.out a ha3 h
      clear hgc
      generalize ad a = A at *
      go_wp2
      go_loopw [5] (fun k w2 => ∃ q : Nat, q ≤ m ∧ k = .int .i64 q ∧ Hid (Own3 w2 m gd a q) ∧ Hid (Kp (In3 m gd) w w2)) (fun k _ => m - (intOf k).toNat)
      case atStart => exact ⟨0, Nat.zero_le _, rfl, HO1, HK1⟩
      case round =>
        rename World => w2
        obtain ⟨q, hq, rfl, HO2, HK2⟩ := hrel
        by_cases hqm : q < m
        · obtain rfl := HA.out (by omega)
          obtain ⟨⟨old, hco⟩, hfo⟩ := HO2.out.cell ha3 hqm
          have hd : (q : Int) / 251 = 0 := by omega
          have hqm' : (q : Int) < (m : Int) := by omega
          go_wp2
          go_roundw
          case rel => exact ⟨q + 1, by omega, by go_num, hide (HO2.out.set (HINJ.out (by omega)) ha3 hqm (by simp [byteV])), hide (HK2.out.setCell ⟨by omega, a, ha3, rfl⟩ _)⟩
          case measure => simp [intOf]; omega
        · have hqm' : q = m := by omega
          subst hqm'
          go_wp2
          go_roundw
          case rel => exact ⟨a + 1, by omega, by go_num, hide HO2.out.next, HK2⟩
          case measure => simp [intOf]; omega
    · have HA3 : Hid (a = 3) := hide (by omega)
      have HO1 : Hid (Own3 w1 m gd 3 0) := by
        have := HO1.out
        rwa [HA3.out] at this
      obtain ⟨hc, hgc⟩ := HC.out _ HK1.out
      have HGC := hide hgc
      have hplt : pb < w1.heap.size := Nat.lt_of_lt_of_le hpbl HK1.out.2.2.2.1
      have hglt : gl < w1.heap.size := Nat.lt_of_lt_of_le hgll HK1.out.2.2.2.1
      clear hgc HC
      have hdec : decide ((a : Int) < 3) = false := by simp; omega
      go_wp2
      try simp only [hdec]
      clear hdec
      go_loopw [6, 7] (fun gr i w3 => ∃ a : Nat, ∃ els, a ≤ 3 ∧ i = .int .i64 a ∧ Hid (w3.ownsRow w1.heap.size 24 1 gr (5 * a) els) ∧ Hid (Snap w3 w1.heap.size els none 0 0) ∧ Hid (Below w1.heap.size w1 w3)) (fun _ i _ => 3 - (intOf i).toNat)
      case atStart => exact ⟨0, [], Nat.zero_le _, rfl, hide (World.ownsRow_nil _ _ _ _), hide (Snap.nil _ _ _ _ _), hide (Below.refl _ _)⟩
      case round =>
        rename World => w3
        obtain ⟨a, els, ha, rfl, HG3, HS3, HB3⟩ := hrel
        by_cases ha3 : a < 3
        · have hc3 := (HB3.out.cell (p := ⟨pb, 0, none⟩) hplt).trans hc
          have hg3 := (HB3.out.cell (p := ⟨gl, a, none⟩) hglt).trans (HGC.out a ha3)
          have HA : Hid (0 < m → ad a = some ⟨gd a, 0, none⟩) := fun h => HAD.out a ha3 h
          have HN : Hid (m = 0 → ad a = none) := fun h => HNIL.out h a ha3
          generalize ad a = A at *
          have hdec2 : decide ((a : Int) < 3) = true := by simp; omega
          go_wp2
          try simp only [hdec2]
          clear hdec2
          go_loopw [6, 8, 9] (fun gr l k w4 => ∃ q L N : Nat, ∃ els, q ≤ 20 ∧ Hid (L = m + q) ∧ Hid (N = 5 * a + cn q) ∧ k = .int .i64 q ∧ Hid (w4.ownsRow w1.heap.size 24 1 gr N els) ∧ Hid (Below w1.heap.size w1 w4) ∧ ((q = 0 ∧ l = .slice A m m ∧ Hid (Snap w4 w1.heap.size els none 0 0)) ∨ (0 < q ∧ Hid (w4.ownsRow w1.heap.size 5 1 l L (List.replicate L (byteV a))) ∧ Hid (Snap w4 w1.heap.size els l.ownBlock L a)))) (fun _ _ k _ => 20 - (intOf k).toNat)
          case atStart => exact ⟨0, m, 5 * a, els, Nat.zero_le _, hide rfl, hide rfl, rfl, HG3, HB3, .inl ⟨rfl, rfl, HS3⟩⟩
          case round =>
            rename World => w4
            obtain ⟨q, L, N, els, hq, HL, HN', rfl, HG4, HB4, hor⟩ := hrel
            have hL28 : L ≤ 28 := by have := HL.out; omega
            have hN20 : N ≤ 20 := by have := HN'.out; have := cn_le (q := q); omega
            by_cases hq20 : q < 20
            · rcases hor with ⟨hq0, rfl, HS4⟩ | ⟨hq0, HL4, HS4⟩
              · have HCN := hide (cn_yes (q := q) (.inl (by omega)))
                have HQ0 := hide hq0
                have hq3 : q < 3 := by omega
                have HN5 : Hid (N / 5 = a) := by have := HN'.out; have := HCN.out; show _ = _; omega
                clear hq0
                have HCL := hide (cells_old (w4 := w4) (o := .cells #[byteV a] 5) HO1.out ha3 HA.out HB4.out)
                have HL28 : Hid (m + 1 ≤ 28) := hide (by omega)
                have HNN : Hid (A = none → m = 0 ∧ m = 0) := fun h => by
                  by_cases h0 : 0 < m
                  · have := HA.out h0
                    rw [h] at this
                    cases this
                  · omega
                have HLN : Hid ((List.replicate m (byteV a)).length = m * 1) := by simp [Hid]
                have HNW : Hid (∀ j u, ([byteV a] : List Value)[j]? = some u → (w4.alloc (.cells #[byteV a] 5)).cell? ((⟨w4.heap.size, 0, none⟩ : Addr).add j) = some u) := fun j u hj => by
                  cases j with
                  | zero => simp at hj; subst hj; exact cell_new1 _ _ _
                  | succ j => simp at hj
                have HON : Hid (∀ u ∈ ([byteV a] : List Value), u.oneCell' = true) := fun u hu => by simp at hu; subst hu; rfl
                have hd : (m : Int) / 251 = 0 := by omega
                go_wp2_with (first
                | (at_builtin; refine wpList_append_grows _ rfl (.tmp 64) (.tmp 71) 24 rfl 5 i5 (.int .u8 0) 1 1 Tryd.underlying24 HJ.out HY0.out HY1.out HY2.out rfl (by decide) A m m (List.replicate m (byteV a)) rfl HNN.out HLN.out HCL.out ⟨w4.heap.size, 0, none⟩ 1 1 [byteV a] rfl rfl HNW.out HON.out (by omega) (by unfold maxLen; omega) (by omega) ?_; intro v' w5 r1 r2; obtain ⟨g, cg, rfl, hbg, hl5, hg5, hs5, hb5⟩ := step_0 HG4.out HS4.out HB4.out (Nat.le_refl _) r1 r2; have HL5 := hide hl5; have HG5 := hide hg5; have HS5 := hide hs5; have HB5 := hide hb5; clear r1 r2 hl5 hg5 hs5 hb5)
                | (at_builtin; refine wpList_append_new _ rfl (.tmp 83) (.tmp 85) 28 rfl w1.heap.size 24 i0 (.slice none 0 0) 24 Tryd.underlying28 HI.out HZ0.out HZ1.out HZ2.out rfl _ N _ rfl (HG5.out.alloc _) ⟨w5.heap.size, 0, none⟩ 1 (.slice (some ⟨g, 0, none⟩) (m + 1) cg) rfl (cell_new1 _ _ _) rfl (by unfold maxLen; omega) (by omega) (by have := HB5.out.size; simp; omega) ?_; intro gr' w6 r1 r2 r3; have HG6 := hide r1; have HS6 := hide (step_g HL5.out HG5.out HS5.out HB5.out (Nat.le_refl _) hbg HL28.out HN5.out r2); clear r1 r2 r3))
                go_roundw
                case rel => first | exact ⟨_, _, .int .i64 ((q : Int) + 1), ⟨q + 1, by omega, m + 1, by have := HQ0.out; show _ = _; omega, N + 1, by have := HN'.out; have := HCN.out; show _ = _; omega, by go_num, _, HG6, hide HS6.out.2.2, .inr ⟨by omega, hide HS6.out.1, hide HS6.out.2.1⟩⟩, rfl, rfl, rfl⟩ | exact ⟨q + 1, m + 1, N + 1, _, by omega, by have := HQ0.out; show _ = _; omega, by have := HN'.out; have := HCN.out; show _ = _; omega, by go_num, HG6, hide HS6.out.2.2, .inr ⟨by omega, hide HS6.out.1, hide HS6.out.2.1⟩⟩
                case measure => simp [intOf]; omega
              · have HL28 : Hid (L + 1 ≤ 28) := by have := HL.out; show _ ≤ _; omega
                have hL0 : 0 < L := by have := HL.out; omega
                obtain ⟨g4, c4, rfl, hbg4, hlt4⟩ := own_shape HL4.out hL0
                have hd : (L : Int) / 251 = 0 := by omega
                by_cases hq3 : q < 3
                · have HCN := hide (cn_yes (q := q) (.inl hq3))
                  have HN5 : Hid (N / 5 = a) := by have := HN'.out; have := HCN.out; show _ = _; omega
                  go_wp2_with (first
                  | (at_builtin; refine wpList_append_two _ rfl (.tmp 64) (.tmp 71) 24 rfl w1.heap.size 5 i5 (.int .u8 0) 1 Tryd.underlying24 HJ.out HY0.out HY1.out HY2.out rfl _ L _ rfl (HL4.out.alloc _) ⟨w4.heap.size, 0, none⟩ 1 (byteV a) rfl (cell_new1 _ _ _) rfl (by unfold maxLen; omega) (by omega) (by have := HB4.out.size; simp; omega) ?_; intro v' w5 r1 r2; obtain ⟨g, cg, rfl, hbg, hl5, hg5, hs5, hb5⟩ := step_l HL4.out HG4.out HS4.out HB4.out (Nat.le_refl _) r1 r2; have HL5 := hide hl5; have HG5 := hide hg5; have HS5 := hide hs5; have HB5 := hide hb5; clear r1 r2 hl5 hg5 hs5 hb5)
                  | (at_builtin; refine wpList_append_new _ rfl (.tmp 83) (.tmp 85) 28 rfl w1.heap.size 24 i0 (.slice none 0 0) 24 Tryd.underlying28 HI.out HZ0.out HZ1.out HZ2.out rfl _ N _ rfl (HG5.out.alloc _) ⟨w5.heap.size, 0, none⟩ 1 (.slice (some ⟨g, 0, none⟩) (L + 1) cg) rfl (cell_new1 _ _ _) rfl (by unfold maxLen; omega) (by omega) (by have := HB5.out.size; simp; omega) ?_; intro gr' w6 r1 r2 r3; have HG6 := hide r1; have HS6 := hide (step_g HL5.out HG5.out HS5.out HB5.out (Nat.le_refl _) hbg HL28.out HN5.out r2); clear r1 r2 r3))
                  go_roundw
                  case rel => first | exact ⟨_, _, .int .i64 ((q : Int) + 1), ⟨q + 1, by omega, L + 1, by have := HL.out; show _ = _; omega, N + 1, by have := HN'.out; have := HCN.out; show _ = _; omega, by go_num, _, HG6, hide HS6.out.2.2, .inr ⟨by omega, hide HS6.out.1, hide HS6.out.2.1⟩⟩, rfl, rfl, rfl⟩ | exact ⟨q + 1, L + 1, N + 1, _, by omega, by have := HL.out; show _ = _; omega, by have := HN'.out; have := HCN.out; show _ = _; omega, by go_num, HG6, hide HS6.out.2.2, .inr ⟨by omega, hide HS6.out.1, hide HS6.out.2.1⟩⟩
                  case measure => simp [intOf]; omega
                · by_cases hq8 : q = 8
                  · have HCN := hide (cn_yes (q := q) (.inr (.inl hq8)))
                    have hb8 : ((q : Int) == 8) = true := by rw [hq8]; rfl
                    have HQ8 := hide hq8
                    clear hq8
                    have HN5 : Hid (N / 5 = a) := by have := HN'.out; have := HCN.out; show _ = _; omega
                    go_wp2_with (first
                    | (at_builtin; refine wpList_append_two _ rfl (.tmp 64) (.tmp 71) 24 rfl w1.heap.size 5 i5 (.int .u8 0) 1 Tryd.underlying24 HJ.out HY0.out HY1.out HY2.out rfl _ L _ rfl (HL4.out.alloc _) ⟨w4.heap.size, 0, none⟩ 1 (byteV a) rfl (cell_new1 _ _ _) rfl (by unfold maxLen; omega) (by omega) (by have := HB4.out.size; simp; omega) ?_; intro v' w5 r1 r2; obtain ⟨g, cg, rfl, hbg, hl5, hg5, hs5, hb5⟩ := step_l HL4.out HG4.out HS4.out HB4.out (Nat.le_refl _) r1 r2; have HL5 := hide hl5; have HG5 := hide hg5; have HS5 := hide hs5; have HB5 := hide hb5; clear r1 r2 hl5 hg5 hs5 hb5)
                    | (at_builtin; refine wpList_append_new _ rfl (.tmp 83) (.tmp 85) 28 rfl w1.heap.size 24 i0 (.slice none 0 0) 24 Tryd.underlying28 HI.out HZ0.out HZ1.out HZ2.out rfl _ N _ rfl (HG5.out.alloc _) ⟨w5.heap.size, 0, none⟩ 1 (.slice (some ⟨g, 0, none⟩) (L + 1) cg) rfl (cell_new1 _ _ _) rfl (by unfold maxLen; omega) (by omega) (by have := HB5.out.size; simp; omega) ?_; intro gr' w6 r1 r2 r3; have HG6 := hide r1; have HS6 := hide (step_g HL5.out HG5.out HS5.out HB5.out (Nat.le_refl _) hbg HL28.out HN5.out r2); clear r1 r2 r3))
                    go_roundw
                    case rel => first | exact ⟨_, _, .int .i64 ((q : Int) + 1), ⟨q + 1, by omega, L + 1, by have := HL.out; show _ = _; omega, N + 1, by have := HN'.out; have := HCN.out; show _ = _; omega, by go_num, _, HG6, hide HS6.out.2.2, .inr ⟨by omega, hide HS6.out.1, hide HS6.out.2.1⟩⟩, rfl, rfl, rfl⟩ | exact ⟨q + 1, L + 1, N + 1, _, by omega, by have := HL.out; show _ = _; omega, by have := HN'.out; have := HCN.out; show _ = _; omega, by go_num, HG6, hide HS6.out.2.2, .inr ⟨by omega, hide HS6.out.1, hide HS6.out.2.1⟩⟩
                    case measure => simp [intOf]; omega
                  · by_cases hq19 : q = 19
                    · have HCN := hide (cn_yes (q := q) (.inr (.inr hq19)))
                      have hb8 : ((q : Int) == 8) = false := by rw [hq19]; rfl
                      have hb19 : ((q : Int) == 19) = true := by rw [hq19]; rfl
                      have HQ19 := hide hq19
                      clear hq19
                      have HN5 : Hid (N / 5 = a) := by have := HN'.out; have := HCN.out; show _ = _; omega
                      go_wp2_with (first
                      | (at_builtin; refine wpList_append_two _ rfl (.tmp 64) (.tmp 71) 24 rfl w1.heap.size 5 i5 (.int .u8 0) 1 Tryd.underlying24 HJ.out HY0.out HY1.out HY2.out rfl _ L _ rfl (HL4.out.alloc _) ⟨w4.heap.size, 0, none⟩ 1 (byteV a) rfl (cell_new1 _ _ _) rfl (by unfold maxLen; omega) (by omega) (by have := HB4.out.size; simp; omega) ?_; intro v' w5 r1 r2; obtain ⟨g, cg, rfl, hbg, hl5, hg5, hs5, hb5⟩ := step_l HL4.out HG4.out HS4.out HB4.out (Nat.le_refl _) r1 r2; have HL5 := hide hl5; have HG5 := hide hg5; have HS5 := hide hs5; have HB5 := hide hb5; clear r1 r2 hl5 hg5 hs5 hb5)
                      | (at_builtin; refine wpList_append_new _ rfl (.tmp 83) (.tmp 85) 28 rfl w1.heap.size 24 i0 (.slice none 0 0) 24 Tryd.underlying28 HI.out HZ0.out HZ1.out HZ2.out rfl _ N _ rfl (HG5.out.alloc _) ⟨w5.heap.size, 0, none⟩ 1 (.slice (some ⟨g, 0, none⟩) (L + 1) cg) rfl (cell_new1 _ _ _) rfl (by unfold maxLen; omega) (by omega) (by have := HB5.out.size; simp; omega) ?_; intro gr' w6 r1 r2 r3; have HG6 := hide r1; have HS6 := hide (step_g HL5.out HG5.out HS5.out HB5.out (Nat.le_refl _) hbg HL28.out HN5.out r2); clear r1 r2 r3))
                      go_roundw
                      case rel => first | exact ⟨_, _, .int .i64 ((q : Int) + 1), ⟨q + 1, by omega, L + 1, by have := HL.out; show _ = _; omega, N + 1, by have := HN'.out; have := HCN.out; show _ = _; omega, by go_num, _, HG6, hide HS6.out.2.2, .inr ⟨by omega, hide HS6.out.1, hide HS6.out.2.1⟩⟩, rfl, rfl, rfl⟩ | exact ⟨q + 1, L + 1, N + 1, _, by omega, by have := HL.out; show _ = _; omega, by have := HN'.out; have := HCN.out; show _ = _; omega, by go_num, HG6, hide HS6.out.2.2, .inr ⟨by omega, hide HS6.out.1, hide HS6.out.2.1⟩⟩
                      case measure => simp [intOf]; omega
                    · have HCN := hide (cn_no hq3 hq8 hq19 hq20)
                      have hb8 : ((q : Int) == 8) = false := by rw [beq_eq_false_iff_ne]; omega
                      have hb19 : ((q : Int) == 19) = false := by rw [beq_eq_false_iff_ne]; omega
                      go_wp2_with (first
                        | (at_builtin; refine wpList_append_two _ rfl (.tmp 64) (.tmp 71) 24 rfl w1.heap.size 5 i5 (.int .u8 0) 1 Tryd.underlying24 HJ.out HY0.out HY1.out HY2.out rfl _ L _ rfl (HL4.out.alloc _) ⟨w4.heap.size, 0, none⟩ 1 (byteV a) rfl (cell_new1 _ _ _) rfl (by unfold maxLen; omega) (by omega) (by have := HB4.out.size; simp; omega) ?_; intro v' w5 r1 r2; obtain ⟨g, cg, rfl, hbg, hl5, hg5, hs5, hb5⟩ := step_l HL4.out HG4.out HS4.out HB4.out (Nat.le_refl _) r1 r2; have HL5 := hide hl5; have HG5 := hide hg5; have HS5 := hide hs5; have HB5 := hide hb5; clear r1 r2 hl5 hg5 hs5 hb5))
                      go_roundw
                      case rel => first | exact ⟨_, _, .int .i64 ((q : Int) + 1), ⟨q + 1, by omega, L + 1, by have := HL.out; show _ = _; omega, N, by have := HN'.out; have := HCN.out; show _ = _; omega, by go_num, _, HG5, HB5, .inr ⟨by omega, HL5, HS5⟩⟩, rfl, rfl, rfl⟩ | exact ⟨q + 1, L + 1, N, _, by omega, by have := HL.out; show _ = _; omega, by have := HN'.out; have := HCN.out; show _ = _; omega, by go_num, HG5, HB5, .inr ⟨by omega, HL5, HS5⟩⟩
                      case measure => simp [intOf]; omega
            · have HC20 : Hid (cn q = 5) := by
                have hq20' : q = 20 := by omega
                rw [hq20']
                rfl
              have HS5 : Hid (Snap w4 w1.heap.size els none 0 0) := by
                rcases hor with ⟨_, _, h⟩ | ⟨_, _, h⟩
                · exact h
                · exact h.out.low (fun g e => by cases e)
              have HG5 : Hid (w4.ownsRow w1.heap.size 24 1 u6 (5 * (a + 1)) els) := by
                have := HG4.out
                rw [show N = 5 * (a + 1) by have := HN'.out; have := HC20.out; omega] at this
                exact this
              clear hor
              go_wp2
              go_roundw
              case rel => exact ⟨a + 1, els, by omega, by go_num, HG5, HS5, HB4⟩
              case measure => simp [intOf]; omega
        · have HA3b : Hid (a = 3) := hide (by omega)
          have HG3 : Hid (w3.ownsRow w1.heap.size 24 1 u6 15 els) := by
            have := HG3.out
            rw [HA3b.out] at this
            exact this
          obtain ⟨gg, cgg, rfl, hbgg, hggl⟩ := own_shape HG3.out (by omega)
          have hc3 := (HB3.out.cell (p := ⟨pb, 0, none⟩) hplt).trans hc
          have HL3 : Hid (∀ j, j < 3 → ∃ A, w3.cell? ⟨gl, j, none⟩ = some (.slice A m m) ∧ Rd w3 A m (List.replicate m j)) := fun j hj => by
            refine ⟨ad j, (HB3.out.cell (p := ⟨gl, j, none⟩) hglt).trans (HGC.out j hj), ?_⟩
            by_cases h0 : 0 < m
            · rw [HAD.out j hj h0]
              exact ((HO1.out.blk hj h0).rd (by omega)).below HB3.out
            · have hm0 : m = 0 := by omega
              subst hm0
              exact ⟨rfl, fun c hc => by simp at hc, fun h => by omega⟩
          have HE3 : Hid (∀ j, j < 15 → ∃ gx mm c, w3.cell? ⟨gg, j, none⟩ = some (.slice (some ⟨gx, 0, none⟩) mm c) ∧ mm ≤ 28 ∧ Rd w3 (some ⟨gx, 0, none⟩) mm (List.replicate mm (j / 5))) := fun j hj => by
            have hlen : els.length = 15 := by have := HG3.out.1; simpa using this
            have hcell := HG3.out.cellAt j (by omega)
            rw [List.getElem?_eq_getElem (by omega)] at hcell
            obtain ⟨gx, mm, c, e1, e2, e3, e4, e5⟩ := HS3.out j _ (List.getElem?_eq_getElem (by omega))
            rw [e1] at hcell
            exact ⟨gx, mm, c, hcell, e3, e4.rd (by omega)⟩
          have HFIN : Hid (Kp (In3 m gd) w w3) := HK1.out.below HB3.out
          clear hc HGC HG3 HS3 HO1 HAD HNIL HINJ H3
          go_wp2
          go_loop [10] (fun i => ∃ j : Nat, j ≤ 3 ∧ i = .int .i64 j) (fun i => 3 - (intOf i).toNat)
          case atStart => exact ⟨0, Nat.zero_le _, rfl⟩
          case round =>
            obtain ⟨j, hj, rfl⟩ := hrel
            by_cases hj3 : j < 3
            · obtain ⟨A, hcA, hrA⟩ := HL3.out j hj3
              have HR := hide hrA
              clear hrA
              go_wp2_with (go_at_call 28; refine (marked_eq A m m j w3 HR.out (by omega) (by omega)).mono ?_; rintro e w' ⟨rfl, rfl⟩)
              go_round
              case rel => exact ⟨j + 1, by omega, by go_num⟩
              case measure => simp [intOf]; omega
            · go_wp2
              go_loop [12] (fun i => ∃ j : Nat, j ≤ 15 ∧ i = .int .i64 j) (fun i => 15 - (intOf i).toNat)
              case atStart => exact ⟨0, Nat.zero_le _, rfl⟩
              case round =>
                obtain ⟨j, hj, rfl⟩ := hrel
                by_cases hj15 : j < 15
                · obtain ⟨gx, mm, c, hcx, hmm, hrx⟩ := HE3.out j hj15
                  have HR := hide hrx
                  have hd5 : (j : Int) / 5 = ((j / 5 : Nat) : Int) := by omega
                  have hx5 : j / 5 ≤ 200 := by omega
                  clear hrx
                  generalize j / 5 = x at *
                  go_wp2_with (go_at_call 28; refine (marked_eq (some ⟨gx, 0, none⟩) mm c x w3 HR.out (by omega) (by omega)).mono ?_; rintro e w' ⟨rfl, rfl⟩)
                  go_round
                  case rel => exact ⟨j + 1, by omega, by go_num⟩
                  case measure => simp [intOf]; omega
                · go_wp2
                  go_ret
                  exact ⟨rfl, HFIN.out⟩
end Go.Proofs.YtjgdebifomkkcaaDoor
