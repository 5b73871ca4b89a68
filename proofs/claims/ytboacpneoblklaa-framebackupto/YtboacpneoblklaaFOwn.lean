/- filled, owned: the walk. -/
import Derived.Test.YtboacpneoblklaaFOwnM
namespace Go.Proofs.Ytboacpneoblklaa
open Go.RowKit
set_option linter.unusedVariables false
set_option linter.unusedSimpArgs false

set_option maxHeartbeats 1000000 in
theorem filled_eq (a : Option Addr) (n cap i : Nat) (w : World) (hr : Rd w a n (List.replicate n (i + 1))) (hn : n ≤ 281474976710656) (hm : i ≤ 200) :
    Calls Try.prog 24 #[.slice a n cap, .int .i64 (i : Int)] w fun e w' => e = .returned (.bool true) ∧ w = w' := by
  have HR := hide hr
  clear hr
  go_enter Try.func24, Try.ntmps24
  go_wp2
  go_loop [5] (fun i => ∃ k : Nat, k ≤ n ∧ i = .int .i64 k) (fun i => n - (intOf i).toNat)
  case atStart => exact ⟨0, Nat.zero_le _, rfl⟩
  case round =>
    obtain ⟨k, hk, rfl⟩ := hrel
    by_cases hkn : k < n
    · obtain ⟨b, off, rfl, hlt, hc0⟩ := HR.out.2.2 (by omega)
      have hc := hc0 k hkn
      have e1 : (List.replicate n (i + 1)).getD k 0 = i + 1 := by simp [List.getD_eq_getElem?_getD, hkn]
      rw [e1, show ((i + 1 : Nat) : Int) = (i : Int) + 1 by omega] at hc
      clear hc0 e1
      go_wp2
      go_round
      case rel => exact ⟨k + 1, by omega, by go_num⟩
      case measure => simp [intOf]; omega
    · go_wp2
      go_ret
      exact ⟨rfl, rfl⟩

set_option maxRecDepth 100000 in
set_option maxHeartbeats 4000000 in
theorem owned_any (pb gl capl N : Nat) (m : Nat → Nat) (ad : Nat → Option Addr) (gd : Nat → Nat) (w : World) (hbk : Book w pb 31 (.slice (some ⟨gl, 0, none⟩) N capl)) (hcl : N ≤ capl) (hgl : ∀ j, j < N → w.cell? ⟨gl, j, none⟩ = some (.slice (ad j) (m j) (m j))) (hgll : gl < w.heap.size)
    (hne : ¬ InN N m gd pb ∧ ¬ InN N m gd gl) (hinj : ∀ a b, a < N → b < N → 0 < m a → 0 < m b → gd a = gd b → a = b) (had : ∀ j, j < N → 0 < m j → ad j = some ⟨gd j, 0, none⟩) (hN0 : 0 < N) (hN : N ≤ 100) (hm8 : ∀ j, j < N → m j ≤ 1099511627776) (h3 : OwnN w N m gd 0 0) :
    Calls Try.prog 13 #[.pointer (some ⟨pb, 0, none⟩)] w fun e w' => e = .returned (.bool true) ∧ Kp (InN N m gd) w w' := by
  obtain ⟨i0, hi, hz0, hz1, hz2⟩ := info_parts Try.infoL
  have HI := hide hi
  have HZ0 := hide hz0
  have HZ1 := hide hz1
  have HZ2 := hide hz2
  clear hi hz0 hz1 hz2
  obtain ⟨i5, hi, hz0, hz1, hz2⟩ := info_parts Try.info5
  have HJ := hide hi
  have HY0 := hide hz0
  have HY1 := hide hz1
  have HY2 := hide hz2
  clear hi hz0 hz1 hz2
  have hpbl : pb < w.heap.size := (Array.getElem?_eq_some_iff.1 hbk).1
  have HC : Hid (∀ w', Kp (InN N m gd) w w' → w'.cell? ⟨pb, 0, none⟩ = some (.slice (some ⟨gl, 0, none⟩) N capl) ∧ ∀ j, j < N → w'.cell? ⟨gl, j, none⟩ = some (.slice (ad j) (m j) (m j))) := fun w' hk =>
    ⟨(hk.cell hpbl hne.1).trans (cell_of_blk hbk).1, fun j hj => (hk.cell hgll hne.2).trans (hgl j hj)⟩
  have HINJ := hide hinj
  have HAD := hide had
  have H3 := hide h3
  have HM8 := hide hm8
  clear hbk hgl hne hinj had h3 hm8
  go_enter Try.func13, Try.ntmps13
  go_wp2
  go_loopw [3] (fun i w1 => ∃ a : Nat, a ≤ N ∧ i = .int .i64 a ∧ Hid (OwnN w1 N m gd a 0) ∧ Hid (Kp (InN N m gd) w w1)) (fun i _ => N - (intOf i).toNat)
  case atStart => exact ⟨0, Nat.zero_le _, rfl, H3, hide (Kp.refl _ _)⟩
  case round =>
    rename World => w1
    obtain ⟨a, ha, rfl, HO1, HK1⟩ := hrel
    by_cases ha3 : a < N
    · obtain ⟨hc, hgc⟩ := HC.out _ HK1.out
      have hg := hgc a ha3
      have HA : Hid (0 < m a → ad a = some ⟨gd a, 0, none⟩) := fun h => HAD.out a ha3 h
      have hma := HM8.out a ha3
      clear hgc
      obtain ⟨M, hM⟩ : ∃ M, M = m a := ⟨_, rfl⟩
      have HM := hide hM
      rw [← hM] at hg hma
      clear hM
      go_wp2
      go_loopw [4] (fun k w2 => ∃ q : Nat, q ≤ M ∧ k = .int .i64 q ∧ Hid (OwnN w2 N m gd a q) ∧ Hid (Kp (InN N m gd) w w2)) (fun k _ => M - (intOf k).toNat)
      case atStart => exact ⟨0, Nat.zero_le _, rfl, HO1, HK1⟩
      case round =>
        rename World => w2
        obtain ⟨q, hq, rfl, HO2, HK2⟩ := hrel
        obtain ⟨hc, hgc⟩ := HC.out _ HK2.out
        have hg := hgc a ha3
        rw [← HM.out] at hg
        clear hgc
        by_cases hqm : q < M
        · have HQ : Hid (q < m a) := by show _ < _; rw [← HM.out]; exact hqm
          rw [HA.out (by have := HQ.out; omega)] at hg
          obtain ⟨⟨old, hco⟩, hfo⟩ := HO2.out.cell ha3 HQ.out
          have hqm' : (q : Int) < (M : Int) := by omega
          go_wp2
          go_roundw
          case rel => exact ⟨q + 1, by omega, by go_num, hide (HO2.out.set HINJ.out ha3 HQ.out (by simp [byteV])), hide (HK2.out.setCell ⟨a, ha3, by have := HQ.out; omega, rfl⟩ _)⟩
          case measure => simp [intOf]; omega
        · have HQ : Hid (q = m a) := by show _ = _; rw [← HM.out]; omega
          have HO2' : Hid (OwnN w2 N m gd a (m a)) := by
            have := HO2.out
            rwa [HQ.out] at this
          go_wp2
          go_roundw
          case rel => exact ⟨a + 1, by omega, by go_num, hide HO2'.out.next, HK2⟩
          case measure => simp [intOf]; omega
    · have HA3 : Hid (a = N) := hide (by omega)
      have HO1 : Hid (OwnN w1 N m gd N 0) := by
        have := HO1.out
        rwa [HA3.out] at this
      obtain ⟨hc, hgc⟩ := HC.out _ HK1.out
      have HGC := hide hgc
      have hplt : pb < w1.heap.size := Nat.lt_of_lt_of_le hpbl HK1.out.2.2.2.1
      have hglt : gl < w1.heap.size := Nat.lt_of_lt_of_le hgll HK1.out.2.2.2.1
      clear hgc HC
      have hdec : decide ((a : Int) < (N : Int)) = false := by simp; omega
      go_wp2
      try simp only [hdec]
      clear hdec
      go_loopw [5, 6] (fun gr i w3 => ∃ a : Nat, ∃ els, a ≤ N ∧ i = .int .i64 a ∧ Hid (w3.ownsRow w1.heap.size 22 1 gr (24 * a) els) ∧ Hid (Snap w3 w1.heap.size els none 0 0) ∧ Hid (Below w1.heap.size w1 w3)) (fun _ i _ => N - (intOf i).toNat)
      case atStart => exact ⟨0, [], Nat.zero_le _, rfl, hide (World.ownsRow_nil _ _ _ _), hide (Snap.nil _ _ _ _ _), hide (Below.refl _ _)⟩
      case round =>
        rename World => w3
        obtain ⟨a, els, ha, rfl, HG3, HS3, HB3⟩ := hrel
        by_cases ha3 : a < N
        · have hc3 := (HB3.out.cell (p := ⟨pb, 0, none⟩) hplt).trans hc
          have hg3 := (HB3.out.cell (p := ⟨gl, a, none⟩) hglt).trans (HGC.out a ha3)
          have HA : Hid (0 < m a → ad a = some ⟨gd a, 0, none⟩) := fun h => HAD.out a ha3 h
          have hma := HM8.out a ha3
          obtain ⟨M, hM⟩ : ∃ M, M = m a := ⟨_, rfl⟩
          obtain ⟨A, hA⟩ : ∃ A, A = ad a := ⟨_, rfl⟩
          have HM := hide hM
          have HAA := hide hA
          rw [← hM, ← hA] at hg3
          rw [← hM] at hma
          clear hM hA
          have hdec2 : decide ((a : Int) < (N : Int)) = true := by simp; omega
          go_wp2
          try simp only [hdec2]
          clear hdec2
          go_loopw [5, 7, 8] (fun gr l k w4 => ∃ q L N1 : Nat, ∃ els, q ≤ 24 ∧ Hid (L = M + q) ∧ Hid (N1 = 24 * a + q) ∧ k = .int .i64 q ∧ Hid (w4.ownsRow w1.heap.size 22 1 gr N1 els) ∧ Hid (Below w1.heap.size w1 w4) ∧ ((q = 0 ∧ l = .slice A M M ∧ Hid (Snap w4 w1.heap.size els none 0 0)) ∨ (0 < q ∧ Hid (w4.ownsRow w1.heap.size 5 1 l L (List.replicate L (byteV (a + 1)))) ∧ Hid (Snap w4 w1.heap.size els l.ownBlock L (a + 1))))) (fun _ _ k _ => 24 - (intOf k).toNat)
          case atStart => exact ⟨0, M, 24 * a, els, Nat.zero_le _, hide rfl, hide rfl, rfl, HG3, HB3, .inl ⟨rfl, rfl, HS3⟩⟩
          case round =>
            rename World => w4
            obtain ⟨q, L, N1, els, hq, HL, HN', rfl, HG4, HB4, hor⟩ := hrel
            by_cases hq20 : q < 24
            · have HN5 : Hid (N1 / 24 + 1 = a + 1) := by have := HN'.out; show _ = _; omega
              have hN1 : N1 ≤ 2400 := by have := HN'.out; omega
              rcases hor with ⟨rfl, rfl, HS4⟩ | ⟨hq0, HL4, HS4⟩
              · have HNN : Hid (A = none → M = 0 ∧ M = 0) := fun h => by
                  by_cases h0 : 0 < M
                  · have h1 := HAA.out
                    rw [HA.out (by rw [← HM.out]; exact h0)] at h1
                    rw [h1] at h
                    cases h
                  · omega
                have HLN : Hid ((List.replicate M (byteV (a + 1))).length = M * 1) := by show _ = _; simp
                have HCL : Hid (∀ b, A = some b → ∀ j u, (List.replicate M (byteV (a + 1)))[j]? = some u → (w4.alloc (.cells #[byteV (a + 1)] 5)).cell? (b.add j) = some u) := by
                  have h := cells_old (o := .cells #[byteV (a + 1)] 5) HO1.out ha3 HA.out HB4.out
                  rw [← HM.out, ← HAA.out] at h
                  exact h
                have HNW : Hid (∀ j u, ([byteV (a + 1)] : List Value)[j]? = some u → (w4.alloc (.cells #[byteV (a + 1)] 5)).cell? ((⟨w4.heap.size, 0, none⟩ : Addr).add j) = some u) := fun j u hj => by
                  cases j with
                  | zero => simp at hj; subst hj; exact cell_new1 _ _ _
                  | succ j => simp at hj
                have HON : Hid (∀ u ∈ ([byteV (a + 1)] : List Value), u.oneCell' = true) := fun u hu => by simp at hu; subst hu; rfl
                go_wp2_with (first
                | (at_builtin; refine wpList_append_grows _ rfl (.tmp 66) (.tmp 70) 22 rfl 5 i5 (.int .u8 0) 1 1 Try.underlying22 HJ.out HY0.out HY1.out HY2.out rfl (by decide) A M M (List.replicate M (byteV (a + 1))) rfl HNN.out HLN.out HCL.out ⟨w4.heap.size, 0, none⟩ 1 1 [byteV (a + 1)] rfl rfl HNW.out HON.out (by omega) (by unfold maxLen; omega) (by omega) ?_; intro v' w5 r1 r2; obtain ⟨g, cg, rfl, hbg, hl5, hg5, hs5, hb5⟩ := step_0 HG4.out HS4.out HB4.out (Nat.le_refl _) r1 r2; have HL5 := hide hl5; have HG5 := hide hg5; have HS5 := hide hs5; have HB5 := hide hb5; clear r1 r2 hl5 hg5 hs5 hb5)
                | (at_builtin; refine wpList_append_new _ rfl (.tmp 72) (.tmp 74) 29 rfl w1.heap.size 22 i0 (.slice none 0 0) 24 Try.underlying29 HI.out HZ0.out HZ1.out HZ2.out rfl _ N1 _ rfl (HG5.out.alloc _) ⟨w5.heap.size, 0, none⟩ 1 (.slice (some ⟨g, 0, none⟩) (M + 1) cg) rfl (cell_new1 _ _ _) rfl (by unfold maxLen; omega) (by omega) (by have := HB5.out.size; simp; omega) ?_; intro gr' w6 r1 r2 r3; have HG6 := hide r1; have HS6 := hide (step_g HL5.out HG5.out HS5.out HB5.out (Nat.le_refl _) hbg (by omega) HN5.out r2); clear r1 r2 r3))
                go_roundw
                case rel => first | exact ⟨_, _, .int .i64 1, ⟨1, by omega, M + 1, hide rfl, N1 + 1, by have := HN'.out; show _ = _; omega, rfl, _, HG6, hide HS6.out.2.2, .inr ⟨by omega, hide HS6.out.1, hide HS6.out.2.1⟩⟩, rfl, rfl, rfl⟩ | exact ⟨1, M + 1, N1 + 1, _, by omega, hide rfl, by have := HN'.out; show _ = _; omega, rfl, HG6, hide HS6.out.2.2, .inr ⟨by omega, hide HS6.out.1, hide HS6.out.2.1⟩⟩
                case measure => simp [intOf]
              · have hL0 : 0 < L := by have := HL.out; omega
                have hLb : L ≤ 1099511627800 := by have := HL.out; omega
                obtain ⟨g4, c4, rfl, hbg4, hlt4⟩ := own_shape HL4.out hL0
                go_wp2_with (first
                | (at_builtin; refine wpList_append_two _ rfl (.tmp 66) (.tmp 70) 22 rfl w1.heap.size 5 i5 (.int .u8 0) 1 Try.underlying22 HJ.out HY0.out HY1.out HY2.out rfl _ L _ rfl (HL4.out.alloc _) ⟨w4.heap.size, 0, none⟩ 1 (byteV (a + 1)) rfl (cell_new1 _ _ _) rfl (by unfold maxLen; omega) (by omega) (by have := HB4.out.size; simp; omega) ?_; intro v' w5 r1 r2; obtain ⟨g, cg, rfl, hbg, hl5, hg5, hs5, hb5⟩ := step_l HL4.out HG4.out HS4.out HB4.out (Nat.le_refl _) r1 r2; have HL5 := hide hl5; have HG5 := hide hg5; have HS5 := hide hs5; have HB5 := hide hb5; clear r1 r2 hl5 hg5 hs5 hb5)
                | (at_builtin; refine wpList_append_new _ rfl (.tmp 72) (.tmp 74) 29 rfl w1.heap.size 22 i0 (.slice none 0 0) 24 Try.underlying29 HI.out HZ0.out HZ1.out HZ2.out rfl _ N1 _ rfl (HG5.out.alloc _) ⟨w5.heap.size, 0, none⟩ 1 (.slice (some ⟨g, 0, none⟩) (L + 1) cg) rfl (cell_new1 _ _ _) rfl (by unfold maxLen; omega) (by omega) (by have := HB5.out.size; simp; omega) ?_; intro gr' w6 r1 r2 r3; have HG6 := hide r1; have HS6 := hide (step_g HL5.out HG5.out HS5.out HB5.out (Nat.le_refl _) hbg (by omega) HN5.out r2); clear r1 r2 r3))
                go_roundw
                case rel => first | exact ⟨_, _, .int .i64 ((q : Int) + 1), ⟨q + 1, by omega, L + 1, by have := HL.out; show _ = _; omega, N1 + 1, by have := HN'.out; show _ = _; omega, by go_num, _, HG6, hide HS6.out.2.2, .inr ⟨by omega, hide HS6.out.1, hide HS6.out.2.1⟩⟩, rfl, rfl, rfl⟩ | exact ⟨q + 1, L + 1, N1 + 1, _, by omega, by have := HL.out; show _ = _; omega, by have := HN'.out; show _ = _; omega, by go_num, HG6, hide HS6.out.2.2, .inr ⟨by omega, hide HS6.out.1, hide HS6.out.2.1⟩⟩
                case measure => simp [intOf]; omega
            · have HS5 : Hid (Snap w4 w1.heap.size els none 0 0) := by
                rcases hor with ⟨_, _, h⟩ | ⟨_, _, h⟩
                · exact h
                · exact h.out.low (fun g e => by cases e)
              have HG5 : Hid (w4.ownsRow w1.heap.size 22 1 u5 (24 * (a + 1)) els) := by
                have := HG4.out
                rw [show N1 = 24 * (a + 1) by have := HN'.out; omega] at this
                exact this
              clear hor
              go_wp2
              go_roundw
              case rel => exact ⟨a + 1, els, by omega, by go_num, HG5, HS5, HB4⟩
              case measure => simp [intOf]; omega
        · have HA3b : Hid (a = N) := hide (by omega)
          have HG3 : Hid (w3.ownsRow w1.heap.size 22 1 u5 (24 * N) els) := by
            have := HG3.out
            rw [HA3b.out] at this
            exact this
          obtain ⟨gg, cgg, rfl, hbgg, hggl⟩ := own_shape HG3.out (by omega)
          have hc3 := (HB3.out.cell (p := ⟨pb, 0, none⟩) hplt).trans hc
          have HL3 : Hid (∀ j, j < N → w3.cell? ⟨gl, j, none⟩ = some (.slice (ad j) (m j) (m j)) ∧ Rd w3 (ad j) (m j) (List.replicate (m j) (j + 1))) := fun j hj => by
            refine ⟨(HB3.out.cell (p := ⟨gl, j, none⟩) hglt).trans (HGC.out j hj), ?_⟩
            by_cases h0 : 0 < m j
            · rw [HAD.out j hj h0]
              exact ((HO1.out.blk hj h0).rd (by omega)).below HB3.out
            · exact ⟨by simp, fun c hc => by rw [show m j = 0 by omega] at hc; simp at hc, fun h => by omega⟩
          have HE3 : Hid (∀ j, j < 24 * N → ∃ gx mm c, w3.cell? ⟨gg, j, none⟩ = some (.slice (some ⟨gx, 0, none⟩) mm c) ∧ mm ≤ 281474976710656 ∧ Rd w3 (some ⟨gx, 0, none⟩) mm (List.replicate mm (j / 24 + 1))) := fun j hj => by
            have hlen : els.length = 24 * N := by have := HG3.out.1; simpa using this
            have hcell := HG3.out.cellAt j (by omega)
            rw [List.getElem?_eq_getElem (by omega)] at hcell
            obtain ⟨gx, mm, c, e1, e2, e3, e4, e5⟩ := HS3.out j _ (List.getElem?_eq_getElem (by omega))
            rw [e1] at hcell
            exact ⟨gx, mm, c, hcell, e3, e4.rd (by omega)⟩
          have HFIN : Hid (Kp (InN N m gd) w w3) := HK1.out.below HB3.out
          clear hc HGC HG3 HS3 HO1 HAD HINJ H3
          go_wp2
          go_loop [9] (fun i => ∃ j : Nat, j ≤ N ∧ i = .int .i64 j) (fun i => N - (intOf i).toNat)
          case atStart => exact ⟨0, Nat.zero_le _, rfl⟩
          case round =>
            obtain ⟨j, hj, rfl⟩ := hrel
            by_cases hj3 : j < N
            · obtain ⟨hcA, hrA⟩ := HL3.out j hj3
              have HR := hide hrA
              have hmj := HM8.out j hj3
              clear hrA
              generalize m j = M at *
              generalize ad j = A at *
              go_wp2_with (go_at_call 24; refine (filled_eq A M M j w3 HR.out (by omega) (by omega)).mono ?_; rintro e w' ⟨rfl, rfl⟩)
              go_round
              case rel => exact ⟨j + 1, by omega, by go_num⟩
              case measure => simp [intOf]; omega
            · go_wp2
              go_loop [11] (fun i => ∃ j : Nat, j ≤ 24 * N ∧ i = .int .i64 j) (fun i => 24 * N - (intOf i).toNat)
              case atStart => exact ⟨0, Nat.zero_le _, rfl⟩
              case round =>
                obtain ⟨j, hj, rfl⟩ := hrel
                by_cases hj15 : j < 24 * N
                · obtain ⟨gx, mm, c, hcx, hmm, hrx⟩ := HE3.out j hj15
                  have HR := hide hrx
                  have hd5 : (j : Int) / 24 = ((j / 24 : Nat) : Int) := by omega
                  have hx5 : j / 24 ≤ 200 := by omega
                  clear hrx
                  generalize j / 24 = x at *
                  have hj15' : (j : Int) < 24 * (N : Int) := by omega
                  go_wp2_with (go_at_call 24; refine (filled_eq (some ⟨gx, 0, none⟩) mm c x w3 HR.out (by omega) (by omega)).mono ?_; rintro e w' ⟨rfl, rfl⟩)
                  go_round
                  case rel => exact ⟨j + 1, by omega, by go_num⟩
                  case measure => simp [intOf]; omega
                · go_wp2
                  go_ret
                  exact ⟨rfl, HFIN.out⟩
end Go.Proofs.Ytboacpneoblklaa
