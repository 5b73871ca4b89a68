/- The document's ReadHeader. -/
import Derived.Test.YtboacpneoblklaaFHead
namespace Go.Proofs.Ytboacpneoblklaa
open Go.RowKit Go.Deep
set_option linter.unusedVariables false
set_option linter.unusedSimpArgs false

theorem isB_take {p : Nat} {th : List Nat} {k : Nat} (h : (hdr p).take k = th.take k) (hk : th.length ≤ k) (h8 : k ≤ 8) : isB p th = true := by
  unfold isB
  rw [decide_eq_true_eq]
  have e : th.take th.length = th := List.take_of_length_le (Nat.le_refl _)
  have := congrArg (List.take th.length) h
  rw [List.take_take, List.take_take, Nat.min_eq_left hk, e] at this
  exact this
theorem isB_ne {p : Nat} {th : List Nat} {k : Nat} (hk : k < th.length) (h8 : th.length ≤ 8) (h : (hdr p).getD k 0 ≠ th.getD k 0) : isB p th = false := by
  unfold isB
  rw [decide_eq_false_iff_not]
  intro e
  apply h
  have h2 := congrArg (fun l => l.getD k 0) e
  simp only [List.getD_eq_getElem?_getD, List.getElem?_take, hk, if_true] at h2 ⊢
  exact h2
theorem take_step {a b : List Nat} {k : Nat} (h : a.take k = b.take k) (ha : k < a.length) (hb : k < b.length) (he : a.getD k 0 = b.getD k 0) : a.take (k + 1) = b.take (k + 1) := by
  rw [take_snocN a k ha, take_snocN b k hb, h, he]
theorem there_getD (l : List Nat) (i k : Nat) (h : k < 8) : (there l i).getD k 0 = l.getD (i + k) 0 := by
  unfold there
  simp [List.getD_eq_getElem?_getD, h]

set_option maxRecDepth 100000 in
set_option maxHeartbeats 2000000 in
theorem begins_any (a : Option Addr) (n cap i p : Nat) (l : List Nat) (w : World) (hr : Rd w a n l) (hi : i ≤ n) (hn : n ≤ 281474976710656) (hp : p < 256) :
    Calls Try.prog 30 #[.slice a n cap, .int .i64 (i : Int), .int .i64 (p : Int)] w fun e w' => e = .returned (.bool (isB p (there l i))) ∧ Below w.heap.size w w' := by
  have hthl : (there l i).length = min (n - i) 8 := there_length hr.1
  have HR := hide hr
  clear hr
  go_enter Try.func30, Try.ntmps30
  go_wp2_with (go_at_call 28; refine (headed_any p w hp).mono ?_; rintro e w1 ⟨rfl, h1, h2, h3⟩; have H1 := hide h1; have H3 := hide h3; clear h1 h3)
  go_loopw [8] (fun j wr => ∃ k : Nat, k ≤ (there l i).length ∧ j = .int .i64 k ∧ Hid ((hdr p).take k = (there l i).take k) ∧ ∃ nq, wr = w1.drewN nq) (fun j _ => 8 - (intOf j).toNat)
  case atStart => exact ⟨0, Nat.zero_le _, rfl, hide rfl, 0, rfl⟩
  case round =>
    obtain ⟨k, hk, rfl, HK, nq, rfl⟩ := hrel
    have HFB : Hid (∀ q, Below w.heap.size w (w1.drewN q)) := fun q => below_drewN H3.out q
    by_cases h8 : k < 8
    · by_cases hkn : i + k < n
      · obtain ⟨b, off, rfl, hlt, hc0⟩ := HR.out.2.2 (by omega)
        have g1 := (H3.out.cell (p := ⟨b, off + (i + k), none⟩) hlt).trans (hc0 (i + k) hkn)
        have g2 := H1.out.cell (show k < (hdr p).length from h8)
        have hkn' : (i : Int) + (k : Int) < (n : Int) := by omega
        have hthk : k < (there l i).length := by omega
        have HG := hide (there_getD l i k h8)
        have hb1 : l.getD (i + k) 0 < 256 := HR.out.lt _ hkn
        clear hc0
        by_cases heq : (hdr p).getD k 0 = l.getD (i + k) 0
        · have HS := hide (take_step HK.out (show k < (hdr p).length from h8) hthk (by rw [HG.out]; exact heq))
          rw [heq] at g2
          clear heq
          generalize l.getD (i + k) 0 = y at *
          go_wp2
          go_quiet (fail)
          go_wp2
          go_roundw
          case rel => exact ⟨k + 1, by omega, by go_num, HS, _, rfl⟩
          case measure => simp [intOf]; omega
        · have HF := hide (isB_ne (p := p) hthk (by omega) (by rw [HG.out]; exact heq))
          have hne : ((l.getD (i + k) 0 : Nat) : Int) ≠ (((hdr p).getD k 0 : Nat) : Int) := by omega
          clear heq
          generalize l.getD (i + k) 0 = y at *
          generalize (hdr p).getD k 0 = z at *
          have hne' : ((y : Int) != (z : Int)) = true := by simpa using hne
          clear hne
          go_wp2
          go_quiet (fail)
          go_wp2
          go_ret
          exact ⟨by rw [HF.out]; rfl, below_drewN (HFB.out _) _⟩
      · have HF := hide (isB_take (p := p) HK.out (by omega) (by omega))
        have hkn' : ¬ ((i : Int) + (k : Int) < (n : Int)) := by omega
        go_wp2
        go_ret
        exact ⟨by rw [HF.out]; rfl, HFB.out _⟩
    · have HF := hide (isB_take (p := p) HK.out (by omega) (by omega))
      go_wp2
      go_ret
      exact ⟨by rw [HF.out]; rfl, HFB.out _⟩

set_option maxRecDepth 100000 in
set_option maxHeartbeats 2000000 in
theorem refReadHeader_any (a : Option Addr) (n cap : Nat) (x : Int) (l : List Nat) (w : World) (hr : Rd w a n l) (hn : n ≤ 281474976710656) :
    Calls Try.prog 20 #[.slice a n cap, .int .i64 x] w fun e w' => e = .returned (trip (rdH l x)) ∧ Below w.heap.size w w' := by
  by_cases h0 : 0 ≤ x
  · obtain ⟨i, rfl⟩ := Int.eq_ofNat_of_zero_le h0
    by_cases hi : i ≤ n
    · have HS := hide (rdH_in l i (by rw [hr.1]; exact hi))
      have hthl : (there l i).length = min (n - i) 8 := there_length hr.1
      have HB0 := hide (begins_any a n cap i 0 l w hr hi hn (by omega))
      have HB3 := hide (fun w' (hb : Below w.heap.size w w') => begins_any a n cap i 3 l w' (hr.below hb) hi hn (by omega))
      clear hr
      generalize hT0 : isB 0 (there l i) = T0 at *
      generalize hT3 : isB 3 (there l i) = T3 at *
      clear hT0 hT3
      by_cases h8 : n - i < 8
      · have h8' : ((n : Int) - (i : Int) < 8) := by omega
        cases T0 <;> cases T3
        · have HV : Hid (rdH l (i : Int) = (0, 0, 50)) := by show _ = _; rw [HS.out, if_neg (by decide), if_neg (by decide)]
          clear HS
          go_enter Try.func20, Try.ntmps20
          go_wp2_with (first
            | (go_at_call 30; refine (HB3.out _ hb2).mono ?_; rintro e w3 ⟨rfl, hb3⟩; have HBB := hide (hb2.trans (hb3.mono hb2.size)))
            | (go_at_call 30; refine HB0.out.mono ?_; rintro e w2 ⟨rfl, hb2⟩))
          go_ret3
          refine ⟨?_, HBB.out⟩
          rw [HV.out]
          rfl
        · have HV : Hid (rdH l (i : Int) = (0, 0, 10)) := by show _ = _; rw [HS.out, if_neg (by decide), if_pos rfl, if_pos (by omega)]
          clear HS
          go_enter Try.func20, Try.ntmps20
          go_wp2_with (first
            | (go_at_call 30; refine (HB3.out _ hb2).mono ?_; rintro e w3 ⟨rfl, hb3⟩; have HBB := hide (hb2.trans (hb3.mono hb2.size)))
            | (go_at_call 30; refine HB0.out.mono ?_; rintro e w2 ⟨rfl, hb2⟩))
          go_ret3
          refine ⟨?_, HBB.out⟩
          rw [HV.out]
          rfl
        · have HV : Hid (rdH l (i : Int) = (0, 0, 10)) := by show _ = _; rw [HS.out, if_pos rfl, if_pos (by omega)]
          clear HS
          go_enter Try.func20, Try.ntmps20
          go_wp2_with (first
            | (go_at_call 30; refine (HB3.out _ hb2).mono ?_; rintro e w3 ⟨rfl, hb3⟩; have HBB := hide (hb2.trans (hb3.mono hb2.size)))
            | (go_at_call 30; refine HB0.out.mono ?_; rintro e w2 ⟨rfl, hb2⟩))
          go_ret3
          refine ⟨?_, HBB.out⟩
          rw [HV.out]
          rfl
        · have HV : Hid (rdH l (i : Int) = (0, 0, 10)) := by show _ = _; rw [HS.out, if_pos rfl, if_pos (by omega)]
          clear HS
          go_enter Try.func20, Try.ntmps20
          go_wp2_with (first
            | (go_at_call 30; refine (HB3.out _ hb2).mono ?_; rintro e w3 ⟨rfl, hb3⟩; have HBB := hide (hb2.trans (hb3.mono hb2.size)))
            | (go_at_call 30; refine HB0.out.mono ?_; rintro e w2 ⟨rfl, hb2⟩))
          go_ret3
          refine ⟨?_, HBB.out⟩
          rw [HV.out]
          rfl
      · have h8' : ¬ ((n : Int) - (i : Int) < 8) := by omega
        cases T0 <;> cases T3
        · have HV : Hid (rdH l (i : Int) = (0, 0, 50)) := by show _ = _; rw [HS.out, if_neg (by decide), if_neg (by decide)]
          clear HS
          go_enter Try.func20, Try.ntmps20
          go_wp2_with (first
            | (go_at_call 30; refine (HB3.out _ hb2).mono ?_; rintro e w3 ⟨rfl, hb3⟩; have HBB := hide (hb2.trans (hb3.mono hb2.size)))
            | (go_at_call 30; refine HB0.out.mono ?_; rintro e w2 ⟨rfl, hb2⟩))
          go_ret3
          refine ⟨?_, HBB.out⟩
          rw [HV.out]
          rfl
        · have HV : Hid (rdH l (i : Int) = (3, (i : Int) + 8, 0)) := by show _ = _; rw [HS.out, if_neg (by decide), if_pos rfl, if_neg (by omega)]
          clear HS
          go_enter Try.func20, Try.ntmps20
          go_wp2_with (first
            | (go_at_call 30; refine (HB3.out _ hb2).mono ?_; rintro e w3 ⟨rfl, hb3⟩; have HBB := hide (hb2.trans (hb3.mono hb2.size)))
            | (go_at_call 30; refine HB0.out.mono ?_; rintro e w2 ⟨rfl, hb2⟩))
          go_ret3
          refine ⟨?_, HBB.out⟩
          rw [HV.out]
          rfl
        · have HV : Hid (rdH l (i : Int) = (0, (i : Int) + 8, 0)) := by show _ = _; rw [HS.out, if_pos rfl, if_neg (by omega)]
          clear HS
          go_enter Try.func20, Try.ntmps20
          go_wp2_with (first
            | (go_at_call 30; refine (HB3.out _ hb2).mono ?_; rintro e w3 ⟨rfl, hb3⟩; have HBB := hide (hb2.trans (hb3.mono hb2.size)))
            | (go_at_call 30; refine HB0.out.mono ?_; rintro e w2 ⟨rfl, hb2⟩))
          go_ret3
          refine ⟨?_, HBB.out⟩
          rw [HV.out]
          rfl
        · have HV : Hid (rdH l (i : Int) = (0, (i : Int) + 8, 0)) := by show _ = _; rw [HS.out, if_pos rfl, if_neg (by omega)]
          clear HS
          go_enter Try.func20, Try.ntmps20
          go_wp2_with (first
            | (go_at_call 30; refine (HB3.out _ hb2).mono ?_; rintro e w3 ⟨rfl, hb3⟩; have HBB := hide (hb2.trans (hb3.mono hb2.size)))
            | (go_at_call 30; refine HB0.out.mono ?_; rintro e w2 ⟨rfl, hb2⟩))
          go_ret3
          refine ⟨?_, HBB.out⟩
          rw [HV.out]
          rfl
    · have HS : Hid (rdH l (i : Int) = (0, 0, 1)) := by show _ = _; unfold rdH; rw [if_pos (by rw [hr.1]; omega)]
      clear hr
      go_enter Try.func20, Try.ntmps20
      go_wp2
      go_ret3
      exact ⟨by rw [HS.out]; rfl, Below.refl _ _⟩
  · have HS : Hid (rdH l x = (0, 0, 1)) := by show _ = _; unfold rdH; rw [if_pos (by omega)]
    clear hr
    go_enter Try.func20, Try.ntmps20
    go_wp2
    go_ret3
    exact ⟨by rw [HS.out]; rfl, Below.refl _ _⟩
end Go.Proofs.Ytboacpneoblklaa
