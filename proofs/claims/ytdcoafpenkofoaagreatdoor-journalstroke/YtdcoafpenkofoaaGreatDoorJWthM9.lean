import Derived.Test.YtdcoafpenkofoaaGreatDoorJLogM9
import Derived.Test.YtdcoafpenkofoaaGreatDoorJAdcM9

/- Stage 20: how much batches weigh. -/
namespace Go.Proofs.YtdcoafpenkofoaaGreatDoor
open Go.RowKit
set_option linter.unusedVariables false
set_option linter.unusedSimpArgs false
def wgN (L : List (List Nat)) : Nat := (L.map fun r => 5 + r.length).sum
def wgA (M : List (List (List Nat))) : Nat := (M.map fun L => 13 + wgN L).sum
theorem wgN_take (L : List (List Nat)) {k : Nat} (hk : k < L.length) : wgN (L.take (k + 1)) = wgN (L.take k) + (5 + L[k].length) := by
  unfold wgN
  rw [List.take_succ_eq_append_getElem hk, List.map_append, List.sum_append]
  simp
theorem wgA_take (M : List (List (List Nat))) {k : Nat} (hk : k < M.length) : wgA (M.take (k + 1)) = wgA (M.take k) + (13 + wgN M[k]) := by
  unfold wgA
  rw [List.take_succ_eq_append_getElem hk, List.map_append, List.sum_append]
  simp
set_option maxHeartbeats 1000000 in
theorem weigh_any (n : Nat) (a : Option Addr) (cap : Nat) (L : List (List Nat)) (w : World) (hR : RdB w a L) (hn : n ≤ 562949953421312) (hL : L.length ≤ 140737488355328) (hr : ∀ r ∈ L, r.length ≤ 140737488355328) :
    Calls Tryz.prog 34 #[.int .i64 (n : Int), .slice a L.length cap] w fun e w' => (∃ s : Nat, e = .returned (.int .i64 (s : Int)) ∧ s ≤ 562949953421312 ∧ (s ≤ 2147483647 → s = n + wgN L)) ∧ w' = w := by
  have HR := hide hR
  have HL := hide hr
  clear hR hr
  go_enter Tryz.func34, Tryz.ntmps34
  go_wp2
  go_loop [0, 5] (fun nv i => ∃ k s : Nat, k ≤ L.length ∧ i = .int .i64 (k : Int) ∧ nv = .int .i64 (s : Int) ∧ Hid (s ≤ 562949953421312 ∧ (s ≤ 2147483647 → s = n + wgN (L.take k)))) (fun _ i => L.length - (intOf i).toNat)
  case atStart => exact ⟨0, n, Nat.zero_le _, rfl, rfl, hn, fun _ => rfl⟩
  case round =>
    obtain ⟨k, s, hk, rfl, rfl, HS⟩ := hrel
    by_cases hkn : k < L.length
    · by_cases hs : s ≤ 2147483647
      · obtain ⟨b, off, rfl, hbl, hc⟩ := HR.out (by omega)
        obtain ⟨x, c, hcell, hrb⟩ := hc k hkn
        have HT := hide (wgN_take L hkn)
        have hz := HL.out L[k] (List.getElem_mem hkn)
        generalize L[k].length = m at *
        have hki : (k : Int) < (L.length : Int) := by omega
        have hsi : (s : Int) ≤ 2147483647 := by omega
        clear hc hrb
        go_wp2
        go_round
        case rel => exact ⟨k + 1, s + 5 + m, by omega, by go_num, by go_num, by omega, fun _ => by rw [HT.out]; have := HS.out.2 hs; omega⟩
        case measure => simp [intOf]; omega
      · have hki : (k : Int) < (L.length : Int) := by omega
        have hsi : ¬ (s : Int) ≤ 2147483647 := by omega
        go_wp2
        go_ret
        exact ⟨⟨s, rfl, HS.out.1, fun h => absurd h hs⟩, rfl⟩
    · have hkn' : k = L.length := by omega
      subst hkn'
      have HS' := HS.out
      rw [List.take_length] at HS'
      go_wp2
      go_ret
      exact ⟨⟨s, rfl, HS'.1, HS'.2⟩, rfl⟩
set_option maxHeartbeats 1000000 in
theorem weighAll_any (n : Nat) (a : Option Addr) (cap : Nat) (M : List (List (List Nat))) (w : World) (hR : RdL w a M) (hn : n ≤ 562949953421312) (hL : M.length ≤ 140737488355328) (hr : ∀ m ∈ M, m.length ≤ 140737488355328 ∧ ∀ r ∈ m, r.length ≤ 140737488355328) :
    Calls Tryz.prog 33 #[.int .i64 (n : Int), .slice a M.length cap] w fun e w' => (∃ s : Nat, e = .returned (.int .i64 (s : Int)) ∧ s ≤ 562949953421312 ∧ (s ≤ 2147483647 → s = n + wgA M)) ∧ w' = w := by
  have HR := hide hR
  have HL := hide hr
  clear hR hr
  go_enter Tryz.func33, Tryz.ntmps33
  go_wp2
  go_loop [0, 5] (fun nv i => ∃ k s : Nat, k ≤ M.length ∧ i = .int .i64 (k : Int) ∧ nv = .int .i64 (s : Int) ∧ Hid (s ≤ 562949953421312 ∧ (s ≤ 2147483647 → s = n + wgA (M.take k)))) (fun _ i => M.length - (intOf i).toNat)
  case atStart => exact ⟨0, n, Nat.zero_le _, rfl, rfl, hn, fun _ => rfl⟩
  case round =>
    obtain ⟨k, s, hk, rfl, rfl, HS⟩ := hrel
    by_cases hkn : k < M.length
    · by_cases hs : s ≤ 2147483647
      · obtain ⟨b, off, rfl, hbl, hc⟩ := HR.out (by omega)
        obtain ⟨x, c, hcell, hrb⟩ := hc k hkn
        have HT := hide (wgA_take M hkn)
        have hz := HL.out M[k] (List.getElem_mem hkn)
        have HW := hide (weigh_any (s + 13) x c M[k] w hrb (by omega) hz.1 hz.2)
        rw [show ((s + 13 : Nat) : Int) = (s : Int) + 13 by omega] at HW
        generalize M[k].length = m at *
        have hki : (k : Int) < (M.length : Int) := by omega
        have hsi : (s : Int) ≤ 2147483647 := by omega
        have hw13 : IntKind.i64.wrap ((s : Int) + 13) = (s : Int) + 13 := by rw [IntKind.wrap_i64]; omega
        clear hc hrb hz
        go_wp2_with (go_at_call 34; refine HW.out.mono ?_; rintro e w' ⟨⟨s2, rfl, hs2, hs3⟩, rfl⟩)
        go_round
        case rel => exact ⟨k + 1, s2, by omega, by go_num, rfl, hs2, fun h => by rw [HT.out]; have := hs3 h; have := HS.out.2 hs; omega⟩
        case measure => simp [intOf]; omega
      · have hki : (k : Int) < (M.length : Int) := by omega
        have hsi : ¬ (s : Int) ≤ 2147483647 := by omega
        go_wp2
        go_ret
        exact ⟨⟨s, rfl, HS.out.1, fun h => absurd h hs⟩, rfl⟩
    · have hkn' : k = M.length := by omega
      subst hkn'
      have HS' := HS.out
      rw [List.take_length] at HS'
      go_wp2
      go_ret
      exact ⟨⟨s, rfl, HS'.1, HS'.2⟩, rfl⟩
end Go.Proofs.YtdcoafpenkofoaaGreatDoor


/- Stage 20: batches, and one more. -/
namespace Go.Proofs.YtdcoafpenkofoaaGreatDoor
open Go.RowKit
set_option linter.unusedVariables false
set_option linter.unusedSimpArgs false
set_option maxHeartbeats 2000000 in
theorem with_any (B : Nat) (a : Option Addr) (c : Nat) (Z : List Bq) (x : Bq) (b : Option Addr) (bc : Nat) (hx : x.2 = .slice b x.1.length bc) (w : World) (hw : Wy CK w B (.slice a Z.length c) Z) (hq : RdQ w Z) (hZ : Z.length ≤ 1000000000000) :
    Calls Tryz.prog 26 #[.slice a Z.length c, .slice b x.1.length bc] w fun e w' => ∃ v, e = .returned v ∧ Wy CK w' w.heap.size v (Z ++ if x.1 = [] then [] else [x]) ∧ Below w.heap.size w w' := by
  obtain ⟨a', c', e', hl, hr⟩ := hw.row1 (·.2) (fun o ho => by
    obtain ⟨x, k, e, _⟩ := hq o ho
    show [if o.2.oneCell' then o.2 else _] = _
    rw [e]
    rfl)
  simp only [Value.slice.injEq, true_and] at e'
  obtain ⟨rfl, rfl⟩ := e'
  have HR := hide hr
  have HQ := hide hq
  clear hr hq hw
  obtain ⟨X, xv⟩ := x
  obtain rfl : xv = .slice b X.length bc := hx
  obtain ⟨R, hRR⟩ : ∃ R, (if X = [] then [] else [((X, .slice b X.length bc) : Bq)]) = R := ⟨_, rfl⟩
  have HRR := hide hRR
  dsimp only
  rw [hRR]
  clear hRR
  go_enter Tryz.func26, Tryz.ntmps26
  go_wp2
  go_loopw [5, 6] (fun ov i wr => ∃ k : Nat, k ≤ Z.length ∧ i = .int .i64 (k : Int) ∧ Hid (Wy CK wr w.heap.size ov (Z.take k)) ∧ Below w.heap.size w wr) (fun _ i _ => Z.length - (intOf i).toNat)
  case atStart => exact ⟨0, Nat.zero_le _, rfl, .inl ⟨rfl, rfl⟩, Below.refl _ _⟩
  case round =>
    rename_i ov i wr
    obtain ⟨k, hk, rfl, HW, hb⟩ := hrel
    have HB := hide hb
    clear hb
    obtain ⟨va, vc, rfl⟩ := HW.out.shape
    have HTL : Hid ((Z.take k).length = k) := by show _ = _; rw [List.length_take]; omega
    by_cases hkn : k < Z.length
    · obtain ⟨g, off, rfl, hgl, hc⟩ := HR.out (by omega)
      have hcell := (HB.out.cell (p := ⟨g, off + k, none⟩) hgl).trans (hc k hkn)
      obtain ⟨y, d, hyd, hrb⟩ := HQ.out Z[k] (List.getElem_mem hkn)
      have HZT : Hid (Z.take (k + 1) = Z.take k ++ [Z[k]]) := List.take_succ_eq_append_getElem hkn
      have HYD := hide hyd
      rw [hyd] at hcell
      have HCE : Hid (CK.enc Z[k] = [.slice y Z[k].1.length d]) := by show [if Z[k].2.oneCell' then Z[k].2 else _] = _; rw [hyd]; rfl
      have hki : (k : Int) < (Z.length : Int) := by omega
      have HBA : Hid (w.heap.size ≤ wr.heap.size) := HB.out.size
      generalize Z[k] = z at *
      clear hc hrb hyd
      have HWA : Hid (Wy CK (wr.alloc (.cells #[.slice y z.1.length d] 29)) w.heap.size (.slice va (Z.take k).length vc) (Z.take k)) := HW.out.at fun q e => Below.heap_alloc _ _ _ (HW.out.lt e).2
      rw [HTL.out] at HWA ⊢
      go_wp2_with (at_builtin; go_loud (refine wpList_append_way ckOk _ rfl (.tmp 13) (.tmp 18) rfl w.heap.size (.slice va k vc) (Z.take k) z rfl HWA.out wr.heap.size 1 rfl (by rw [HCE.out]; exact heap_new _ _) (by simp; exact Nat.le_trans HBA.out (Nat.le_succ _)) (by rw [HTL.out]; show (k + 1) * 24 ≤ _; omega) ?_); intro v' w7 hw7 hg7 hs7; have HW7 := hide hw7; have HG7 := hide hg7; clear hw7 hg7 hs7)
      refine ⟨⟨k + 1, by omega, by go_num, ?_, ?_⟩, by simp [intOf]; omega⟩
      · rw [HZT.out]; exact HW7.out
      · exact (bel1 HB.out HBA.out _).grown HG7.out (Nat.le_trans HBA.out (by simp)) (fun q hq => by rw [← HTL.out] at hq; exact (HW.out.lt hq).1)
    · have hkn' : k = Z.length := by omega
      subst hkn'
      have HTA : Hid (Z.take Z.length = Z) := List.take_length
      have HBA : Hid (w.heap.size ≤ wr.heap.size) := HB.out.size
      rw [HTL.out]
      rw [HTL.out, HTA.out] at HW
      by_cases hx0 : X = []
      · subst hx0
        have HR0 : Hid (R = []) := by show _ = _; rw [← HRR.out]; rfl
        clear HRR
        dsimp only [List.length_nil]
        go_wp2
        go_ret
        exact ⟨_, rfl, by rw [HR0.out, List.append_nil]; exact HW.out, HB.out⟩
      · have HR1 : Hid (R = [(X, .slice b X.length bc)]) := by show _ = _; rw [← HRR.out, if_neg hx0]
        have hxl : 0 < (X.length : Int) := by have := List.length_pos_iff.2 hx0; omega
        have HCE : Hid (CK.enc (X, .slice b X.length bc) = [.slice b X.length bc]) := rfl
        have HWA : Hid (Wy CK (wr.alloc (.cells #[.slice b X.length bc] 29)) w.heap.size (.slice va Z.length vc) Z) := HW.out.at fun q e => Below.heap_alloc _ _ _ (HW.out.lt e).2
        clear HRR hx0
        go_wp2_with (at_builtin; go_loud (refine wpList_append_way ckOk _ rfl (.tmp 23) (.tmp 25) rfl w.heap.size (.slice va Z.length vc) Z (X, .slice b X.length bc) rfl HWA.out wr.heap.size 1 rfl (by rw [HCE.out]; exact heap_new _ _) (by simp; exact Nat.le_trans HBA.out (Nat.le_succ _)) (by show (Z.length + 1) * 24 ≤ _; omega) ?_); intro v' w7 hw7 hg7 hs7; have HW7 := hide hw7; have HG7 := hide hg7; clear hw7 hg7 hs7)
        go_ret
        exact ⟨_, rfl, by rw [HR1.out]; exact HW7.out, (bel1 HB.out HBA.out _).grown HG7.out (Nat.le_trans HBA.out (by simp)) (fun q hq => (HW.out.lt hq).1)⟩
end Go.Proofs.YtdcoafpenkofoaaGreatDoor
