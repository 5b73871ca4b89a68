import Derived.Test.YtdcoafpenkofoaaGreatDoorJMetM9
import Derived.Test.YtdcoafpenkofoaaGreatDoorJLogM9

/- Stage 20: records that are none; refuses. -/
namespace Go.Proofs.YtdcoafpenkofoaaGreatDoor
open Go.RowKit Go.Maps Go.MuLone
set_option linter.unusedVariables false
set_option linter.unusedSimpArgs false
def badR (r : List Nat) : Bool := decide (r.length < 1) || decide (1049600 < r.length)
theorem isNone_any (x : Option Addr) (n c : Nat) (w : World) : Calls Tryz.prog 107 #[.slice x n c] w fun e w' => e = .returned (.bool (decide (n < 1) || decide (1049600 < n))) ∧ w' = w := by
  by_cases h1 : n < 1
  · go_enter Tryz.func107, Tryz.ntmps107
    go_wp2
    go_ret
    exact ⟨by simp [h1], rfl⟩
  · by_cases h2 : 1049600 < n
    · go_enter Tryz.func107, Tryz.ntmps107
      go_wp2
      go_ret
      exact ⟨by simp [h1, h2]; omega, rfl⟩
    · go_enter Tryz.func107, Tryz.ntmps107
      go_wp2
      go_ret
      exact ⟨by simp [h1, h2]; omega, rfl⟩
set_option maxHeartbeats 1000000 in
theorem idxR_any (a : Option Addr) (cap : Nat) (L : List (List Nat)) (w : World) (hR : RdB w a L) (hL : L.length ≤ 140737488355328) :
    Calls Tryz.prog 141 #[.slice a L.length cap, .func (.func 107) #[] #[]] w fun e w' => (∃ i : Int, e = .returned (.int .i64 i) ∧ Hid (0 ≤ i ↔ L.any badR = true)) ∧ w' = w := by
  have HR := hide hR
  clear hR
  go_enter Tryz.func141, Tryz.ntmps141
  go_wp2
  go_loop [8] (fun i => ∃ k : Nat, k ≤ L.length ∧ i = .int .i64 (k : Int) ∧ Hid ((L.take k).any badR = false)) (fun i => L.length - (intOf i).toNat)
  case atStart => exact ⟨0, Nat.zero_le _, rfl, by simp [Hid]⟩
  case round =>
    obtain ⟨k, hk, rfl, HA⟩ := hrel
    by_cases hkn : k < L.length
    · obtain ⟨b, off, rfl, hbl, hc⟩ := HR.out (by omega)
      obtain ⟨x, c, hcell, hrb⟩ := hc k hkn
      have HT : Hid ((L.take (k + 1)).any badR = ((L.take k).any badR || badR L[k])) := by
        show _ = _
        rw [List.take_succ_eq_append_getElem hkn, List.any_append]
        simp
      have HM : Hid (badR L[k] = true → L.any badR = true) := fun h => List.any_eq_true.2 ⟨_, List.getElem_mem hkn, h⟩
      have HB : Hid (badR L[k] = (decide (L[k].length < 1) || decide (1049600 < L[k].length))) := rfl
      generalize L[k].length = m at *
      have hki : (k : Int) < (L.length : Int) := by omega
      clear hc hrb
      have HN := hide (isNone_any x m c w)
      cases hb : (decide (m < 1) || decide (1049600 < m))
      · rw [hb] at HN HB
        clear hb
        go_wp2_with (go_at_call 107; refine HN.out.mono ?_; rintro e w' ⟨rfl, rfl⟩)
        go_round
        case rel => exact ⟨k + 1, by omega, by go_num, by show _ = _; rw [HT.out, HA.out, HB.out]; rfl⟩
        case measure => simp [intOf]; omega
      · rw [hb] at HN HB
        clear hb
        go_wp2_with (go_at_call 107; refine HN.out.mono ?_; rintro e w' ⟨rfl, rfl⟩)
        go_ret
        exact ⟨⟨_, rfl, ⟨fun _ => HM.out HB.out, fun _ => by omega⟩⟩, rfl⟩
    · have hkn' : k = L.length := by omega
      subst hkn'
      have HA' : Hid (L.any badR = false) := by have := HA.out; rwa [List.take_length] at this
      clear HA
      go_wp2
      go_ret
      refine ⟨⟨-1, rfl, ?_⟩, rfl⟩
      show ((0 : Int) ≤ -1 ↔ ∃ x, x ∈ L ∧ badR x = true)
      refine ⟨fun h => by omega, fun h => ?_⟩
      have h2 := List.any_eq_true.2 h
      rw [HA'.out] at h2
      cases h2
theorem contR_any (a : Option Addr) (cap : Nat) (L : List (List Nat)) (w : World) (hR : RdB w a L) (hL : L.length ≤ 140737488355328) :
    Calls Tryz.prog 106 #[.slice a L.length cap, .func (.func 107) #[] #[]] w fun e w' => e = .returned (.bool (L.any badR)) ∧ w' = w := by
  have HI := hide (idxR_any a cap L w hR hL)
  clear hR
  go_enter Tryz.func106, Tryz.ntmps106
  go_wp2_with fail
  refine HI.out.mono ?_
  rintro e w' ⟨⟨i, rfl, HH⟩, rfl⟩
  clear HI
  go_wp2
  go_ret
  refine ⟨?_, rfl⟩
  congr 2
  cases hb : L.any badR
  · have : ¬ 0 ≤ i := fun h => by have := HH.out.1 h; rw [hb] at this; cases this
    simp [this]
  · have : 0 ≤ i := HH.out.2 hb
    simp [this]
def badL (M : List (List (List Nat))) : Bool := M.any fun L => L.any badR
def refN (M : List (List (List Nat))) : Int := if badL M then 200 else 0
set_option maxHeartbeats 2000000 in
theorem refuses_up (S : Nat → Prop) (w wi : World) (d j : Nat) (x : Dx) (F : List Fi) (sz : Int) (tl : Bool) (h : JS S w wi d j x F sz tl) (hd : x.down = false) (a : Option Addr) (cap : Nat) (M : List (List (List Nat))) (hR : ∀ W', Kp S wi W' → RdL W' a M) (hM : M.length ≤ 140737488355328) (hm : ∀ m ∈ M, m.length ≤ 140737488355328) :
    Calls Tryz.prog 68 #[.pointer (some ⟨j, 0, none⟩), .slice a M.length cap] wi fun e w' => e = .returned (.int .i64 (refN M)) ∧ ∃ S', (∀ q, S' q → S q ∨ wi.heap.size ≤ q) ∧ JS S' w w' d j x F sz tl ∧ Kp S wi w' := by
  obtain ⟨c0, _, _, _⟩ := h.cells
  have HU := hide (aw_up h.aw)
  rw [hd] at HU
  have HJ := hide h
  have HR := hide hR
  have HMM : Hid (∀ k (hk : k < M.length), M[k].length ≤ 140737488355328) := fun k hk => hm _ (List.getElem_mem hk)
  clear h hR hm
  go_enter Tryz.func68, Tryz.ntmps68
  go_wp2_with fail
  refine HU.out.mono ?_
  rintro e w1 ⟨rfl, hN⟩
  obtain ⟨S1, hS1, hJ1, hK1⟩ := HJ.out.nx hN
  obtain ⟨c1, _, _, _⟩ := hJ1.cells
  have HJ1 := hide (And.intro hS1 (And.intro hJ1 hK1))
  have HR1 := hide (HR.out w1 hK1)
  clear hS1 hJ1 hK1 hN
  go_wp2
  go_loop [30] (fun i => ∃ k : Nat, k ≤ M.length ∧ i = .int .i64 (k : Int) ∧ Hid (badL (M.take k) = false)) (fun i => M.length - (intOf i).toNat)
  case atStart => exact ⟨0, Nat.zero_le _, rfl, by simp [Hid, badL]⟩
  case round =>
    obtain ⟨k, hk, rfl, HA⟩ := hrel
    by_cases hkn : k < M.length
    · obtain ⟨b, off, rfl, hbl, hc⟩ := HR1.out (by omega)
      obtain ⟨y, c, hcell, hrb⟩ := hc k hkn
      have hcw := hcell
      have HC := hide (contR_any y c M[k] w1 hrb (HMM.out k hkn))
      have HT : Hid (badL (M.take (k + 1)) = (badL (M.take k) || M[k].any badR)) := by
        show _ = _
        unfold badL
        rw [List.take_succ_eq_append_getElem hkn, List.any_append]
        simp
      have HQ : Hid (M[k].any badR = true → badL M = true) := fun h => List.any_eq_true.2 ⟨_, List.getElem_mem hkn, h⟩
      obtain ⟨m, hm⟩ : ∃ m, M[k] = m := ⟨_, rfl⟩
      rw [hm] at hcw HC HT HQ
      have hki : (k : Int) < (M.length : Int) := by omega
      clear hc hcell hrb hm
      cases hb : m.any badR
      · rw [hb] at HC HT
        clear hb
        go_wp2_with (go_at_call 106; refine HC.out.mono ?_; rintro e w' ⟨rfl, rfl⟩)
        go_round
        case rel => exact ⟨k + 1, by omega, by go_num, by show _ = _; rw [HT.out, HA.out]; rfl⟩
        case measure => simp [intOf]; omega
      · rw [hb] at HC
        have HQ' : Hid (refN M = 200) := by show _ = _; unfold refN; rw [HQ.out hb]; rfl
        clear hb
        go_wp2_with (go_at_call 106; refine HC.out.mono ?_; rintro e w' ⟨rfl, rfl⟩)
        go_ret
        rw [HQ'.out]
        exact ⟨rfl, S1, HJ1.out⟩
    · have hkn' : k = M.length := by omega
      subst hkn'
      have HA' : Hid (badL M = false) := by have := HA.out; rwa [List.take_length] at this
      clear HA
      go_wp2
      go_ret
      have HQ' : Hid (refN M = 0) := by show _ = _; unfold refN; rw [HA'.out]; rfl
      rw [HQ'.out]
      exact ⟨rfl, S1, HJ1.out⟩
end Go.Proofs.YtdcoafpenkofoaaGreatDoor


/- Stage 20: Add. -/
namespace Go.Proofs.YtdcoafpenkofoaaGreatDoor
open Go.RowKit Go.Maps Go.MuLone
set_option linter.unusedVariables false
set_option linter.unusedSimpArgs false
section
variable {S : Nat → Prop} {w wi w' : World} {d j : Nat} {x x' : Dx} {F F' : List Fi} {sz : Int} {tl : Bool}
theorem cut_no (h : JS S w wi d j x F sz false) : Calls Tryz.prog 108 #[.pointer (some ⟨j, 0, none⟩)] wi fun e w' => e = .returned .nilIface ∧ wi = w' := by
  obtain ⟨_, _, c2, _⟩ := h.cells
  clear h
  go_enter Tryz.func108, Tryz.ntmps108
  go_wp2
  go_ret
  exact ⟨rfl, rfl⟩
theorem answer_ok (n : Int) (hn : n ≠ 3) (hT : Er wi) : Calls Tryz.prog 69 #[.pointer (some ⟨j, 0, none⟩), amV n] wi fun e w' => e = .returned (.int .i64 n) ∧ Below wi.heap.size wi w' := by
  have HE := hide (errnoOf_any n wi hT)
  have h3 : (n == 3) = false := beq_eq_false_iff_ne.2 hn
  obtain ⟨v, hv⟩ : ∃ v, amV n = v := ⟨_, rfl⟩
  rw [hv] at HE ⊢
  clear hv hT hn
  go_enter Tryz.func69, Tryz.ntmps69
  go_wp2_with (go_at_call 56; refine HE.out.mono ?_; rintro e w1 ⟨rfl, hb⟩)
  go_ret
  exact ⟨rfl, hb⟩
end
theorem logB_one (L : List (List Nat)) : logB [L] = batB L := by simp [logB]
theorem logN_one (L : List (List Nat)) : logN [L] = batN L := by simp [logN]
/-- one batch, in a row of one -/
theorem RdL.one {w : World} {a : Option Addr} {c : Nat} {L : List (List Nat)} {g : Nat} (hg : w.cell? ⟨g, 0, none⟩ = some (.slice a L.length c)) (h : RdB w a L) : RdL w (some ⟨g, 0, none⟩) [L] := fun _ =>
  ⟨g, 0, rfl, block_lt_of_cell hg, fun k hk => by
    have : k = 0 := by simp at hk; omega
    subst this
    exact ⟨a, c, hg, h⟩⟩
/-- add: the error's number, the disk behind it -/
def jAdd (x : Dx) (F : List Fi) (L : List (List Nat)) : Int × Dx × List Fi := if 16777216 < batN L then (190, x, F) else jWr x F kG (batB L)
def jSz (sz : Int) (x : Dx) (F : List Fi) (L : List (List Nat)) : Int := if (jAdd x F L).1 = 0 then sz + (batN L : Int) else sz
set_option maxHeartbeats 4000000 in
theorem add_any (S : Nat → Prop) (w wi : World) (d j : Nat) (x : Dx) (F : List Fi) (sz : Int) (h : JS S w wi d j x F sz false) (a : Option Addr) (cap : Nat) (L : List (List Nat)) (hR : RdB wi a L) (hL : L.length ≤ 4294967296) (hN : batN L ≤ 4611686018427387904) (hsz : 0 ≤ sz ∧ sz ≤ 4611686018427387904) (hn : F.length + 1 ≤ maxLen) :
    Calls Tryz.prog 70 #[.pointer (some ⟨j, 0, none⟩), .slice a L.length cap] wi fun e w' => e = .returned (amV (jAdd x F L).1) ∧ ∃ S', (∀ q, S' q → S q ∨ wi.heap.size ≤ q) ∧ JS S' w w' d j (jAdd x F L).2.1 (jAdd x F L).2.2 (jSz sz x F L) false ∧ Kp (fun k => S k ∨ k = j) wi w' := by
  obtain ⟨W1, hW1⟩ : ∃ W1, wi.alloc (.cells #[.slice a L.length cap] 29) = W1 := ⟨_, rfl⟩
  have hb1 : Below wi.heap.size wi W1 := by rw [← hW1]; exact bel1 (Below.refl _ _) (Nat.le_refl _) _
  have hg : W1.cell? ⟨wi.heap.size, 0, none⟩ = some (.slice a L.length cap) := by rw [← hW1]; exact cellOf (heap_new _ _) 0 _ rfl
  have HC := hide (cut_no h)
  have HL := hide (logOf_any (some ⟨wi.heap.size, 0, none⟩) 1 [L] W1 (RdL.one hg (hR.below hb1)) (by simp) (by simpa using hL) (by rw [logN_one]; exact hN))
  have hJ1 := h.below hb1
  have HJ := hide hJ1
  have HB1 := hide hb1
  have HW1 := hide hW1
  clear h hR hg hJ1 hb1 hW1
  go_enter Tryz.func70, Tryz.ntmps70
  go_wp2_with (go_at_call 108; refine HC.out.mono ?_; rintro e w' ⟨rfl, rfl⟩)
  rw [HW1.out]
  refine HL.out.mono ?_
  rintro e w2 ⟨hlo, hb2⟩
  have HB2 := hide hb2
  clear hb2
  rcases hlo with ⟨hbig, rfl⟩ | ⟨hbig, v, rfl, hv⟩
  · rw [logN_one] at hbig
    have HQ : Hid (jAdd x F L = (190, x, F)) := if_pos hbig
    have HZ : Hid (jSz sz x F L = sz) := by show _ = _; unfold jSz; rw [HQ.out]; exact if_neg (by show ¬ (190 : Int) = 0; decide)
    have HA : Hid (amV 190 = .iface 82 (.int .i64 190)) := rfl
    unfold nB
    clear hbig
    go_wp2
    go_ret
    rw [HQ.out, HZ.out]
    refine ⟨rfl, S, fun q hq => .inl hq, HJ.out.below HB2.out, Kp.ofBelow (belOn HB1.out HB1.out.size HB2.out)⟩
  · rw [logN_one] at hbig
    rw [logB_one] at hv
    have hJ2 := HJ.out.below HB2.out
    have HWr := hide (write_any S w w2 d j x F sz false hJ2 kG v (batB L) hv.rb hn)
    obtain ⟨va, vc, rfl, _⟩ := hv.slice
    have HBL : Hid ((batB L).length = batN L) := batB_len L
    have HQ : Hid (jAdd x F L = jWr x F kG (batB L)) := if_neg (by omega)
    rw [HBL.out] at HWr ⊢
    clear hv hJ2
    go_wp2_with fail
    refine HWr.out.mono ?_
    rintro e w3 ⟨rfl, S3, hS3, hJ3, hK3⟩
    obtain ⟨_, c1, _, f1⟩ := hJ3.cells
    have f1' := f1 1
    have HJ3 := hide (And.intro hS3 (And.intro hJ3 hK3))
    have hw2 : wi.heap.size ≤ w2.heap.size := Nat.le_trans HB1.out.size HB2.out.size
    have hbw2 : Below wi.heap.size wi w2 := belOn HB1.out HB1.out.size HB2.out
    have HK : Hid (Kp (fun k => S k ∨ k = j) wi w3) := ((Kp.ofBelow hbw2).trans hK3).mono (fun k h => .inl h)
    have HS : Hid (∀ q, S3 q → S q ∨ wi.heap.size ≤ q) := fun q hq => (hS3 q hq).imp id (fun h => by omega)
    obtain ⟨n, hn0⟩ : ∃ n, (jWr x F kG (batB L)).1 = n := ⟨_, rfl⟩
    have HN0 := hide hn0
    rw [hn0]
    clear hS3 hJ3 hK3 hn0 f1 hw2 hbw2
    by_cases h0 : n = 0
    · subst h0
      have HA : Hid (amV 0 = .nilIface) := rfl
      have HZ : Hid (jSz sz x F L = sz + (batN L : Int)) := by show _ = _; unfold jSz; rw [HQ.out, HN0.out]; exact if_pos rfl
      have hwz : IntKind.i64.wrap (sz + (batN L : Int)) = sz + (batN L : Int) := by rw [IntKind.wrap_i64]; omega
      have HJS := hide (HJ3.out.2.1.setSize (sz + (batN L : Int)))
      rw [HA.out]
      go_wp2
      go_ret
      rw [HZ.out, HQ.out, HN0.out]
      exact ⟨rfl, S3, HS.out, HJS.out, HK.out.setCell (.inr rfl) _⟩
    · have HA : Hid (amV n = .iface 82 (.int .i64 n)) := if_neg h0
      have HZ : Hid (jSz sz x F L = sz) := by show _ = _; unfold jSz; rw [HQ.out, HN0.out]; exact if_neg h0
      rw [HA.out]
      clear h0
      go_wp2
      go_ret
      rw [HZ.out, HQ.out, HN0.out, HA.out]
      exact ⟨rfl, S3, HS.out, HJ3.out.2.1, HK.out⟩
set_option maxHeartbeats 4000000 in
/-- Add of good records, the power not failing -/
theorem Add_good (S : Nat → Prop) (w wi : World) (d j : Nat) (x : Dx) (F : List Fi) (sz : Int) (hT : Er w) (h : JS S w wi d j x F sz false) (hd : x.down = false) (a : Option Addr) (cap : Nat) (L : List (List Nat)) (hR : ∀ W', Kp S wi W' → RdB W' a L) (hb : L.any badR = false) (h0 : L ≠ []) (h3 : (jAdd x F L).1 ≠ 3) (hL : L.length ≤ 4294967296) (hN : batN L ≤ 4611686018427387904) (hsz : 0 ≤ sz ∧ sz ≤ 4611686018427387904) (hn : F.length + 1 ≤ maxLen) :
    Calls Tryz.prog 25 #[.pointer (some ⟨j, 0, none⟩), .slice a L.length cap] wi fun e w' => e = .returned (.int .i64 (jAdd x F L).1) ∧ ∃ S', (∀ q, S' q → S q ∨ wi.heap.size ≤ q) ∧ JS S' w w' d j (jAdd x F L).2.1 (jAdd x F L).2.2 (jSz sz x F L) false ∧ Kp (fun k => S k ∨ k = j) wi w' := by
  obtain ⟨W1, hW1⟩ : ∃ W1, wi.alloc (.cells #[.slice a L.length cap] 29) = W1 := ⟨_, rfl⟩
  have hb1 : Below wi.heap.size wi W1 := by rw [← hW1]; exact bel1 (Below.refl _ _) (Nat.le_refl _) _
  have hgb : W1.heap[wi.heap.size]? = some (.cells #[.slice a L.length cap] 29 (0, 0)) := by rw [← hW1]; exact heap_new _ _
  have hJ1 := h.below hb1
  have hSl : ¬ S wi.heap.size := fun hs => by have := (h.aw.at_ _ hs).2; omega
  have hlt1 : wi.heap.size < W1.heap.size := (Array.getElem?_eq_some_iff.1 hgb).1
  have HRF := hide (refuses_up S w W1 d j x F sz false hJ1 hd (some ⟨wi.heap.size, 0, none⟩) 1 [L] (fun W' hk => RdL.one (cellOf ((hk.block hlt1 hSl).trans hgb) 0 _ rfl) (hR W' ((Kp.ofBelow hb1).trans hk))) (by simp) (by intro m hm; simp only [List.mem_singleton] at hm; rw [hm]; omega))
  have hrf : refN [L] = 0 := by unfold refN badL; simp [hb]
  rw [hrf] at HRF
  have hlne : ((L.length : Int) == 0) = false := beq_eq_false_iff_ne.2 (by have := List.length_pos_iff.2 h0; omega)
  have HJ := hide hJ1
  have HB1 := hide hb1
  have HW1 := hide hW1
  have HR := hide hR
  have HT := hide hT
  have H3 := hide h3
  have hjl := h.lt
  have hat := h.aw.at_
  have hww := h.aw.bel.size
  clear h hgb hJ1 hb1 hW1 hrf hSl hR hb h0 h3 hlt1
  go_enter Tryz.func25, Tryz.ntmps25
  go_wp2_with fail
  rw [HW1.out]
  refine HRF.out.mono ?_
  rintro e w2 ⟨rfl, S2, hS2, hJ2, hK2⟩
  have hk02 : Kp S wi w2 := (Kp.ofBelow HB1.out).trans hK2
  have HA := hide (add_any S2 w w2 d j x F sz hJ2 a cap L (HR.out w2 hk02) hL hN hsz hn)
  have HK02 := hide hk02
  have HS2 : Hid (∀ q, S2 q → S q ∨ wi.heap.size ≤ q) := fun q hq => (hS2 q hq).imp id (fun h => Nat.le_trans HB1.out.size h)
  clear hS2 hJ2 hK2 hk02
  go_wp2_with fail
  refine HA.out.mono ?_
  rintro e w3 ⟨rfl, S3, hS3, hJ3, hK3⟩
  have HAN := hide (answer_ok (j := j) (wi := w3) _ H3.out (HT.out.below hJ3.aw.bel))
  have HJ3 := hide hJ3
  have HS3 : Hid (∀ q, S3 q → S q ∨ wi.heap.size ≤ q) := fun q hq => by
    rcases hS3 q hq with h | h
    · exact HS2.out q h
    · exact .inr (Nat.le_trans HK02.out.size h)
  have HK3 : Hid (Kp (fun k => S k ∨ k = j) wi w3) := (HK02.out.mono (fun k h => .inl h)).transN hK3 (fun k hk => by
    rcases hk with h | h
    · exact (HS2.out k h).imp (fun h => .inl h) id
    · exact .inl (.inr h))
  clear hS3 hJ3 hK3
  obtain ⟨v, hv⟩ : ∃ v, amV (jAdd x F L).1 = v := ⟨_, rfl⟩
  rw [hv] at HAN ⊢
  obtain ⟨n, hn9⟩ : ∃ n, (jAdd x F L).1 = n := ⟨_, rfl⟩
  have HN9 := hide hn9
  rw [hn9] at HAN
  clear hv hn9
  go_wp2_with fail
  refine HAN.out.mono ?_
  rintro e w4 ⟨rfl, hb4⟩
  have HJ4 := hide (HJ3.out.below hb4)
  have HK4 := hide (HK3.out.below hb4)
  clear hb4
  go_wp2
  go_ret
  rw [HN9.out]
  exact ⟨rfl, S3, HS3.out, HJ4.out, HK4.out⟩
end Go.Proofs.YtdcoafpenkofoaaGreatDoor
