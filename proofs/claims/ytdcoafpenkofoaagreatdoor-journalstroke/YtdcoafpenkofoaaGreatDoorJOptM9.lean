import Derived.Test.YtdcoafpenkofoaaGreatDoorJTakM9
import Derived.Test.YtdcoafpenkofoaaGreatDoorJIsM9
import Derived.Test.YtdcoafpenkofoaaGreatDoorJScanM9

/- Stage 20: replace. -/
namespace Go.Proofs.YtdcoafpenkofoaaGreatDoor
open Go.RowKit Go.Maps Go.MuLone
set_option linter.unusedVariables false
set_option linter.unusedSimpArgs false
theorem JS.setTail {S : Nat → Prop} {w wi : World} {d j : Nat} {x : Dx} {F : List Fi} {sz : Int} {tl : Bool} (h : JS S w wi d j x F sz tl) (b : Bool) : JS S w (wi.setCell ⟨j, 2, none⟩ (.bool b)) d j x F sz b := by
  refine ⟨h.aw.setC h.nj h.lo _, h.nj, h.lo, ?_⟩
  rw [blk_set h.blk]
  rfl
/-- replace: the error's number, the disk behind it -/
def jRp (x : Dx) (F : List Fi) (t : List Nat) : Int × Dx × List Fi :=
  if (jCl x F).1 ≠ 0 then jCl x F else if (jWr (jCl x F).2.1 (jCl x F).2.2 kN t).1 ≠ 0 then jWr (jCl x F).2.1 (jCl x F).2.2 kN t
  else dRen (jWr (jCl x F).2.1 (jCl x F).2.2 kN t).2.1 (jWr (jCl x F).2.1 (jCl x F).2.2 kN t).2.2 kN kG
def jTl (n : Int) (tl : Bool) : Bool := if n = 0 then false else tl
set_option maxHeartbeats 4000000 in
theorem replace_any (S : Nat → Prop) (w wi : World) (d j : Nat) (x : Dx) (F : List Fi) (sz : Int) (tl : Bool) (h : JS S w wi d j x F sz tl) (u : Value) (t : List Nat) (hr : ∀ W', Kp S wi W' → Rb W' u t) (h1 : (jCl x F).2.2.length + 1 ≤ maxLen) (h2 : (jWr (jCl x F).2.1 (jCl x F).2.2 kN t).2.2.length + 1 ≤ maxLen) :
    Calls Tryz.prog 90 #[.pointer (some ⟨j, 0, none⟩), u] wi fun e w' => e = .returned (amV (jRp x F t).1) ∧ ∃ S', (∀ q, S' q → S q ∨ wi.heap.size ≤ q) ∧ JS S' w w' d j (jRp x F t).2.1 (jRp x F t).2.2 sz (jTl (jRp x F t).1 tl) ∧ Kp (fun k => S k ∨ k = j) wi w' := by
  have HC := hide (clearNew_any S w wi d j x F sz tl h)
  obtain ⟨ua, uc, hu, _⟩ := hr wi (Kp.refl _ _)
  have HR := hide hr
  clear h hr
  rw [hu] at HR ⊢
  clear hu
  obtain ⟨C, hCq⟩ : ∃ C, jCl x F = C := ⟨_, rfl⟩
  obtain ⟨V, hVq⟩ : ∃ V, jWr (jCl x F).2.1 (jCl x F).2.2 kN t = V := ⟨_, rfl⟩
  have hP : jRp x F t = if C.1 ≠ 0 then C else if V.1 ≠ 0 then V else dRen V.2.1 V.2.2 kN kG := by unfold jRp; rw [hVq, hCq]
  rw [hVq] at h2
  rw [hCq] at HC h1 hVq
  have HP := hide hP
  have HV := hide hVq
  clear hP hCq hVq
  go_enter Tryz.func90, Tryz.ntmps90
  go_wp2_with fail
  refine HC.out.mono ?_
  rintro e w1 ⟨rfl, S1, hS1, hJ1, hK1⟩
  by_cases h0 : C.1 = 0
  · have HA : Hid (amV C.1 = .nilIface) := by show _ = _; rw [h0]; rfl
    have HW := hide (write_any S1 w w1 d j C.2.1 C.2.2 sz tl hJ1 kN _ t (HR.out w1 hK1) h1)
    rw [HV.out] at HW
    have HJ1 := hide (And.intro hS1 (And.intro hJ1 hK1))
    have H0 := hide h0
    rw [HA.out]
    clear hS1 hJ1 hK1 h0
    go_wp2_with fail
    refine HW.out.mono ?_
    rintro e w2 ⟨rfl, S2, hS2, hJ2, hK2⟩
    obtain ⟨c0, _, c2, f2⟩ := hJ2.cells
    have HK2 : Hid (Kp S wi w2) := HJ1.out.2.2.transN hK2 (fun k hk => HJ1.out.1 k hk)
    have HS2 : Hid (∀ q, S2 q → S q ∨ wi.heap.size ≤ q) := fun q hq => by
      rcases hS2 q hq with h | h
      · exact HJ1.out.1 q h
      · exact .inr (Nat.le_trans HJ1.out.2.2.size h)
    have HJ2 := hide hJ2
    by_cases h3 : V.1 = 0
    · have HAV : Hid (amV V.1 = .nilIface) := by show _ = _; rw [h3]; rfl
      have HRN := hide (aw_rename hJ2.aw kN kG h2)
      have HQ : Hid (jRp x F t = dRen V.2.1 V.2.2 kN kG) := by show _ = _; rw [HP.out, if_neg (by rw [H0.out]; simp), if_neg (by rw [h3]; simp)]
      rw [HAV.out]
      clear hS2 hJ2 hK2 h3
      go_wp2_with fail
      refine HRN.out.mono ?_
      rintro e w3 ⟨rfl, hN⟩
      obtain ⟨S3, hS3, hJ3, hK3⟩ := HJ2.out.nx hN
      obtain ⟨_, _, _, f3⟩ := hJ3.cells
      obtain ⟨_, _, b2, _⟩ := hJ3.cells
      have f32 := f3 2
      have HS3 : Hid (∀ q, S3 q → S q ∨ wi.heap.size ≤ q) := fun q hq => by
        rcases hS3 q hq with h | h
        · exact HS2.out q h
        · exact .inr (Nat.le_trans HK2.out.size h)
      have HK3 : Hid (Kp S wi w3) := HK2.out.transN hK3 (fun k hk => HS2.out k hk)
      have HJ3 := hide hJ3
      have HT3 := hide (hJ3.setTail false)
      clear hN hS3 hJ3 hK3 f3 f2
      obtain ⟨D, hD⟩ : ∃ D, dRen V.2.1 V.2.2 kN kG = D := ⟨_, rfl⟩
      have HD := hide hD
      rw [hD] at HJ3 HT3 ⊢
      clear hD
      by_cases h4 : D.1 = 0
      · have HZ : Hid (amV D.1 = .nilIface) := by show _ = _; rw [h4]; rfl
        have H4 := hide h4
        rw [h4]
        clear h4
        go_wp2
        go_ret
        rw [HQ.out, HD.out, HZ.out, show jTl D.1 tl = false from if_pos H4.out]
        exact ⟨rfl, S3, HS3.out, HT3.out, (HK3.out.mono (fun k h => .inl h)).setCell (.inr rfl) _⟩
      · have HZ : Hid (amV D.1 = .iface 82 (.int .i64 D.1)) := if_neg h4
        have H4 := hide h4
        go_wp2
        go_ret
        rw [HQ.out, HD.out, HZ.out, show jTl D.1 tl = tl from if_neg H4.out]
        exact ⟨rfl, S3, HS3.out, HJ3.out, HK3.out.mono (fun k h => .inl h)⟩
    · have HAV : Hid (amV V.1 = .iface 82 (.int .i64 V.1)) := if_neg h3
      have HQ : Hid (jRp x F t = V) := by show _ = _; rw [HP.out, if_neg (by rw [H0.out]; simp), if_pos h3]
      have H3 := hide h3
      rw [HAV.out]
      clear hS2 hJ2 hK2 h3
      go_wp2
      go_ret
      rw [HQ.out, HAV.out, show jTl V.1 tl = tl from if_neg H3.out]
      exact ⟨rfl, S2, HS2.out, HJ2.out, HK2.out.mono (fun k h => .inl h)⟩
  · have HA : Hid (amV C.1 = .iface 82 (.int .i64 C.1)) := if_neg h0
    have HQ : Hid (jRp x F t = C) := by show _ = _; rw [HP.out, if_pos h0]
    have H0 := hide h0
    have HJ1 := hide (And.intro hS1 (And.intro hJ1 hK1))
    rw [HA.out]
    clear hS1 hJ1 hK1 h0
    go_wp2
    go_ret
    rw [HQ.out, HA.out, show jTl C.1 tl = tl from if_neg H0.out]
    exact ⟨rfl, S1, HJ1.out.1, HJ1.out.2.1, HJ1.out.2.2.mono (fun k h => .inl h)⟩
end Go.Proofs.YtdcoafpenkofoaaGreatDoor


/- Stage 20: takeUp, bytes behind the log's batches. -/
namespace Go.Proofs.YtdcoafpenkofoaaGreatDoor
open Go.RowKit Go.Maps Go.MuLone
set_option linter.unusedVariables false
set_option linter.unusedSimpArgs false
/-- the log is made safe, where it is not -/
def jSf (R : Int × Dx × List Fi) (n z : Nat) : Int × Dx × List Fi := if z = n then (0, R.2) else dSync R.2.1 R.2.2 kG
/-- taking up a log of n bytes, z of them safe, of which t are its batches' -/
def jTu (x : Dx) (F : List Fi) (t : List Nat) (n z : Nat) : Int × Dx × List Fi :=
  if (jCl x F).1 ≠ 0 then jCl x F else if (jRp (jCl x F).2.1 (jCl x F).2.2 t).1 ≠ 190 then jRp (jCl x F).2.1 (jCl x F).2.2 t
  else jSf (jRp (jCl x F).2.1 (jCl x F).2.2 t) n z
def jTt (x : Dx) (F : List Fi) (t : List Nat) : Bool := if (jCl x F).1 ≠ 0 then true else jTl (jRp (jCl x F).2.1 (jCl x F).2.2 t).1 true
set_option maxHeartbeats 4000000 in
theorem takeUp_tail (S : Nat → Prop) (w wi : World) (d j : Nat) (x : Dx) (F : List Fi) (m : Nat) (h : JS S w wi d j x F (m : Int) true) (nm : ByteArray) (a : Option Addr) (n c z : Nat) (l : List Nat) (hr : ∀ W', Kp S wi W' → Rd W' a n l) (hc : n ≤ c) (hn : n ≤ 140737488355328) (hm : m ≤ n) (ha : a = none → c = 0)
    (h1 : (jCl (jCl x F).2.1 (jCl x F).2.2).2.2.length + 1 ≤ maxLen) (h2 : (jWr (jCl (jCl x F).2.1 (jCl x F).2.2).2.1 (jCl (jCl x F).2.1 (jCl x F).2.2).2.2 kN (l.take m)).2.2.length + 1 ≤ maxLen) :
    Calls Tryz.prog 55 #[.pointer (some ⟨j, 0, none⟩), .agg #[.string nm, .slice a n c, .int .i64 (z : Int)]] wi fun e w' => e = .returned (amV (jTu x F (l.take m) n z).1) ∧ ∃ S', (∀ q, S' q → S q ∨ wi.heap.size ≤ q) ∧ JS S' w w' d j (jTu x F (l.take m) n z).2.1 (jTu x F (l.take m) n z).2.2 (m : Int) (jTt x F (l.take m)) ∧ Kp (fun k => S k ∨ k = j) wi w' := by
  obtain ⟨W1, hW1⟩ : ∃ W1, wi.alloc (.cells #[.string nm, .slice a n c, .int .i64 (z : Int)] 73) = W1 := ⟨_, rfl⟩
  have hb1 : Below wi.heap.size wi W1 := by rw [← hW1]; exact bel1 (Below.refl _ _) (Nat.le_refl _) _
  have hB1 : W1.heap[wi.heap.size]? = some (.cells #[.string nm, .slice a n c, .int .i64 (z : Int)] 73 (0, 0)) := by rw [← hW1]; exact heap_new _ _
  have hlt : wi.heap.size < W1.heap.size := (Array.getElem?_eq_some_iff.1 hB1).1
  have hnS : ¬ S wi.heap.size := fun hs => by have := (h.aw.at_ _ hs).2; omega
  have hjl := h.lt
  have HC := hide (clearNew_any S w W1 d j x F (m : Int) true (h.below hb1))
  have HB1 := hide hb1
  have HBb := hide hB1
  have HL := hide hlt
  have HNS := hide hnS
  have HW1 := hide hW1
  have HR := hide hr
  have HJL := hide hjl
  obtain ⟨C, hCq⟩ : ∃ C, jCl x F = C := ⟨_, rfl⟩
  have HTU : Hid (jTu x F (l.take m) n z = if C.1 ≠ 0 then C else if (jRp C.2.1 C.2.2 (l.take m)).1 ≠ 190 then jRp C.2.1 C.2.2 (l.take m) else jSf (jRp C.2.1 C.2.2 (l.take m)) n z) := by show _ = _; unfold jTu; rw [hCq]
  have HTT : Hid (jTt x F (l.take m) = if C.1 ≠ 0 then true else jTl (jRp C.2.1 C.2.2 (l.take m)).1 true) := by show _ = _; unfold jTt; rw [hCq]
  rw [hCq] at HC h1 h2
  clear h hb1 hB1 hW1 hnS hlt hr hjl hCq
  have hmc : m ≤ c := by omega
  go_enter Tryz.func55, Tryz.ntmps55
  go_wp2_with fail
  rw [HW1.out]
  refine HC.out.mono ?_
  rintro e w1 ⟨rfl, S1, hS1, hJ1, hK1⟩
  obtain ⟨c0, c1, c2, _⟩ := hJ1.cells
  have hcb := (hK1.block HL.out HNS.out).trans HBb.out
  have t0 := cellOf hcb 0 (.string nm) rfl
  have t1 := cellOf hcb 1 (.slice a n c) rfl
  have t2 := cellOf hcb 2 (.int .i64 (z : Int)) rfl
  have hns1 : ¬ S1 wi.heap.size := fun hs => (hS1 _ hs).elim (fun h => HNS.out h) (fun h => by have := HL.out; omega)
  have HNS1 := hide hns1
  have HCB := hide hcb
  replace hK1 : Kp S wi w1 := (Kp.ofBelow HB1.out).trans hK1
  replace hS1 : ∀ q, S1 q → S q ∨ wi.heap.size ≤ q := fun q hq => (hS1 q hq).imp id (fun h => Nat.le_trans HB1.out.size h)
  clear hcb hns1
  by_cases h0 : C.1 = 0
  · have HA : Hid (amV C.1 = .nilIface) := by show _ = _; rw [h0]; rfl
    have hln : l.length = n := (HR.out wi (Kp.refl _ _)).1
    have hlm : (l.take m).length = m := by rw [List.length_take, hln, Nat.min_eq_left hm]
    have HRP : Hid (∀ V, Below w1.heap.size w1 V → Calls Tryz.prog 90 #[.pointer (some ⟨j, 0, none⟩), .slice a m c] V fun e w' => e = .returned (amV (jRp C.2.1 C.2.2 (l.take m)).1) ∧ ∃ S', (∀ q, S' q → S1 q ∨ V.heap.size ≤ q) ∧ JS S' w w' d j (jRp C.2.1 C.2.2 (l.take m)).2.1 (jRp C.2.1 C.2.2 (l.take m)).2.2 (m : Int) (jTl (jRp C.2.1 C.2.2 (l.take m)).1 true) ∧ Kp (fun k => S1 k ∨ k = j) V w') := fun V hV =>
      replace_any S1 w V d j C.2.1 C.2.2 (m : Int) true (hJ1.below hV) (.slice a m c) (l.take m) (fun W' hk => ⟨a, c, by rw [hlm], ha, by omega, by
        have hq := (HR.out W' (hK1.transN ((Kp.ofBelow hV).trans hk) (fun k hk => hS1 k hk))).take hm
        rw [hlm]
        exact hq⟩) h1 h2
    have hjne : wi.heap.size ≠ j := by have := HJL.out; omega
    have hL1 : wi.heap.size < w1.heap.size := (Array.getElem?_eq_some_iff.1 HCB.out).1
    have HX : Hid (∀ V W', Below w1.heap.size w1 V → Kp (fun k => S1 k ∨ k = j) V W' → W'.heap[wi.heap.size]? = some (.cells #[.string nm, .slice a n c, .int .i64 (z : Int)] 73 (0, 0))) := fun V W' hV hk =>
      ((hk.block (Nat.lt_of_lt_of_le hL1 hV.size) (fun hs => hs.elim HNS1.out hjne)).trans (hV.block _ hL1)).trans HCB.out
    obtain ⟨R, hRq⟩ : ∃ R, jRp C.2.1 C.2.2 (l.take m) = R := ⟨_, rfl⟩
    rw [hRq] at HRP HTU HTT
    clear hRq h1 h2 hln hlm hjne hL1
    have HJ1 := hide (And.intro hS1 (And.intro hJ1 hK1))
    have H0 := hide h0
    rw [HA.out]
    clear hS1 hJ1 hK1 h0
    go_wp2_with fail
    go_region_held (fun V => V.cell? ⟨wi.heap.size, 1, none⟩ = some (.slice a n c) ∧ V.cell? ⟨j, 1, none⟩ = some (.int .i64 (m : Int))) (first | go_keep | exact HC2.out) ((go_at_call 90; refine (HRP.out _ (by first | exact Below.refl _ _ | exact (Below.refl _ _).drew | exact (Below.refl _ _).drew.drew)).mono ?_; rintro e w2 ⟨rfl, S2, hS2, hJ2, hK2⟩; have HB2 := hide (HX.out _ _ (by first | exact Below.refl _ _ | exact (Below.refl _ _).drew | exact (Below.refl _ _).drew.drew) hK2); have HC2 : Hid (w2.cell? ⟨wi.heap.size, 1, none⟩ = some (.slice a n c) ∧ w2.cell? ⟨j, 1, none⟩ = some (.int .i64 (m : Int))) := ⟨cellOf HB2.out 1 _ rfl, hJ2.cells.2.1⟩; have HJ2 := hide hJ2; have HS2 := hide hS2; have HK2 := hide hK2; clear hS2 hJ2 hK2))
    have b1 := cellOf HB2.out 1 (.slice a n c) rfl
    have b2 := cellOf HB2.out 2 (.int .i64 (z : Int)) rfl
    obtain ⟨cj, _, _, _⟩ := HJ2.out.cells
    have HSA : Hid (∀ q, S2 q → S q ∨ wi.heap.size ≤ q) := fun q hq => by
      rcases HS2.out q hq with h | h
      · exact HJ1.out.1 q h
      · have := HJ1.out.2.2.size
        exact .inr (by first | omega | (simp only [World.drew] at h; omega))
    have HKA : Hid (Kp (fun k => S k ∨ k = j) wi w2) := (HJ1.out.2.2.mono (fun k h => .inl h)).transN (((Kp.ofBelow (by first | exact Below.refl _ _ | exact (Below.refl _ _).drew | exact (Below.refl _ _).drew.drew)).trans HK2.out)) (fun k hk => by
      rcases hk with h | h
      · exact (HJ1.out.1 k h).imp (fun h => .inl h) id
      · exact .inl (.inr h))
    by_cases h5 : R.1 = 0
    · have HZ : Hid (amV R.1 = .nilIface) := by show _ = _; rw [h5]; rfl
      have HIS := hide (is_nil 190 w2)
      have HQ : Hid (jTu x F (l.take m) n z = R) := by show _ = _; rw [HTU.out, if_neg (by rw [H0.out]; simp), if_pos (by rw [h5]; decide)]
      have HQ2 : Hid (jTt x F (l.take m) = jTl R.1 true) := by show _ = _; rw [HTT.out, if_neg (by rw [H0.out]; simp)]
      rw [HZ.out]
      clear h5
      go_wp2_with (go_at_call 38; refine HIS.out.mono ?_; rintro e w3 ⟨rfl, rfl⟩)
      go_ret
      rw [HQ.out, HZ.out, HQ2.out]
      exact ⟨rfl, S2, HSA.out, HJ2.out, HKA.out⟩
    · have HZ : Hid (amV R.1 = nB R.1) := if_neg h5
      have HIS := hide (is_num R.1 190 w2)
      have HQ2 : Hid (jTt x F (l.take m) = jTl R.1 true) := by show _ = _; rw [HTT.out, if_neg (by rw [H0.out]; simp)]
      by_cases h6 : R.1 = 190
      · have HQ : Hid (jTu x F (l.take m) n z = jSf R n z) := by show _ = _; rw [HTU.out, if_neg (by rw [H0.out]; simp), if_neg (by rw [h6]; simp)]
        rw [decide_eq_true h6] at HIS
        rw [HZ.out]
        have HY := hide (aw_sync HJ2.out.aw kG)
        unfold nB at HIS ⊢
        clear h5 h6
        by_cases hz : z = n
        · have HS : Hid (jSf R n z = (0, R.2)) := if_pos hz
          have hzb : ((z : Int) == (n : Int)) = true := by rw [hz]; simp
          clear hz
          go_wp2_with (go_at_call 38; refine HIS.out.mono ?_; rintro e w3 ⟨rfl, rfl⟩)
          go_ret
          rw [HQ.out, HS.out, HQ2.out]
          exact ⟨rfl, S2, HSA.out, HJ2.out, HKA.out⟩
        · have HS : Hid (jSf R n z = dSync R.2.1 R.2.2 kG) := if_neg hz
          have hzb : ((z : Int) == (n : Int)) = false := beq_eq_false_iff_ne.2 (by omega)
          clear hz
          go_wp2_with fail
          refine HIS.out.mono ?_
          rintro e w3 ⟨rfl, rfl⟩
          go_wp2_with fail
          refine HY.out.mono ?_
          rintro e w4 ⟨rfl, hN⟩
          have HJ4 := hide (HJ2.out.nx hN)
          have HM := hide (amiss_any (dSync R.2.1 R.2.2 kG).1 w4)
          clear hN
          obtain ⟨q, hq⟩ : ∃ q, (dSync R.2.1 R.2.2 kG).1 = q := ⟨_, rfl⟩
          have HQQ := hide hq
          rw [hq] at HM ⊢
          clear hq
          go_wp2_with fail
          refine HM.out.mono ?_
          rintro e w5 ⟨rfl, rfl⟩
          go_wp2
          go_ret
          rw [HQ.out, HS.out, HQQ.out, HQ2.out]
          refine ⟨rfl, ?_⟩
          obtain ⟨S4, hS4, hJ4, hK4⟩ := HJ4.out
          refine ⟨S4, fun q hq => ?_, hJ4, HKA.out.transN (hK4) (fun k hk => (HSA.out k hk).imp (fun h => .inl h) id)⟩
          rcases hS4 q hq with h | h
          · exact HSA.out q h
          · exact .inr (Nat.le_trans HKA.out.size h)
      · have HQ : Hid (jTu x F (l.take m) n z = R) := by show _ = _; rw [HTU.out, if_neg (by rw [H0.out]; simp), if_pos h6]
        rw [decide_eq_false h6] at HIS
        rw [HZ.out]
        unfold nB at HIS HZ ⊢
        clear h5 h6
        go_wp2_with (go_at_call 38; refine HIS.out.mono ?_; rintro e w3 ⟨rfl, rfl⟩)
        go_ret
        rw [HQ.out, HZ.out, HQ2.out]
        exact ⟨rfl, S2, HSA.out, HJ2.out, HKA.out⟩
  · have HA : Hid (amV C.1 = .iface 82 (.int .i64 C.1)) := if_neg h0
    have HQ : Hid (jTu x F (l.take m) n z = C) := by show _ = _; rw [HTU.out, if_pos h0]
    have HQ2 : Hid (jTt x F (l.take m) = true) := by show _ = _; rw [HTT.out, if_pos h0]
    have HJ1 := hide (And.intro hS1 (And.intro hJ1 hK1))
    rw [HA.out]
    clear hS1 hJ1 hK1 h0
    go_wp2
    go_ret
    rw [HQ.out, HA.out, HQ2.out]
    exact ⟨rfl, S1, HJ1.out.1, HJ1.out.2.1, HJ1.out.2.2.mono (fun k h => .inl h)⟩
end Go.Proofs.YtdcoafpenkofoaaGreatDoor


/- Stage 20: Open, bytes behind the log's batches. -/
namespace Go.Proofs.YtdcoafpenkofoaaGreatDoor
open Go.RowKit Go.Maps Go.MuLone
set_option linter.unusedVariables false
set_option linter.unusedSimpArgs false
theorem Kp.noNew {S : Nat → Prop} {w w' : World} {j : Nat} (h : Kp (fun k => S k ∨ k = j) w w') (hj : w.heap.size ≤ j) : Kp S w w' :=
  ⟨h.1, h.2.1, h.2.2.1, h.2.2.2.1, fun k hk hs => h.2.2.2.2 k hk (fun e => e.elim hs (fun e => by omega))⟩
set_option maxHeartbeats 4000000 in
theorem open_tail (S : Nat → Prop) (w wi : World) (d : Nat) (x : Dx) (F : List Fi) (g : Addr) (hE : Eb w g) (hT : Er w) (h : AW S w wi d x F) (hd : x.down = false) (hn : F.length ≤ 2000000000000) (hl : (dat kG F).1.length ≤ 70368744177664) (hz : (dat kG F).2 ≤ (dat kG F).1.length) (hw : ¬ (((wl (dat kG F).1).2.1 : Int) < ((dat kG F).2 : Int) ∧ 2 ≤ (wl (dat kG F).1).2.2)) (hm : (wl (dat kG F).1).2.1 < (dat kG F).1.length)
    (h1 : (jCl (jCl x F).2.1 (jCl x F).2.2).2.2.length + 1 ≤ maxLen) (h2 : (jWr (jCl (jCl x F).2.1 (jCl x F).2.2).2.1 (jCl (jCl x F).2.1 (jCl x F).2.2).2.2 kN ((dat kG F).1.take (wl (dat kG F).1).2.1)).2.2.length + 1 ≤ maxLen) (ht : (jTu x F ((dat kG F).1.take (wl (dat kG F).1).2.1) (dat kG F).1.length (dat kG F).2).1 = 0) :
    Calls Tryz.prog 19 #[.pointer (some ⟨d, 0, none⟩)] wi fun e w' => ∃ j v Z, e = .returned (.tuple #[.pointer (some ⟨j, 0, none⟩), v, .int .i64 0]) ∧ wi.heap.size ≤ j ∧ Wy AK w' wi.heap.size v Z ∧ ToldL wi.heap.size w' Z ∧ batches Z = (wl (dat kG F).1).1 ∧ ∃ S', (∀ q, S' q → S q ∨ wi.heap.size ≤ q) ∧ JS S' w w' d j (jTu x F ((dat kG F).1.take (wl (dat kG F).1).2.1) (dat kG F).1.length (dat kG F).2).2.1 (jTu x F ((dat kG F).1.take (wl (dat kG F).1).2.1) (dat kG F).1.length (dat kG F).2).2.2 ((wl (dat kG F).1).2.1 : Int) (jTt x F ((dat kG F).1.take (wl (dat kG F).1).2.1)) ∧ Kp S wi w' := by
  obtain ⟨l, hlq⟩ : ∃ l, (dat kG F).1 = l := ⟨_, rfl⟩
  obtain ⟨z, hzq⟩ : ∃ z, (dat kG F).2 = z := ⟨_, rfl⟩
  rw [hlq] at hl hz hw hm h2 ht ⊢
  rw [hzq] at hz hw ht ⊢
  have HLF := hide (fun S1 wi' (h : AW S1 w wi' d x F) => logFile_any S1 w wi' d x F h hn)
  have HU := hide (aw_up h)
  have HE := hide hE
  have HT := hide hT
  have HLQ := hide hlq
  have HZQ := hide hzq
  have hdt : (!x.down) = true := by rw [hd]; rfl
  rw [hdt] at HU
  obtain ⟨m, hmq⟩ : ∃ m, (wl l).2.1 = m := ⟨_, rfl⟩
  have hsc : scn l (z : Int) = ((wl l).1, m, 0) := by
    unfold scn
    rw [if_neg (by omega), if_neg hw, hmq]
  rw [hmq] at hm h2 ht ⊢
  have HTT := hide ht
  have HM := hide hm
  have H1 := hide h1
  have H2 := hide h2
  have HSC := hide hsc
  have HHL := hide hl
  have HHZ := hide hz
  clear h hd hn hl hz hw ht hE hT hlq hzq hdt hsc hm h1 h2 hmq
  go_enter Tryz.func19, Tryz.ntmps19
  go_wp2_with fail
  refine HU.out.mono ?_
  rintro e w1 ⟨rfl, S1, hS1, hA1, hK1⟩
  have hlf := HLF.out S1 w1 hA1
  rw [HLQ.out, HZQ.out] at hlf
  have HL2 := hide hlf
  have HK1 := hide (And.intro hS1 (And.intro hA1 hK1))
  have HA1 := hide hA1
  clear hS1 hA1 hK1 hlf
  go_wp2_with fail
  refine HL2.out.mono ?_
  rintro e w2 ⟨nm, v, rfl, hob, hA2, hK2⟩
  obtain ⟨a, c, rfl, hcc⟩ := hob.slice
  have HAN : Hid (a = none → c = 0) := by
    obtain ⟨a', c', e, h, _⟩ := hob.rb
    simp only [Value.slice.injEq] at e
    obtain ⟨rfl, _, rfl⟩ := e
    exact h
  have HOBL : Hid (∀ b, (Value.slice a l.length c).ownBlock = some b → w1.heap.size ≤ b) := fun b hb => (hob.lt b hb).1
  have HOB := hide hob
  have HA2 := hide hA2
  have HK2 := hide hK2
  obtain ⟨W3, hW3⟩ : ∃ W3, w2.alloc (.cells #[.string nm, .slice a l.length c, .int .i64 (z : Int)] 73) = W3 := ⟨_, rfl⟩
  have hb3 : Below w2.heap.size w2 W3 := by rw [← hW3]; exact bel1 (Below.refl _ _) (Nat.le_refl _) _
  have hB3 : W3.heap[w2.heap.size]? = some (.cells #[.string nm, .slice a l.length c, .int .i64 (z : Int)] 73 (0, 0)) := by rw [← hW3]; exact heap_new _ _
  have hlt3 : w2.heap.size < W3.heap.size := (Array.getElem?_eq_some_iff.1 hB3).1
  have hA3 := hA2.below hb3
  have hrd : Rd W3 a l.length l := by
    obtain ⟨a', c', e, hr⟩ := (hob.below hb3).rb
    simp only [Value.slice.injEq] at e
    obtain ⟨rfl, _, rfl⟩ := e
    exact hr.2.2
  have HRD3 := hide hrd
  have HSN := hide (scan_any g a c l (z : Int) W3 (HE.out.below hA3.bel) (HT.out.below hA3.bel) hrd hcc HHL.out)
  have HB3 := hide hb3
  have HBb := hide hB3
  have HL3 := hide hlt3
  have HA3 := hide hA3
  have HW3 := hide hW3
  clear hob hA2 hK2 hW3 hb3 hB3 hlt3 hA3 hrd
  go_wp2_with fail
  rw [HW3.out]
  refine HSN.out.mono ?_
  rintro e w4 ⟨⟨v, Z, rfl, hwy, htl, hbz⟩, hb4⟩
  have hc4 := (hb4.block _ HL3.out).trans HBb.out
  have t0 := cellOf hc4 0 (.string nm) rfl
  have t1 := cellOf hc4 1 (.slice a l.length c) rfl
  have t2 := cellOf hc4 2 (.int .i64 (z : Int)) rfl
  have hL4 : w2.heap.size < w4.heap.size := (Array.getElem?_eq_some_iff.1 hc4).1
  rw [HSC.out] at hbz ⊢
  dsimp only at hbz ⊢
  have HY := hide (And.intro hwy (And.intro htl hbz))
  have HB4 := hide hb4
  have HRD := hide (HRD3.out.below hb4)
  have hmI : (m : Int) < (l.length : Int) := by have := HM.out; omega
  clear hwy htl hbz hb4
  go_wp2_with fail
  obtain ⟨W5, hW5⟩ : ∃ W5, w4.alloc (.cells #[.pointer (some ⟨d, 0, none⟩), .int .i64 (m : Int), .bool true] 114) = W5 := ⟨_, rfl⟩
  have hb5 : Below w4.heap.size w4 W5 := by rw [← hW5]; exact bel1 (Below.refl _ _) (Nat.le_refl _) _
  have hB5 : W5.heap[w4.heap.size]? = some (.cells (jrA d (m : Int) true) 114 (0, 0)) := by rw [← hW5]; exact heap_new _ _
  have hA4 := HA3.out.below HB4.out
  have hJ5 : JS S1 w W5 d w4.heap.size x F (m : Int) true := ⟨hA4.below hb5, fun hs => by have := (hA4.at_ _ hs).2; omega, hA4.bel.size, hB5⟩
  have hrd5 : ∀ W', Kp S1 W5 W' → Rd W' a l.length l := fun W' hk => by
    have h5 := HRD.out.below hb5
    refine ⟨h5.1, h5.2.1, fun h0 => ?_⟩
    obtain ⟨b, off, e, hlt, hcc⟩ := h5.2.2 h0
    refine ⟨b, off, e, Nat.lt_of_lt_of_le hlt hk.size, fun j hj => (hk.cell hlt (fun hs => ?_)).trans (hcc j hj)⟩
    have h1 := (HA1.out.at_ b hs).2
    have h2 := HOBL.out b (by rw [e]; rfl)
    omega
  have HTK := hide (takeUp_tail S1 w W5 d w4.heap.size x F m hJ5 nm a l.length c z l hrd5 hcc (by have := HHL.out; omega) (Nat.le_of_lt HM.out) HAN.out H1.out H2.out)
  have HB5 := hide hb5
  have HW5 := hide hW5
  have hlt5 : w4.heap.size < W5.heap.size := (Array.getElem?_eq_some_iff.1 hB5).1
  have HL5 := hide hlt5
  have HA0 : Hid (amV 0 = .nilIface) := rfl
  clear hW5 hb5 hB5 hA4 hJ5 hlt5 hrd5
  rw [HW5.out]
  refine HTK.out.mono ?_
  rintro e w6 ⟨rfl, S6, hS6, hJ6, hK6⟩
  rw [HTT.out, HA0.out]
  have hk35 : Below w2.heap.size w2 W5 := belOn (belOn HB3.out HB3.out.size HB4.out) (Nat.le_trans HB3.out.size HB4.out.size) HB5.out
  have HKA : Hid (Kp S wi w6) := (((HK1.out.2.2.mono (fun k h => .inl h)).transN (((HK2.out.below hk35).mono (fun k h => .inl h)).trans hK6) (fun k hk => hk.elim (fun h => (HK1.out.1 k h).imp (fun h => .inl h) id) (fun h => .inr (by have := HK1.out.2.2.size; have := HK2.out.size; have := HB3.out.size; have := HB4.out.size; omega)))).noNew (S := S) (j := w4.heap.size) (by have := HK1.out.2.2.size; have := HK2.out.size; have := HB3.out.size; have := HB4.out.size; omega))
  have HSA : Hid (∀ q, S6 q → S q ∨ wi.heap.size ≤ q) := fun q hq => by
    rcases hS6 q hq with h | h
    · exact HK1.out.1 q h
    · have := HK1.out.2.2.size
      have := HK2.out.size
      have := hk35.size
      exact .inr (by omega)
  have HJ6 := hide hJ6
  have hble : wi.heap.size ≤ W3.heap.size := by
    have := HK1.out.2.2.size
    have := HK2.out.size
    have := HB3.out.size
    omega
  have hkk : ∀ k, W3.heap.size ≤ k → k < w4.heap.size → w6.heap[k]? = w4.heap[k]? := fun k h1 h2 =>
    (hK6.block (Nat.lt_of_lt_of_le h2 HB5.out.size) (fun hs => hs.elim (fun hs => by have := (HA3.out.at_ _ hs).2; omega) (fun e => by omega))).trans (HB5.out.block k h2)
  have HYY : Hid (Wy AK w6 wi.heap.size v Z ∧ ToldL wi.heap.size w6 Z) :=
    ⟨(HY.out.1.at (fun k e => hkk k (HY.out.1.lt e).1 (HY.out.1.lt e).2)).mono hble, (HY.out.2.1.keep (fun k cs t f h1 h2 _ => hkk k h1 (Array.getElem?_eq_some_iff.1 h2).1)).mono hble⟩
  clear hble hkk
  clear hS6 hJ6 hK6 hk35
  go_wp2
  refine bodyPost_ret (results_tmp3 rfl _ _ _) rfl ?_
  refine ⟨w4.heap.size, v, Z, rfl, ?_, HYY.out.1, HYY.out.2, HY.out.2.2, S6, HSA.out, HJ6.out, HKA.out⟩
  have := HK1.out.2.2.size
  have := HK2.out.size
  have := HB3.out.size
  have := HB4.out.size
  omega
end Go.Proofs.YtdcoafpenkofoaaGreatDoor
