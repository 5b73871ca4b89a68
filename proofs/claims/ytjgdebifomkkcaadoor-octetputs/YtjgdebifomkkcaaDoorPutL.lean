/- OctetPuts: the walk. -/
import Derived.Test.YtjgdebifomkkcaaDoorPutO
import Derived.Test.YtjgdebifomkkcaaDoorLive
import Derived.Test.YtjgdebifomkkcaaDoorOpen
namespace Go.Proofs.YtjgdebifomkkcaaDoor
open Go.RowKit
set_option linter.unusedVariables false

/-- a list that came out of Put: where it lies -/
def Came (w w' : World) (m : Nat) (A : Option Addr) : Prop :=
  (m = 0 → A = none) ∧ (0 < m → A = some ⟨w.heap.size, 0, none⟩ ∧ ∃ cur, w'.heap[w.heap.size]? = some (.cells cur 5 (0, 0)) ∧ cur.size = m)
theorem Came.lt {w w' : World} {m : Nat} {A : Option Addr} (h : Came w w' m A) (h0 : 0 < m) : w.heap.size < w'.heap.size := by
  obtain ⟨_, cur, hg, _⟩ := h.2 h0
  exact (Array.getElem?_eq_some_iff.1 hg).1
theorem Came.below {w w' w2 : World} {m : Nat} {A : Option Addr} (h : Came w w' m A) (hb : Below w'.heap.size w' w2) : Came w w2 m A := by
  refine ⟨h.1, fun h0 => ?_⟩
  obtain ⟨h1, cur, hg, hs⟩ := h.2 h0
  exact ⟨h1, cur, (hb.block _ (h.lt h0)).trans hg, hs⟩
theorem put_all (N : Nat) (x : Int) (m : Nat) (w : World) (hN : N < 18446744073709551616) (hm : ((x < 1 ∨ 8 < x) ∧ m = 0) ∨ (1 ≤ m ∧ m ≤ 8 ∧ x = (m : Int))) :
    Calls Tryd.prog 9 #[.int .u64 (N : Int), .int .i64 x] w fun e w' => ∃ A, e = .returned (.slice A m m) ∧ Below w.heap.size w w' ∧ Rd w' A m (digs N m) ∧ Came w w' m A := by
  rcases hm with ⟨h, rfl⟩ | ⟨h1, h8, rfl⟩
  · refine (put_no (N : Int) x w h).mono ?_
    rintro e w' ⟨rfl, rfl⟩
    exact ⟨none, rfl, Below.refl _ _, ⟨rfl, fun c hc => by simp [digs] at hc, fun h => by omega⟩, fun _ => rfl, fun h => by omega⟩
  · refine (put_yes N m w hN h1 h8).mono ?_
    rintro e w' ⟨rfl, hrow, hsz, hb⟩
    have hr := Rd.of_digs hrow
    obtain ⟨cur, hg, hs, _⟩ := hrow
    exact ⟨_, rfl, hb, hr, fun h => by omega, fun _ => ⟨rfl, cur, hg, hs⟩⟩
theorem refput_all (N : Nat) (x : Int) (m : Nat) (w : World) (hN : N < 18446744073709551616) (hm : ((x < 1 ∨ 8 < x) ∧ m = 0) ∨ (1 ≤ m ∧ m ≤ 8 ∧ x = (m : Int))) :
    Calls Tryd.prog 10 #[.int .u64 (N : Int), .int .i64 x] w fun e w' => ∃ A c, e = .returned (.slice A m c) ∧ Below w.heap.size w w' ∧ Rd w' A m (digs N m) ∧ (0 < m → ∃ g, A = some ⟨g, 0, none⟩ ∧ w.heap.size ≤ g ∧ g < w'.heap.size) := by
  rcases hm with ⟨h, rfl⟩ | ⟨h1, h8, rfl⟩
  · refine (refput_no (N : Int) x w h).mono ?_
    rintro e w' ⟨rfl, rfl⟩
    exact ⟨none, 0, rfl, Below.refl _ _, ⟨rfl, fun c hc => by simp [digs] at hc, fun h => by omega⟩, fun h => by omega⟩
  · refine (refput_yes N m w hN h1 h8).mono ?_
    rintro e w' ⟨g, c, rfl, hg, hlt, hr, hb⟩
    exact ⟨_, c, rfl, hb, hr, fun _ => ⟨g, rfl, hg, hlt⟩⟩
def pick {α : Type} (a b c : α) (j : Nat) : α := if j = 0 then a else if j = 1 then b else c
theorem below_up {B : Nat} {w w1 w2 : World} (h1 : Below B w w1) (hB : B ≤ w.heap.size) (h2 : Below w1.heap.size w1 w2) : Below B w w2 :=
  h1.trans (h2.mono (Nat.le_trans hB h1.size))
/-- what Owned asks for, of the book that holds the three -/
theorem owned_of (pb m : Nat) (A B C : Option Addr) (v : Value) (a0 b0 c0 a1 b1 c1 w9 w : World) (hca : Came a0 a1 m A) (hcb : Came b0 b1 m B) (hcc : Came c0 c1 m C) (hab : a1.heap.size ≤ b0.heap.size) (hbc : b1.heap.size ≤ c0.heap.size) (hcp : c1.heap.size ≤ w9.heap.size) (hpb : pb = w9.heap.size)
    (ha : Below a1.heap.size a1 w) (hb : Below b1.heap.size b1 w) (hc : Below c1.heap.size c1 w) (hm : m ≤ 8)
    (hbk : Book w pb 30 v) (hown : w.ownsRow pb 24 1 v 3 [.slice A m m, .slice B m m, .slice C m m]) :
    Calls Tryd.prog 13 #[.pointer (some ⟨pb, 0, none⟩)] w fun e w' => e = .returned (.bool true) ∧ Kp (In3 m (pick a0.heap.size b0.heap.size c0.heap.size)) w w' := by
  obtain ⟨gl, capl, rfl, hpg, hgl⟩ := own_shape hown (by omega)
  have hlt : ∀ j, j < 3 → 0 < m → pick a0.heap.size b0.heap.size c0.heap.size j < pb := fun j hj h0 => by
    have h1 := hca.lt h0
    have h2 := hcb.lt h0
    have h3 := hcc.lt h0
    unfold pick
    split
    · omega
    · split <;> omega
  refine owned_yes pb gl capl m (pick A B C) (pick a0.heap.size b0.heap.size c0.heap.size) w hbk (fun j hj => ?_) hgl ⟨?_, ?_⟩ ?_ ?_ ?_ hm ?_
  · rw [hown.cellAt j (by simp; omega)]
    match j, hj with
    | 0, _ => rfl
    | 1, _ => rfl
    | 2, _ => rfl
  · rintro ⟨h0, j, hj, e⟩
    have := hlt j hj h0
    omega
  · rintro ⟨h0, j, hj, e⟩
    have := hlt j hj h0
    omega
  · intro h0 a b ha3 hb3 e
    have h1 := hca.lt h0
    have h2 := hcb.lt h0
    match a, b, ha3, hb3 with
    | 0, 0, _, _ => rfl
    | 1, 1, _, _ => rfl
    | 2, 2, _, _ => rfl
    | 0, 1, _, _ => simp [pick] at e; omega
    | 0, 2, _, _ => simp [pick] at e; omega
    | 1, 0, _, _ => simp [pick] at e; omega
    | 1, 2, _, _ => simp [pick] at e; omega
    | 2, 0, _, _ => simp [pick] at e; omega
    | 2, 1, _, _ => simp [pick] at e; omega
  · intro j hj h0
    match j, hj with
    | 0, _ => exact (hca.2 h0).1
    | 1, _ => exact (hcb.2 h0).1
    | 2, _ => exact (hcc.2 h0).1
  · intro h0 j hj
    match j, hj with
    | 0, _ => exact hca.1 h0
    | 1, _ => exact hcb.1 h0
    | 2, _ => exact hcc.1 h0
  · intro j hj h0
    have key : ∃ cur, w.heap[pick a0.heap.size b0.heap.size c0.heap.size j]? = some (.cells cur 5 (0, 0)) ∧ cur.size = m := by
      match j, hj with
      | 0, _ => exact ((hca.below ha).2 h0).2
      | 1, _ => exact ((hcb.below hb).2 h0).2
      | 2, _ => exact ((hcc.below hc).2 h0).2
    obtain ⟨cur, h1, h2⟩ := key
    exact ⟨cur, h1, h2, fun q hq hor => by omega⟩

set_option maxRecDepth 100000 in
set_option maxHeartbeats 2000000 in
theorem puts_walk (a x b : Int) (w : World) (wa : (Lit.int .u64 a).wf = true) (wx : (Lit.int .i64 x).wf = true) (wb : (Lit.int .u64 b).wf = true) (hT : Lib.Utf8Tabs 0 1 w) :
    Calls Tryd.prog 4 #[.int .u64 a, .int .i64 x, .int .u64 b] w fun e w' => e = .returned (.bool true) ∧ Below w.heap.size w w' := by
  have ba := wf_u64 wa
  have bb := wf_u64 wb
  have HT := hide hT
  obtain ⟨N, rfl⟩ := Int.eq_ofNat_of_zero_le ba.1
  obtain ⟨M, rfl⟩ := Int.eq_ofNat_of_zero_le bb.1
  have HN : Hid (N < 18446744073709551616) := by show _ < _; omega
  have HM : Hid (M < 18446744073709551616) := by show _ < _; omega
  have HW : Hid (∃ m : Nat, ((x < 1 ∨ 8 < x) ∧ m = 0) ∨ (1 ≤ m ∧ m ≤ 8 ∧ x = (m : Int))) := by
    by_cases h : x < 1 ∨ 8 < x
    · exact ⟨0, .inl ⟨h, rfl⟩⟩
    · exact ⟨x.toNat, .inr ⟨by omega, by omega, by omega⟩⟩
  obtain ⟨m, hm⟩ := HW.out
  have hm8 : m ≤ 8 := by omega
  have HX := hide hm
  clear hT ba bb wa wb wx HW hm
  go_enter Tryd.func4, Tryd.ntmps4
  go_wp2_with fail
  refine (live_any w HT.out).mono ?_
  rintro e w1 ⟨rfl, hb1⟩
  go_wp2_with fail
  refine (put_all N x m w1 HN.out HX.out).mono ?_
  rintro e w2 ⟨A, rfl, hb2, hrA, hcA⟩
  have HRA := hide hrA
  have HCA := hide hcA
  clear hrA hcA
  go_wp2_with fail
  refine (refput_all N x m w2 HN.out HX.out).mono ?_
  rintro e w3 ⟨P, cP, rfl, hb3, hrP, hcP⟩
  have HRP := hide hrP
  have HCP := hide hcP
  clear hrP hcP
  go_wp2_with fail
  refine (put_all M x m w3 HM.out HX.out).mono ?_
  rintro e w4 ⟨B, rfl, hb4, hrB, hcB⟩
  have HRB := hide hrB
  have HCB := hide hcB
  clear hrB hcB
  go_wp2_with fail
  refine (put_all N x m w4 HN.out HX.out).mono ?_
  rintro e w5 ⟨C, rfl, hb5, hrC, hcC⟩
  have HRC := hide hrC
  have HCC := hide hcC
  clear hrC hcC
  go_wp2_with fail
  refine (refput_all M x m w5 HM.out HX.out).mono ?_
  rintro e w6 ⟨Q, cQ, rfl, hb6, hrQ, hcQ⟩
  have HRQ := hide hrQ
  clear hrQ hcQ
  have HA6 := hide ((((HRA.out.below hb3).below hb4).below hb5).below hb6)
  have HP6 := hide (((HRP.out.below hb4).below hb5).below hb6)
  have HB6 := hide ((HRB.out.below hb5).below hb6)
  have HC6 := hide (HRC.out.below hb6)
  go_wp2_with fail
  refine (same_eq A P m m cP (digs N m) w6 HA6.out HP6.out (by omega)).mono ?_
  rintro e w7' ⟨rfl, n7, rfl⟩
  have hb7 := below_draws (w := w6) n7
  generalize w6.drewN n7 = w7 at *
  go_wp2_with fail
  refine (same_eq B Q m m cQ (digs M m) w7 (HB6.out.below hb7) (HRQ.out.below hb7) (by omega)).mono ?_
  rintro e w8' ⟨rfl, n8, rfl⟩
  have hb8 := below_draws (w := w7) n8
  generalize w7.drewN n8 = w8 at *
  go_wp2_with fail
  refine (same_eq C P m m cP (digs N m) w8 ((HC6.out.below hb7).below hb8) ((HP6.out.below hb7).below hb8) (by omega)).mono ?_
  rintro e w9' ⟨rfl, n9, rfl⟩
  have hb9 := below_draws (w := w8) n9
  generalize w8.drewN n9 = w9 at *
  have HP9 := hide (((HP6.out.below hb7).below hb8).below hb9)
  have h59 : Below w5.heap.size w5 w9 := below_up (below_up (below_up hb6 (Nat.le_refl _) hb7) (Nat.le_refl _) hb8) (Nat.le_refl _) hb9
  have h39 : Below w4.heap.size w4 w9 := below_up hb5 (Nat.le_refl _) h59
  have h29 : Below w2.heap.size w2 w9 := below_up (below_up hb3 (Nat.le_refl _) hb4) (Nat.le_refl _) h39
  have h09 : Below w.heap.size w w9 := below_up (below_up hb1 (Nat.le_refl _) hb2) (Nat.le_refl _) h29
  have s12 := hb2.size
  have s23 := hb3.size
  have s34 := hb4.size
  have s45 := hb5.size
  have s59 := h59.size
  have s01 := hb1.size
  clear hb6 hb7 hb8 hb9 hb5 HA6 HP6 HB6 HC6 HRA HRB HRC HRQ HRP
  have HBK0 : Hid (Book (w9.alloc (.cells #[.slice none 0 0] 30)) w9.heap.size 30 (.slice none 0 0)) := heap_alloc_new _ _
  have hbA : Below w9.heap.size w9 (w9.alloc (.cells #[.slice none 0 0] 30)) := (Below.refl _ _).alloc (Nat.le_refl _) _
  go_wp2_with fail
  refine (take_any w9.heap.size w9.heap.size 0 (.slice none 0 0) [] A m m _ HBK0.out (World.ownsRow_nil _ _ _ _) (Nat.le_refl _) (by omega) hbA.size).mono ?_
  rintro e w10 ⟨rfl, v1, hk1, ho1, hbT1⟩
  have h10 := hbA.trans hbT1
  have HK1 := hide hk1
  have HO1 := hide ho1
  clear hk1 ho1 hbT1 hbA HBK0
  go_wp2_with fail
  refine (take_any w9.heap.size w9.heap.size 1 v1 _ B m m w10 HK1.out HO1.out (Nat.le_refl _) (by omega) h10.size).mono ?_
  rintro e w11 ⟨rfl, v2, hk2, ho2, hbT2⟩
  have h11 := h10.trans hbT2
  have HK2 := hide hk2
  have HO2 := hide ho2
  clear hk2 ho2 hbT2 HK1 HO1 h10
  go_wp2_with fail
  refine (take_any w9.heap.size w9.heap.size 2 v2 _ C m m w11 HK2.out HO2.out (Nat.le_refl _) (by omega) h11.size).mono ?_
  rintro e w12 ⟨rfl, v3, hk3, ho3, hbT3⟩
  have h12 := h11.trans hbT3
  have HK3 := hide hk3
  have HO3 := hide ho3
  clear hk3 ho3 hbT3 HK2 HO2 h11
  have HOW := hide (owned_of w9.heap.size m A B C v3 w1 w3 w4 w2 w4 w5 w9 w12 HCA.out HCB.out HCC.out s23 (Nat.le_refl _) s59 rfl (below_up h29 (Nat.le_refl _) h12) (below_up h39 (Nat.le_refl _) h12) (below_up h59 (Nat.le_refl _) h12) hm8 HK3.out HO3.out)
  go_wp2_with fail
  refine HOW.out.mono ?_
  rintro e w13 ⟨rfl, hkp⟩
  have HKP := hide hkp
  have HP12 := hide (HP9.out.below h12)
  have HP13 := hide (HKP.out.rd HP12.out (fun b off e hin => by
    obtain ⟨h0, j, hj, ej⟩ := hin
    obtain ⟨g, hP, hg1, hg2⟩ := HCP.out h0
    rw [hP] at e
    simp only [Option.some.injEq, Addr.mk.injEq] at e
    have l1 := HCA.out.lt h0
    unfold pick at ej
    split at ej
    · omega
    · split at ej <;> omega))
  have h13 : Below w.heap.size w w13 := (below_up h09 (Nat.le_refl _) h12).trans (HKP.out.toBelow (by have := h12.size; omega) (fun k hk hin => by
    obtain ⟨h0, j, hj, ej⟩ := hin
    unfold pick at ej
    split at ej
    · omega
    · split at ej <;> omega))
  clear hkp HOW HP12 HP9
  go_wp2_with fail
  refine (put_all N x m w13 HN.out HX.out).mono ?_
  rintro e w14 ⟨D, rfl, hb14, hrD, hcD⟩
  have HRD := hide hrD
  clear hrD hcD
  go_wp2_with fail
  refine (same_eq D P m m cP (digs N m) w14 HRD.out (HP13.out.below hb14) (by omega)).mono ?_
  rintro e w15' ⟨rfl, n15, rfl⟩
  have hb15 := below_draws (w := w14) n15
  generalize w14.drewN n15 = w15 at *
  go_wp2
  go_ret
  exact ⟨rfl, below_up (below_up h13 (Nat.le_refl _) hb14) (Nat.le_refl _) hb15⟩
end Go.Proofs.YtjgdebifomkkcaaDoor
