
/- RouteMeans: the walk. -/
import Derived.Test.YtmanfakdbmlfeaaDoorRAwk
namespace Go.Proofs.YtmanfakdbmlfeaaDoor
open Go.RowKit Go.Maps
set_option linter.unusedVariables false
set_option linter.unusedSimpArgs false
theorem cov_self (a : ByteArray) : covR a a = patB (pcs a) := by
  unfold covR
  cases h : patB (pcs a)
  · rfl
  · have hp := (patB_iff a).1 h
    rw [faB_iff.2 ((cov_iff hp hp).2 (Cov.refl _))]
    rfl
theorem cov_all (a : ByteArray) : covR bHash a = patB (pcs a) := by
  unfold covR
  have h1 : patB (pcs bHash) = true := by decide +kernel
  have e1 : pcs bHash = [bHash] := by decide +kernel
  rw [h1, Bool.true_and]
  cases h : patB (pcs a)
  · rfl
  · have hp := (patB_iff a).1 h
    have hq := (patB_iff bHash).1 h1
    rw [faB_iff.2 ((cov_iff hq hp).2 (by rw [e1]; exact cov_hash _))]
    rfl
def errP (b : Bool) : Int := if b then 0 else 180
theorem cove_self (a : ByteArray) : covE a a = errP (patB (pcs a)) := by unfold covE errP; rw [Bool.and_self]
theorem cove_all (a : ByteArray) : covE bHash a = errP (patB (pcs a)) := by
  unfold covE errP
  have h1 : patB (pcs bHash) = true := by decide +kernel
  rw [h1, Bool.true_and]
theorem cov_tr {a b c : ByteArray} (ha : patB (pcs a) = true) (hb : patB (pcs b) = true) (hc : patB (pcs c) = true) (h1 : covR a b = true) (h2 : covR b c = true) : covR a c = true := by
  have pa := (patB_iff a).1 ha
  have pb := (patB_iff b).1 hb
  have pc := (patB_iff c).1 hc
  unfold covR at *
  rw [ha, hb, Bool.true_and, Bool.true_and, faB_iff, cov_iff pa pb] at h1
  rw [hb, hc, Bool.true_and, Bool.true_and, faB_iff, cov_iff pb pc] at h2
  rw [ha, hc, Bool.true_and, Bool.true_and, faB_iff, cov_iff pa pc]
  exact h1.trans h2
theorem cov_fit {a b t : ByteArray} (ha : patB (pcs a) = true) (hb : patB (pcs b) = true) (ht : topB (pcs t) = true) (h1 : covR a b = true) (h2 : fitB b t = true) : fitB a t = true := by
  have pa := (patB_iff a).1 ha
  have pb := (patB_iff b).1 hb
  have pt := (topB_iff t).1 ht
  unfold covR at h1
  unfold fitB at *
  rw [ha, hb, Bool.true_and, Bool.true_and, faB_iff, cov_iff pa pb] at h1
  rw [hb, ht, Bool.true_and, Bool.true_and] at h2
  rw [ha, ht, Bool.true_and, Bool.true_and]
  exact h1 _ pt h2
theorem cov_top {a t : ByteArray} (ha : patB (pcs a) = true) (ht : topB (pcs t) = true) : covR a t = fitB a t := by
  have pt := (topB_iff t).1 ht
  have hp : patB (pcs t) = true := (patB_iff t).2 pt.pat
  unfold covR fitB
  rw [ha, hp, ht, Bool.true_and, Bool.true_and, Bool.true_and, Bool.eq_iff_iff, faB_iff, fa_top pt]
def errT (b : Bool) : Int := if b then 0 else 82
theorem fitE_ok {a t : ByteArray} (ha : patB (pcs a) = true) : fitE a t = errT (topB (pcs t)) := by unfold fitE errT; rw [ha]; rfl
theorem fitB_no {a t : ByteArray} (ht : topB (pcs t) = false) : fitB a t = false := by unfold fitB; rw [ht]; simp
set_option maxHeartbeats 4000000 in
set_option maxRecDepth 100000 in
theorem means_walk (a b c t : ByteArray) (w : World) (ha : a.size ≤ 140737488351232) (hb : b.size ≤ 140737488351232) (hc : c.size ≤ 140737488351232) (ht : t.size ≤ 140737488351232) :
    Calls Tryd.prog 6 #[.string a, .string b, .string c, .string t] w fun e w' => e = .returned (.bool true) ∧ Below w.heap.size w w' := by
  have HCV : Hid (∀ (x y : ByteArray) (W : World), x.size ≤ 281474976710656 → y.size ≤ 281474976710656 → Below w.heap.size w W → Calls Tryd.prog 11 #[.string x, .string y] W fun e w' => e = .returned (.tuple #[.bool (covR x y), .int .i64 (covE x y)]) ∧ Hid (Below w.heap.size w w')) := fun x y W h1 h2 h3 =>
    (Covers_any x y h1 h2 W).mono fun e w' ⟨q1, q2⟩ => ⟨q1, belOn h3 h3.size q2⟩
  have HFT : Hid (∀ (x y : ByteArray) (W : World), x.size ≤ 281474976710656 → y.size ≤ 281474976710656 → Below w.heap.size w W → Calls Tryd.prog 9 #[.string x, .string y] W fun e w' => e = .returned (.tuple #[.bool (fitB x y), .int .i64 (fitE x y)]) ∧ Hid (Below w.heap.size w w')) := fun x y W h1 h2 h3 =>
    (Fits_any x y h1 h2 W).mono fun e w' ⟨q1, q2⟩ => ⟨q1, belOn h3 h3.size q2⟩
  go_enter Tryd.func6, Tryd.ntmps6
  go_wp2_with fail
  refine (awake_any w).mono ?_
  rintro e w0 ⟨rfl, hb0⟩
  go_wp2_with fail
  refine (HCV.out a a w0 (by omega) (by omega) hb0).mono ?_
  rintro e w1 ⟨rfl, hb1⟩
  rw [cov_self, cove_self]
  go_wp2_with fail
  refine (HCV.out b b w1 (by omega) (by omega) hb1.out).mono ?_
  rintro e w2 ⟨rfl, hb2⟩
  rw [cov_self, cove_self]
  go_wp2_with fail
  refine (HCV.out c c w2 (by omega) (by omega) hb2.out).mono ?_
  rintro e w3 ⟨rfl, hb3⟩
  rw [cov_self, cove_self]
  go_wp2_with fail
  refine (HCV.out bHash a w3 (by decide) (by omega) hb3.out).mono ?_
  rintro e w4 ⟨rfl, hb4⟩
  rw [cov_all, cove_all]
  clear hb0 hb1 hb2 hb3
  cases pa : patB (pcs a) <;> cases pb : patB (pcs b) <;> cases pc : patB (pcs c)
  case true.true.true =>
    have HA := hide pa
    have HB := hide pb
    have HC := hide pc
    clear pa pb pc
    simp only [errP]
    go_wp2_with fail
    refine (HCV.out a b w4 (by omega) (by omega) hb4.out).mono ?_
    rintro e w5 ⟨rfl, hb5⟩
    go_wp2_with fail
    refine (HCV.out b c w5 (by omega) (by omega) hb5.out).mono ?_
    rintro e w6 ⟨rfl, hb6⟩
    go_wp2_with fail
    refine (HCV.out a c w6 (by omega) (by omega) hb6.out).mono ?_
    rintro e w7 ⟨rfl, hb7⟩
    clear hb4 hb5 hb6
    have HTR : Hid (covR a b = true → covR b c = true → covR a c = false → False) := fun q1 q2 q3 => by
      rw [cov_tr HA.out HB.out HC.out q1 q2] at q3
      cases q3
    have HCF : Hid (topB (pcs t) = true → covR a b = true → fitB b t = true → fitB a t = true) := fun q0 q1 q2 => cov_fit HA.out HB.out q0 q1 q2
    have HCT : Hid (topB (pcs t) = true → covR a t = fitB a t) := fun q0 => cov_top HA.out q0
    have HEA : Hid (fitE a t = errT (topB (pcs t))) := fitE_ok HA.out
    have HEB : Hid (fitE b t = errT (topB (pcs t))) := fitE_ok HB.out
    cases q1 : covR a b <;> cases q2 : covR b c <;> cases q3 : covR a c
    case true.true.false => exact (HTR.out q1 q2 q3).elim
    all_goals
      have Q1 := hide q1
      clear q1 q2 q3
      go_wp2_with fail
      refine (HFT.out a t w7 (by omega) (by omega) hb7.out).mono ?_
      rintro e w8 ⟨rfl, hb8⟩
      rw [HEA.out]
      go_wp2_with fail
      refine (HFT.out b t w8 (by omega) (by omega) hb8.out).mono ?_
      rintro e w9 ⟨rfl, hb9⟩
      rw [HEB.out]
      cases pt : topB (pcs t)
      · rw [fitB_no pt, fitB_no pt]
        clear pt
        simp only [errT]
        go_wp2
        go_ret
        exact ⟨rfl, hb9.out⟩
      · have PT := hide pt
        clear pt
        simp only [errT]
        go_wp2_with fail
        refine (HCV.out a t w9 (by omega) (by omega) hb9.out).mono ?_
        rintro e w10 ⟨rfl, hb10⟩
        rw [HCT.out PT.out]
        have HL : Hid (∀ x, fitB a t = false → fitB b t = x → covR a b = true → x = false) := fun x z1 z2 z3 => by
          cases x
          · rfl
          · rw [HCF.out PT.out z3 z2] at z1; cases z1
        cases z1 : fitB a t <;> cases z2 : fitB b t
        all_goals
          first
          | (exfalso; exact absurd (HL.out true z1 z2 Q1.out) (by decide))
          | (clear z1 z2
             go_wp2
             go_ret
             exact ⟨rfl, hb10.out⟩)
  all_goals
    clear pa pb pc
    simp only [errP]
    go_wp2
    go_ret
    exact ⟨rfl, hb4.out⟩
end Go.Proofs.YtmanfakdbmlfeaaDoor
