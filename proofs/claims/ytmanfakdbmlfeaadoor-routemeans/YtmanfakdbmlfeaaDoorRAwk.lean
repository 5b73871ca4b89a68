
/- Stage 18: the chapter's first examples. -/
import Derived.Test.YtmanfakdbmlfeaaDoorRMat
import Derived.Test.YtmanfakdbmlfeaaDoorRBind
namespace Go.Proofs.YtmanfakdbmlfeaaDoor
open Go.RowKit Go.Maps
set_option linter.unusedVariables false
set_option linter.unusedSimpArgs false
def s1 : ByteArray := ⟨#[97, 46, 42, 46, 99]⟩
def s2 : ByteArray := ⟨#[97, 46, 98, 46, 99]⟩
def s3 : ByteArray := ⟨#[97, 46, 35]⟩
def s4 : ByteArray := ⟨#[97, 46, 42]⟩
def s5 : ByteArray := ⟨#[113, 117, 101, 117, 101, 47, 113]⟩
def s6 : ByteArray := ⟨#[113]⟩
def s7 : ByteArray := ⟨#[97, 46, 98]⟩
theorem aw1 : fitB s1 s2 = true ∧ fitE s1 s2 = 0 := ⟨by decide +kernel, by decide +kernel⟩
theorem aw2 : covR s3 s4 = true ∧ covE s3 s4 = 0 := by
  refine ⟨?_, by decide +kernel⟩
  unfold covR
  have h1 : patB (pcs s3) = true := by decide +kernel
  have h2 : patB (pcs s4) = true := by decide +kernel
  rw [h1, h2, Bool.true_and, Bool.true_and]
  have e4 : pcs s4 = [⟨#[97]⟩, bStar] := by decide +kernel
  rw [e4, faB_one _ _ _ (by decide), faB_one _ _ _ (by decide), faB_nil (by simp) (by simp)]
  decide +kernel
theorem aw3 : adr s5 = (1, s6, 0) := by decide +kernel
theorem aw4 : patB (pcs s4) = true ∧ nam s6 = true ∧ topB (pcs s7) = true := ⟨by decide +kernel, by decide +kernel, by decide +kernel⟩
theorem aw5 : qof s7 [(s4, s6)] = [s6] := by decide +kernel
theorem aw6 : cmpct (srt [s6]) = [s6] := by
  have : srt [s6] = [s6] := by simp [srt, bOf_tL]
  rw [this]
  decide +kernel
theorem belOn' {B : Nat} {w w1 w2 : World} {m : Nat} (h : Below B w w1) (k : Kp (fun q => q = m) w1 w2) (hm : B ≤ m) (hB : B ≤ w.heap.size) : Below B w w2 :=
  ⟨k.1.trans h.os, k.2.1.trans h.tape, k.2.2.1.trans h.output, Nat.le_trans h.size k.size, fun q hq => by
    by_cases hlt : q < w1.heap.size
    · exact (Kp.block k hlt (by omega)).trans (h.block q hq)
    · exact absurd (Nat.lt_of_lt_of_le hq (Nat.le_trans hB h.size)) hlt⟩
set_option maxHeartbeats 4000000 in
theorem awake_any (w : World) : Calls Tryd.prog 8 #[] w fun e w' => e = .returned (.bool true) ∧ Below w.heap.size w w' := by
  go_enter Tryd.func8, Tryd.ntmps8
  go_wp2_with fail
  refine (Fits_any s1 s2 (by decide) (by decide) w).mono ?_
  rintro e w1 ⟨rfl, hb1⟩
  rw [aw1.1, aw1.2]
  go_wp2_with fail
  refine (Covers_any s3 s4 (by decide) (by decide) w1).mono ?_
  rintro e w2 ⟨rfl, hb2⟩
  rw [aw2.1, aw2.2]
  go_wp2_with fail
  refine (Address_any s5 (by decide) w2).mono ?_
  rintro e w3 ⟨rfl, hb3⟩
  rw [aw3]
  go_wp2_with fail
  refine (new_any w3).mono ?_
  rintro e w4 ⟨r, m, rfl, hR, hr, hm, hb4⟩
  have HB4 : Hid (Below w.heap.size w w4) := belOn (belOn (belOn hb1 hb1.size hb2) (Nat.le_trans hb1.size hb2.size) hb3) (Nat.le_trans hb1.size (Nat.le_trans hb2.size hb3.size)) hb4
  have hr0 : w.heap.size ≤ r := Nat.le_trans (Nat.le_trans hb1.size (Nat.le_trans hb2.size hb3.size)) hr
  have hm0 : w.heap.size ≤ m := Nat.le_trans (Nat.le_trans hb1.size (Nat.le_trans hb2.size hb3.size)) hm
  have HBI := hide (bind_put w4 r m [] s4 s6 hR (by decide) (by decide) aw4.1 aw4.2.1 rfl (by decide))
  clear hb1 hb2 hb3 hb4 hR hr hm
  go_wp2_with fail
  refine HBI.out.mono ?_
  rintro e w5 ⟨rfl, hR5, hk5⟩
  have HB5 : Hid (Below w.heap.size w w5) := belOn' HB4.out hk5 hm0 (Nat.le_refl _)
  have HM := hide (match_yes w5 r m [(s4, s6)] s7 hR5 (fun b hb => by rw [List.mem_singleton] at hb; subst hb; exact ⟨aw4.1, by decide, by decide⟩) (by decide) (by decide) aw4.2.2)
  clear hR5 hk5
  go_wp2_with fail
  refine HM.out.mono ?_
  rintro e w6 ⟨v, W, rfl, hw6, hp6, hb6⟩
  have hW : W = [s6] := by rw [aw5] at hp6; exact List.perm_singleton.1 hp6
  subst hW
  rw [aw6] at hw6
  obtain ⟨g, off, c, rfl, hc, hmc, hx⟩ := hw6.tl (by simp)
  have hcell := hx.2 0 s6 rfl
  rw [Nat.add_zero] at hcell
  have HB6 : Hid (Below w.heap.size w w6) := belOn HB5.out HB5.out.size hb6
  have e6 : s6.toList = [113] := by rw [Lib.toList_data]; rfl
  clear hw6 hp6 hb6 hx
  go_wp2
  go_ret
  exact ⟨rfl, HB6.out⟩
end Go.Proofs.YtmanfakdbmlfeaaDoor
