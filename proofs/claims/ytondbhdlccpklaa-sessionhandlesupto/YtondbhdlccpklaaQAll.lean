
/- Stage 13: way, Range, Arrive, Forget, Local. -/
import Derived.Test.YtondbhdlccpklaaQFrom
namespace Go.Proofs.Ytondbhdlccpklaa
open Go.RowKit Go.Maps
set_option linter.unusedVariables false
set_option linter.unusedSimpArgs false

def Sn.way (s : Sn) (sending : Bool) : Nat := if sending then s.bs else s.bc
set_option maxRecDepth 100000 in
theorem way_any (g : Nat) (s : Sn) (sending : Bool) (w : World) (hS : SB w g s) :
    Calls Try.prog 57 #[.pointer (some ⟨g, 0, none⟩), .bool sending] w fun e w' => e = .returned (.map (some (s.way sending))) ∧ w' = w := by
  obtain ⟨s0, s1, s2, s3, s4, s5, s6, s7, s8, s9, s10, s11, s12, s13, s14, s15, s16⟩ := hS.facts
  have hl := hS.lt
  clear hS
  cases sending
  · go_enter Try.func57, Try.ntmps57
    go_wp2
    go_ret
    exact ⟨rfl, rfl⟩
  · go_enter Try.func57, Try.ntmps57
    go_wp2
    go_ret
    exact ⟨rfl, rfl⟩
def rangeL (L : List (Int × Pd)) (first last : Int) : List Pd := if isW first && isW last then rgL L first last else []
set_option maxRecDepth 100000 in
theorem range_any (g : Nat) (s : Sn) (sending : Bool) (L : List (Int × Pd)) (first last : Int) (w : World) (hS : SB w g s) (hT : TbP w (s.way sending) L) (hw : Words L) (hL : L.length ≤ 4294967296) :
    Calls Try.prog 29 #[.pointer (some ⟨g, 0, none⟩), .bool sending, .int .i64 first, .int .i64 last] w fun e w' => ∃ v, e = .returned v ∧ OwnP w' w.heap.size v (rangeL L first last) ∧ Below w.heap.size w w' := by
  obtain ⟨W0, hW0⟩ : ∃ W0, w.alloc (.cells #[.int .i64 first, .int .i64 last] 3) = W0 := ⟨_, rfl⟩
  have HB0 : Hid (Below w.heap.size w W0) := hW0 ▸ bel1 (Below.refl _ _) (Nat.le_refl _) _
  have hs0 : W0.heap.size = w.heap.size + 1 := by rw [← hW0]; simp
  have HA := hide (areWords_any w.heap.size [first, last] W0 (by omega) (by simp) (by
    intro j hj
    have : j = 0 ∨ j = 1 := by simp at hj; omega
    rw [← hW0]
    rcases this with rfl | rfl <;> simp))
  have HWy := hide (way_any g s sending W0 (hS.at (HB0.out.block g hS.lt)))
  have HW0 := hide hW0
  unfold rangeL
  cases hx : isW first && isW last
  · rw [show [first, last].all isW = false by simpa using hx] at HA
    rw [if_neg (by simp)]
    clear hS hT hw hL hx hs0 hW0 HWy
    go_enter Try.func29, Try.ntmps29
    go_wp2_with (go_at_call 55; rw [HW0.out]; refine HA.out.mono ?_; rintro e1 w1 ⟨rfl, rfl⟩)
    go_ret
    exact ⟨_, rfl, ⟨rfl, .inl ⟨rfl, rfl⟩⟩, HB0.out⟩
  · rw [show [first, last].all isW = true by simpa using hx] at HA
    rw [if_pos rfl]
    rw [Bool.and_eq_true] at hx
    have HFr := hide (from_any (s.way sending) L first last W0 (hT.at (HB0.out.block _ hT.lt)) hw (isW_iff.1 hx.1) hL)
    have HSz := hide hs0
    clear hS hT hw hL hx hs0 hW0
    go_enter Try.func29, Try.ntmps29
    go_wp2_with (first | (go_at_call 55; rw [HW0.out]; refine HA.out.mono ?_; rintro e1 w1 ⟨rfl, rfl⟩) | (go_at_call 57; refine HWy.out.mono ?_; rintro e2 w2 ⟨rfl, rfl⟩) | (go_at_call 58; refine HFr.out.mono ?_; rintro e3 w3 ⟨v, rfl, h1, h2⟩))
    go_ret
    refine ⟨_, rfl, own_lower h1 (by have := HSz.out; omega), belOn HB0.out (by have := HSz.out; omega) h2⟩
set_option maxRecDepth 100000 in
theorem arrive_arg (g : Nat) (id h : Int) (tag : ByteArray) (settled : Bool) (w : World) (hi : isW id = false) :
    Calls Try.prog 28 #[.pointer (some ⟨g, 0, none⟩), .int .i64 id, .int .i64 h, .string tag, .bool settled] w fun e w' => e = .returned (.int .i64 1) ∧ Below w.heap.size w w' := by
  have HA := hide (areWords_any w.heap.size [id] (w.alloc (.cells #[.int .i64 id] 3)) (by simp) (by simp) (by
    intro j hj
    obtain rfl : j = 0 := by simp at hj; omega
    simp))
  rw [show [id].all isW = false by simp [hi]] at HA
  clear hi
  go_enter Try.func28, Try.ntmps28
  go_wp2_with (go_at_call 55; refine HA.out.mono ?_; rintro e1 w1 ⟨rfl, rfl⟩)
  go_ret
  exact ⟨rfl, bel1 (Below.refl _ _) (Nat.le_refl _) _⟩
set_option maxRecDepth 100000 in
theorem arrive_no (g : Nat) (s : Sn) (H : List (Int × Int)) (L : List (Int × Pd)) (id h : Int) (tag : ByteArray) (settled : Bool) (w : World) (hi : isW id = true) (hS : SB w g s) (hT : TbI w s.bh H) (hL : TbP w s.bc L) (hh : wf64 h) (hE : noteE H L id h ≠ 0 ∨ settled = true) :
    Calls Try.prog 28 #[.pointer (some ⟨g, 0, none⟩), .int .i64 id, .int .i64 h, .string tag, .bool settled] w fun e w' => e = .returned (.int .i64 (noteE H L id h)) ∧ Below w.heap.size w w' := by
  obtain ⟨W0, hW0⟩ : ∃ W0, w.alloc (.cells #[.int .i64 id] 3) = W0 := ⟨_, rfl⟩
  have HB0 : Hid (Below w.heap.size w W0) := hW0 ▸ bel1 (Below.refl _ _) (Nat.le_refl _) _
  have hs0 : W0.heap.size = w.heap.size + 1 := by rw [← hW0]; simp
  have HA := hide (areWords_any w.heap.size [id] W0 (by omega) (by simp) (by
    intro j hj
    obtain rfl : j = 0 := by simp at hj; omega
    rw [← hW0]
    simp))
  rw [show [id].all isW = true by simp [hi]] at HA
  have hS0 := hS.at (HB0.out.block g hS.lt)
  have HN := hide (note_no g s H s.bc L id h tag settled W0 hS0 (hT.at (HB0.out.block _ hT.lt)) (hL.at (HB0.out.block _ hL.lt)) (wf_word (isW_iff.1 hi)) hh hE)
  obtain ⟨s0, s1, s2, s3, s4, s5, s6, s7, s8, s9, s10, s11, s12, s13, s14, s15, s16⟩ := hS0.facts
  have hl := hS0.lt
  have HW0 := hide hW0
  have HSz := hide hs0
  clear hi hS hT hL hh hE hS0 hs0 hW0
  go_enter Try.func28, Try.ntmps28
  go_wp2_with (first | (go_at_call 55; rw [HW0.out]; refine HA.out.mono ?_; rintro e1 w1 ⟨rfl, rfl⟩) | (go_at_call 56; refine HN.out.mono ?_; rintro e2 w2 ⟨rfl, hb2⟩))
  go_ret
  exact ⟨rfl, belOn HB0.out (by have := HSz.out; omega) hb2⟩
set_option maxRecDepth 100000 in
theorem arrive_yes (g : Nat) (s : Sn) (H : List (Int × Int)) (L : List (Int × Pd)) (id h : Int) (tag : ByteArray) (w : World) (hi : isW id = true) (hS : SB w g s) (hT : TbI w s.bh H) (hL : TbP w s.bc L) (hh : wf64 h) (hE : noteE H L id h = 0) (hm : L.length < maxLen) :
    Calls Try.prog 28 #[.pointer (some ⟨g, 0, none⟩), .int .i64 id, .int .i64 h, .string tag, .bool false] w fun e w' => e = .returned (.int .i64 0) ∧ TbP w' s.bc ((id, (id, h, tag)) :: L) ∧ Kp (fun q => q = s.bc) w w' := by
  obtain ⟨W0, hW0⟩ : ∃ W0, w.alloc (.cells #[.int .i64 id] 3) = W0 := ⟨_, rfl⟩
  have HB0 : Hid (Below w.heap.size w W0) := hW0 ▸ bel1 (Below.refl _ _) (Nat.le_refl _) _
  have hs0 : W0.heap.size = w.heap.size + 1 := by rw [← hW0]; simp
  have HA := hide (areWords_any w.heap.size [id] W0 (by omega) (by simp) (by
    intro j hj
    obtain rfl : j = 0 := by simp at hj; omega
    rw [← hW0]
    simp))
  rw [show [id].all isW = true by simp [hi]] at HA
  have hS0 := hS.at (HB0.out.block g hS.lt)
  have HN := hide (note_yes g s H s.bc L id h tag W0 hS0 (hT.at (HB0.out.block _ hT.lt)) (hL.at (HB0.out.block _ hL.lt)) (wf_word (isW_iff.1 hi)) hh hE hm)
  obtain ⟨s0, s1, s2, s3, s4, s5, s6, s7, s8, s9, s10, s11, s12, s13, s14, s15, s16⟩ := hS0.facts
  have hl := hS0.lt
  have HW0 := hide hW0
  clear hi hS hT hL hh hE hS0 hs0 hW0
  go_enter Try.func28, Try.ntmps28
  go_wp2_with (first | (go_at_call 55; rw [HW0.out]; refine HA.out.mono ?_; rintro e1 w1 ⟨rfl, rfl⟩) | (go_at_call 56; refine HN.out.mono ?_; rintro e2 w2 ⟨rfl, t2, k2⟩))
  go_ret
  exact ⟨rfl, t2, (Kp.ofBelow HB0.out).trans k2⟩
set_option maxRecDepth 100000 in
theorem forget_no (g : Nat) (s : Sn) (sending : Bool) (L : List (Int × Pd)) (id : Int) (w : World) (hS : SB w g s) (hT : TbP w (s.way sending) L) (hi : wf64 id) (hh : hasK L id = false) :
    Calls Try.prog 31 #[.pointer (some ⟨g, 0, none⟩), .bool sending, .int .i64 id] w fun e w' => e = .returned (.int .i64 131) ∧ Below w.heap.size w w' := by
  have HWy := hide (way_any g s sending w hS)
  have HP := hide (hasP_any (s.way sending) L id w hT hi)
  rw [hh] at HP
  clear hS hT hi hh
  go_enter Try.func31, Try.ntmps31
  go_wp2_with (first | (go_at_call 57; refine HWy.out.mono ?_; rintro e2 w2 ⟨rfl, rfl⟩) | (go_at_call 59; refine HP.out.mono ?_; rintro e3 w3 ⟨rfl, hb3⟩))
  go_ret
  exact ⟨rfl, hb3⟩
set_option maxRecDepth 100000 in
theorem forget_yes (g : Nat) (s : Sn) (sending : Bool) (L : List (Int × Pd)) (id : Int) (w : World) (hS : SB w g s) (hT : TbP w (s.way sending) L) (hi : wf64 id) (hh : hasK L id = true) :
    Calls Try.prog 31 #[.pointer (some ⟨g, 0, none⟩), .bool sending, .int .i64 id] w fun e w' => e = .returned (.int .i64 0) ∧ TbP w' (s.way sending) (L.filter fun p => p.1 != id) ∧ Kp (fun q => q = s.way sending) w w' := by
  have HWy := hide (way_any g s sending w hS)
  have HP := hide (hasP_any (s.way sending) L id w hT hi)
  have HT := hide hT
  have HI := hide hi
  rw [hh] at HP
  clear hS hT hi hh
  go_enter Try.func31, Try.ntmps31
  go_wp2_with (first | (go_at_call 57; refine HWy.out.mono ?_; rintro e2 w2 ⟨rfl, rfl⟩) | (go_at_call 59; refine HP.out.mono ?_; rintro e3 w3 ⟨rfl, hb3⟩) | (at_delete; refine del_P rfl _ _ rfl (s.way sending) rfl id rfl L (HT.out.at (hb3.block _ HT.out.lt)) HI.out ?_; intro w4 t4 k4 z4))
  go_ret
  exact ⟨rfl, t4, (Kp.ofBelow hb3).trans k4⟩
set_option maxRecDepth 100000 in
theorem local_any (g : Nat) (s : Sn) (R : List (Int × Int)) (remote : Int) (w : World) (hS : SB w g s) (hT : TbI w s.br R) (hi : wf64 remote) :
    Calls Try.prog 33 #[.pointer (some ⟨g, 0, none⟩), .int .i64 remote] w fun e w' => e = .returned (.tuple #[.int .i64 (lu 0 R remote), .bool (hasK R remote)]) ∧ w' = w := by
  obtain ⟨s0, s1, s2, s3, s4, s5, s6, s7, s8, s9, s10, s11, s12, s13, s14, s15, s16⟩ := hS.facts
  have hl := hS.lt
  have HT := hide hT
  have HI := hide hi
  clear hS hT hi
  go_enter Try.func33, Try.ntmps33
  go_wp2_with (at_lookup; refine look_I rfl _ _ rfl s.br rfl remote rfl R HT.out HI.out ?_)
  go_ret2
  exact ⟨rfl, rfl⟩
end Go.Proofs.Ytondbhdlccpklaa
