
/- Stage 18: Bind, whatever it answers. -/
import Derived.Test.YtmanfakdbmlfeaaDoorRBind
import Derived.Test.YtmanfakdbmlfeaaDoorRMat
namespace Go.Proofs.YtmanfakdbmlfeaaDoor
open Go.RowKit Go.Maps
set_option linter.unusedVariables false
set_option linter.unusedSimpArgs false
set_option maxHeartbeats 4000000 in
theorem bind_no (w : World) (r m : Nat) (L : List Bd) (p q : ByteArray) (hR : RtM w r m L) (hp : p.size ≤ 281474976710656) (hq : q.size ≤ 281474976710656) (hE : bindE L (p, q) ≠ 0) :
    Calls Tryd.prog 16 #[.pointer (some ⟨r, 0, none⟩), bdV (p, q)] w fun e w' => e = .returned (.int .i64 (bindE L (p, q))) ∧ RtM w' r m L ∧ Below w.heap.size w w' := by
  have n1 := nil_yes
  have n2 := nil_no
  have hok : okB (p, q) := ⟨by show p.size ≤ maxLen; unfold maxLen; omega, by show q.size ≤ maxLen; unfold maxLen; omega⟩
  obtain ⟨W1, hW1⟩ : ∃ W1, W1 = w.alloc (.cells #[.string p, .string q] 36) := ⟨_, rfl⟩
  have hz1 : W1.heap.size = w.heap.size + 1 := by rw [hW1]; simp
  have HW1b : Hid (Below w.heap.size w W1) := by rw [hW1]; exact bel1 (Below.refl _ _) (Nat.le_refl _) _
  have hB1 : W1.heap[w.heap.size]? = some (.cells #[.string p, .string q] 36 (0, 0)) := by rw [hW1]; exact heap_new _ _
  have HSB : Hid (∀ W, Below (w.heap.size + 1) W1 W → W.cell? ⟨w.heap.size, 0, none⟩ = some (.string p) ∧ W.cell? ⟨w.heap.size, 1, none⟩ = some (.string q)) := fun W hb =>
    ⟨cellOf ((hb.block _ (by omega)).trans hB1) 0 _ rfl, cellOf ((hb.block _ (by omega)).trans hB1) 1 _ rfl⟩
  have HRW : Hid (∀ W, Below (w.heap.size + 1) W1 W → RtM W r m L) := fun W hb => (hR.keep HW1b.out).keep (by rw [hz1]; exact hb)
  have HFB : Hid (∀ W, Below (w.heap.size + 1) W1 W → Below w.heap.size w W) := fun W hb => HW1b.out.trans (hb.mono (by omega))
  have HHAS : Hid (∀ W, RtM W r m L → Calls Tryd.prog 36 #[.pointer (some ⟨r, 0, none⟩), .agg #[.string p, .string q]] W fun e w' => e = .returned (.bool (hasB L (p, q))) ∧ Below W.heap.size W w') := fun W h => has_any W r m L (p, q) h hok
  obtain ⟨E, hEe⟩ : ∃ E, E = bindE L (p, q) := ⟨_, rfl⟩
  have hE2 := hEe
  unfold bindE at hE2
  simp only at hE2
  rw [← hEe] at hE ⊢
  have HE2 := hide hE2
  have HE0 := hide hE
  have hle : w.heap.size + 1 ≤ W1.heap.size := by omega
  clear hEe hE2 hE
  unfold bdV
  go_enter Tryd.func16, Tryd.ntmps16
  go_wp2_with fail
  rw [← hW1]
  refine (patternOf_any p hp W1).mono ?_
  rintro e w1 ⟨hb1, ⟨hk, rfl⟩ | ⟨hk, g, c, rfl, hg, hc, h9, hx⟩⟩
  · have HG : Hid (E = 180) := by show _ = _; rw [HE2.out, hk]; rfl
    have HB1 : Hid (Below (w.heap.size + 1) W1 w1) := by rw [← hz1]; exact hb1
    clear hk hb1
    go_wp2
    go_ret
    exact ⟨by rw [HG.out]; rfl, HRW.out _ HB1.out, HFB.out _ HB1.out⟩
  have HB1 : Hid (Below (w.heap.size + 1) W1 w1) := by rw [← hz1]; exact hb1
  have HE3 : Hid (E = if nam q then (if hasB L (p, q) then 181 else if L.length = 256 then 183 else 0) else 82) := by show _ = _; rw [HE2.out, hk]; rfl
  clear hb1 hk hx
  obtain ⟨c1, c2⟩ := HSB.out w1 HB1.out
  go_wp2_with fail
  refine (isName_any q hq w1).mono ?_
  rintro e w2 ⟨rfl, rfl⟩
  cases hn : nam q
  · have HG : Hid (E = 82) := by show _ = _; rw [HE3.out, hn]; rfl
    clear hn
    go_wp2
    go_ret
    exact ⟨by rw [HG.out]; rfl, HRW.out _ HB1.out, HFB.out _ HB1.out⟩
  have HE4 : Hid (E = if hasB L (p, q) then 181 else if L.length = 256 then 183 else 0) := by show _ = _; rw [HE3.out, hn]; rfl
  clear hn HE3 HE2
  go_wp2_with fail
  refine (HHAS.out _ (HRW.out _ HB1.out)).mono ?_
  rintro e w3 ⟨rfl, hb3⟩
  have HB3 : Hid (Below (w.heap.size + 1) W1 w3) := belOn HB1.out (by have := HB1.out.size; omega) hb3
  clear hb3 c1 c2
  cases hh : hasB L (p, q)
  · have hl : L.length = 256 := by
      have h1 := HE4.out
      have h2 := HE0.out
      rw [hh] at h1
      by_cases e : L.length = 256
      · exact e
      · simp only [Bool.false_eq_true, if_false, e] at h1
        exact absurd h1 h2
    have HG : Hid (E = 183) := by show _ = _; rw [HE4.out, hh, if_pos hl]; rfl
    have hcr := (HRW.out _ HB3.out).cell
    have hln := len_run (HRW.out _ HB3.out).2
    have h4' : ((L.length : Int) == 256) = true := by rw [beq_iff_eq]; omega
    clear hh HE4 HE0
    go_wp2
    go_ret
    exact ⟨by rw [HG.out]; rfl, HRW.out _ HB3.out, HFB.out _ HB3.out⟩
  · have HG : Hid (E = 181) := by show _ = _; rw [HE4.out, hh]; rfl
    clear hh HE4 HE0
    go_wp2
    go_ret
    exact ⟨by rw [HG.out]; rfl, HRW.out _ HB3.out, HFB.out _ HB3.out⟩
theorem bind_any (w : World) (r m : Nat) (L : List Bd) (p q : ByteArray) (hR : RtM w r m L) (hp : p.size ≤ 281474976710656) (hq : q.size ≤ 281474976710656) (hL : L.length ≤ 256) :
    Calls Tryd.prog 16 #[.pointer (some ⟨r, 0, none⟩), bdV (p, q)] w fun e w' => e = .returned (.int .i64 (bindE L (p, q))) ∧ RtM w' r m (bindL L (p, q)) ∧ Kp (fun k => k = m) w w' := by
  by_cases hE : bindE L (p, q) = 0
  · have h1 : patB (pcs p) = true := by
      cases h : patB (pcs p)
      · unfold bindE at hE; simp [h] at hE
      · rfl
    have h2 : nam q = true := by
      cases h : nam q
      · unfold bindE at hE; simp [h1, h] at hE
      · rfl
    have h3 : hasB L (p, q) = false := by
      cases h : hasB L (p, q)
      · rfl
      · unfold bindE at hE; simp [h1, h2, h] at hE
    have h4 : L.length < 256 := by
      by_cases e : L.length = 256
      · unfold bindE at hE; simp [h1, h2, h3, e] at hE
      · omega
    have e : bindL L (p, q) = (p, q) :: L := by unfold bindL; rw [if_pos hE]
    rw [hE, e]
    exact bind_put w r m L p q hR hp hq h1 h2 h3 h4
  · have e : bindL L (p, q) = L := by unfold bindL; rw [if_neg hE]
    rw [e]
    exact (bind_no w r m L p q hR hp hq hE).mono fun e w' ⟨q1, q2, q3⟩ => ⟨q1, q2, Kp.ofBelow q3⟩
set_option maxHeartbeats 1000000 in
theorem match_no (w : World) (r : Nat) (t : ByteArray) (ht : t.size ≤ 281474976710656) (hT : topB (pcs t) = false) :
    Calls Tryd.prog 19 #[.pointer (some ⟨r, 0, none⟩), .string t] w fun e w' => e = .returned (.tuple #[.slice none 0 0, .int .i64 82]) ∧ Below w.heap.size w w' := by
  have n1 := nil_yes
  have n2 := nil_no
  go_enter Tryd.func19, Tryd.ntmps19
  go_wp2_with fail
  refine (topicOf_any t ht w).mono ?_
  rintro e w1 ⟨hb1, ⟨hk, rfl⟩ | ⟨hk, g, c, rfl, hg, hc, h9, hx⟩⟩
  · go_wp2
    go_ret2
    exact ⟨rfl, hb1⟩
  · rw [hT] at hk
    cases hk
end Go.Proofs.YtmanfakdbmlfeaaDoor
