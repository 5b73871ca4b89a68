
/- Stage 17: mayBe. -/
import Derived.Test.YtnbhifakfehefaaKOwn
namespace Go.Proofs.Ytnbhifakfehefaa
open Go.RowKit
set_option linter.unusedVariables false
set_option linter.unusedSimpArgs false
def It.may (x : It) : Bool := decide (1 ≤ x.seq ∧ 0 ≤ x.pri ∧ x.pri ≤ 9 ∧ -1 ≤ x.exp ∧ x.exp ≤ 1125899906842624 ∧ 0 ≤ x.cnt ∧ x.cnt ≤ 4294967295 ∧ x.hol = 0)
set_option maxRecDepth 100000 in
set_option maxHeartbeats 4000000 in
theorem may_any (x : It) (w : World) : Calls Try.prog 24 #[x.ent] w fun e w' => e = .returned (.bool x.may) ∧ Below w.heap.size w w' := by
  have HB : Hid (Below w.heap.size w (w.alloc (Obj.cells #[.int .i64 x.seq, .int .i64 x.pri, .int .i64 x.exp, .bool x.dur, .int .i64 x.cnt, .int .i64 x.hol, x.dat] 37))) := bel1 (Below.refl _ _) (Nat.le_refl _) _
  unfold It.ent
  rcases (show (x.seq < 1) ∨ (1 ≤ x.seq ∧ x.pri < 0) ∨ (1 ≤ x.seq ∧ 0 ≤ x.pri ∧ 9 < x.pri) ∨ (1 ≤ x.seq ∧ 0 ≤ x.pri ∧ x.pri ≤ 9 ∧ x.exp < -1) ∨ (1 ≤ x.seq ∧ 0 ≤ x.pri ∧ x.pri ≤ 9 ∧ -1 ≤ x.exp ∧ 1125899906842624 < x.exp) ∨ (1 ≤ x.seq ∧ 0 ≤ x.pri ∧ x.pri ≤ 9 ∧ -1 ≤ x.exp ∧ x.exp ≤ 1125899906842624 ∧ x.cnt < 0) ∨ (1 ≤ x.seq ∧ 0 ≤ x.pri ∧ x.pri ≤ 9 ∧ -1 ≤ x.exp ∧ x.exp ≤ 1125899906842624 ∧ 0 ≤ x.cnt ∧ 4294967295 < x.cnt) ∨ (1 ≤ x.seq ∧ 0 ≤ x.pri ∧ x.pri ≤ 9 ∧ -1 ≤ x.exp ∧ x.exp ≤ 1125899906842624 ∧ 0 ≤ x.cnt ∧ x.cnt ≤ 4294967295 ∧ x.hol ≠ 0) ∨ (1 ≤ x.seq ∧ 0 ≤ x.pri ∧ x.pri ≤ 9 ∧ -1 ≤ x.exp ∧ x.exp ≤ 1125899906842624 ∧ 0 ≤ x.cnt ∧ x.cnt ≤ 4294967295 ∧ x.hol = 0) by omega) with h0 | ⟨h0, h1⟩ | ⟨h0, h1, h2⟩ | ⟨h0, h1, h2, h3⟩ | ⟨h0, h1, h2, h3, h4⟩ | ⟨h0, h1, h2, h3, h4, h5⟩ | ⟨h0, h1, h2, h3, h4, h5, h6⟩ | ⟨h0, h1, h2, h3, h4, h5, h6, h7⟩ | ⟨h0, h1, h2, h3, h4, h5, h6, h7⟩
  · have HM : Hid (x.may = false) := by show _ = _; unfold It.may; exact decide_eq_false (fun h => by obtain ⟨a0, a1, a2, a3, a4, a5, a6, a7⟩ := h; first | omega | exact h7 a7)
    go_enter Try.func24, Try.ntmps24
    go_wp2
    go_ret
    exact ⟨by rw [HM.out]; first | rfl | (simp; omega), HB.out⟩
  · have HM : Hid (x.may = false) := by show _ = _; unfold It.may; exact decide_eq_false (fun h => by obtain ⟨a0, a1, a2, a3, a4, a5, a6, a7⟩ := h; first | omega | exact h7 a7)
    go_enter Try.func24, Try.ntmps24
    go_wp2
    go_ret
    exact ⟨by rw [HM.out]; first | rfl | (simp; omega), HB.out⟩
  · have HM : Hid (x.may = false) := by show _ = _; unfold It.may; exact decide_eq_false (fun h => by obtain ⟨a0, a1, a2, a3, a4, a5, a6, a7⟩ := h; first | omega | exact h7 a7)
    go_enter Try.func24, Try.ntmps24
    go_wp2
    go_ret
    exact ⟨by rw [HM.out]; first | rfl | (simp; omega), HB.out⟩
  · have HM : Hid (x.may = false) := by show _ = _; unfold It.may; exact decide_eq_false (fun h => by obtain ⟨a0, a1, a2, a3, a4, a5, a6, a7⟩ := h; first | omega | exact h7 a7)
    go_enter Try.func24, Try.ntmps24
    go_wp2
    go_ret
    exact ⟨by rw [HM.out]; first | rfl | (simp; omega), HB.out⟩
  · have HM : Hid (x.may = false) := by show _ = _; unfold It.may; exact decide_eq_false (fun h => by obtain ⟨a0, a1, a2, a3, a4, a5, a6, a7⟩ := h; first | omega | exact h7 a7)
    go_enter Try.func24, Try.ntmps24
    go_wp2
    go_ret
    exact ⟨by rw [HM.out]; first | rfl | (simp; omega), HB.out⟩
  · have HM : Hid (x.may = false) := by show _ = _; unfold It.may; exact decide_eq_false (fun h => by obtain ⟨a0, a1, a2, a3, a4, a5, a6, a7⟩ := h; first | omega | exact h7 a7)
    go_enter Try.func24, Try.ntmps24
    go_wp2
    go_ret
    exact ⟨by rw [HM.out]; first | rfl | (simp; omega), HB.out⟩
  · have HM : Hid (x.may = false) := by show _ = _; unfold It.may; exact decide_eq_false (fun h => by obtain ⟨a0, a1, a2, a3, a4, a5, a6, a7⟩ := h; first | omega | exact h7 a7)
    go_enter Try.func24, Try.ntmps24
    go_wp2
    go_ret
    exact ⟨by rw [HM.out]; first | rfl | (simp; omega), HB.out⟩
  · have HM : Hid (x.may = false) := by show _ = _; unfold It.may; exact decide_eq_false (fun h => by obtain ⟨a0, a1, a2, a3, a4, a5, a6, a7⟩ := h; first | omega | exact h7 a7)
    have hb : (x.hol == 0) = false := by rw [beq_eq_false_iff_ne]; exact h7
    go_enter Try.func24, Try.ntmps24
    go_wp2
    go_ret
    exact ⟨by rw [HM.out]; first | rfl | (simp; omega), HB.out⟩
  · have HM : Hid (x.may = true) := by show _ = _; unfold It.may; exact decide_eq_true ⟨h0, h1, h2, h3, h4, h5, h6, h7⟩
    have hb : (x.hol == 0) = true := by rw [beq_iff_eq]; exact h7
    clear h7
    go_enter Try.func24, Try.ntmps24
    go_wp2
    go_ret
    exact ⟨by rw [HM.out]; first | rfl | (simp; omega), HB.out⟩
end Go.Proofs.Ytnbhifakfehefaa
