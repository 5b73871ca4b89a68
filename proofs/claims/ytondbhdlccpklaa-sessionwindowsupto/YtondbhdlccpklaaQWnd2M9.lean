import Derived.Test.YtondbhdlccpklaaQWndM9
import Derived.Test.YtondbhdlccpklaaQSstM9

/- Stage 13: the law's windows: State, and any other kind. -/
namespace Go.Proofs.Ytondbhdlccpklaa
open Go.RowKit Go.Maps
set_option linter.unusedVariables false
set_option linter.unusedSimpArgs false

section
variable {w : World} {g g' : Nat} {B : Nat → Prop}
theorem Std.on {w w1 : World} {g g' : Nat} {B : Nat → Prop} (h : Std w g g' B) (b : Below w.heap.size w w1) : StdOn w g g' B w1 := ⟨B, h.below b, Kp.ofBelow b, fun k e => .inl e⟩
theorem state_both (h : Std w g g' B) : Calls Try.prog 13 #[.pointer (some ⟨g, 0, none⟩), .pointer (some ⟨g', 0, none⟩)] w fun e w' => e = .returned (.bool true) ∧ Below w.heap.size w w' := by
  obtain ⟨s, H, R, S, C, vh, vr, vs, va, hs, rs, Sr, Cr, t, h64, hB, hL⟩ := h
  obtain ⟨a, c, e1, _⟩ := t.b.os.rd
  obtain ⟨b, d, e2, _⟩ := t.b.oc.rd
  have hb := t.b.rb
  rw [e1, e2, pd_len t.al.ps, pd_len t.al.pc] at hb
  exact sameState_any g g' s S C vh vr a b c d w t.a.sb t.a.ts t.a.tc hb
set_option maxRecDepth 100000 in
set_option maxHeartbeats 2000000 in
theorem windows_state (o : Opd) (h : Std w g g' B) (hk : o.k = 16) :
    Calls Try.prog 48 #[.pointer (some ⟨g, 0, none⟩), .pointer (some ⟨g', 0, none⟩), .agg o.cells] w fun e w' => e = .returned (.bool true) ∧ StdOn w g g' B w' := by
  unfold Opd.cells
  obtain ⟨k, a, b, c, d, e, t, f⟩ := o
  dsimp only at hk ⊢
  subst hk
  obtain ⟨V, hV⟩ : ∃ V, w.alloc (.cells #[.int .i64 16, .int .i64 a, .int .i64 b, .int .i64 c, .int .i64 d, .int .i64 e, .string t, .bool f] 24) = V := ⟨_, rfl⟩
  have HB : Hid (Below w.heap.size w V) := hV ▸ bel1 (Below.refl _ _) (Nat.le_refl _) _
  have HV := hide hV
  have HP := hide (state_both (h.below HB.out))
  have HS := hide h
  clear hV h
  go_enter Try.func48, Try.ntmps48
  go_wp2_with fail
  rw [HV.out]
  refine HP.out.mono ?_
  rintro e1 w1 ⟨rfl, hb⟩
  have HB1 := hide (belOn HB.out HB.out.size hb)
  clear hb
  go_wp2
  go_ret
  exact ⟨rfl, HS.out.on HB1.out⟩
set_option maxRecDepth 100000 in
set_option maxHeartbeats 2000000 in
theorem windows_else (o : Opd) (h : Std w g g' B) (h1 : o.k ≠ 1) (h2 : o.k ≠ 2) (h3 : o.k ≠ 3) (h4 : o.k ≠ 4) (h5 : o.k ≠ 5) (h6 : o.k ≠ 6) (h7 : o.k ≠ 7) (h16 : o.k ≠ 16) :
    Calls Try.prog 48 #[.pointer (some ⟨g, 0, none⟩), .pointer (some ⟨g', 0, none⟩), .agg o.cells] w fun e w' => e = .returned (.bool true) ∧ StdOn w g g' B w' := by
  unfold Opd.cells
  obtain ⟨k, a, b, c, d, e, t, f⟩ := o
  dsimp only at h1 h2 h3 h4 h5 h6 h7 h16 ⊢
  have b1 : (k == 1) = false := by simp [h1]
  have b2 : (k == 2) = false := by simp [h2]
  have b3 : (k == 3) = false := by simp [h3]
  have b4 : (k == 4) = false := by simp [h4]
  have b5 : (k == 5) = false := by simp [h5]
  have b6 : (k == 6) = false := by simp [h6]
  have b7 : (k == 7) = false := by simp [h7]
  have b16 : (k == 16) = false := by simp [h16]
  have HS := hide h
  clear h h1 h2 h3 h4 h5 h6 h7 h16
  go_enter Try.func48, Try.ntmps48
  go_wp2
  go_ret
  exact ⟨rfl, HS.out.on (bel1 (Below.refl _ _) (Nat.le_refl _) _)⟩
end
end Go.Proofs.Ytondbhdlccpklaa
