import Derived.Test.YtondbhdlccpklaaQRefNM9
import Derived.Test.YtondbhdlccpklaaQFlowYM9

/- Stage 13: the document's windows. -/
namespace Go.Proofs.Ytondbhdlccpklaa
open Go.RowKit Go.Maps
set_option linter.unusedVariables false
set_option linter.unusedSimpArgs false

theorem rlesser_any (a b : Int) (w : World) : Calls Try.prog 80 #[.int .i64 a, .int .i64 b] w fun e w' => e = .returned (.int .i64 (lesser a b)) ∧ w' = w := by
  by_cases h : a < b
  · rw [show lesser a b = a by unfold lesser; rw [if_neg (by omega)]]
    go_enter Try.func80, Try.ntmps80
    go_wp2
    go_ret
    exact ⟨rfl, rfl⟩
  · rw [show lesser a b = b by unfold lesser; split <;> omega]
    go_enter Try.func80, Try.ntmps80
    go_wp2
    go_ret
    exact ⟨rfl, rfl⟩
section
variable (g : Nat) (s : Sn) (vh vr vs va : Value) (w : World)
set_option maxRecDepth 100000 in
theorem rroom_any (hS : RB w g s vh vr vs va) :
    Calls Try.prog 72 #[.pointer (some ⟨g, 0, none⟩)] w fun e w' => e = .returned (.int .i64 s.room) ∧ Below w.heap.size w w' := by
  obtain ⟨s0, s1, s2, s3, s4, s5, s6, s7, s8, s9, s10, s11, s12, s13, s14, s15, s16⟩ := hS.facts
  have hl := hS.lt
  clear hS
  cases hp : s.peer
  · rw [hp] at s1
    rw [show s.room = 0 by simp [Sn.room, hp]]
    clear hp
    go_enter Try.func72, Try.ntmps72
    go_wp2
    go_ret
    exact ⟨rfl, Below.refl _ _⟩
  · rw [hp] at s1
    rw [show s.room = lesser s.ri s.ow by simp [Sn.room, hp]]
    clear hp
    go_enter Try.func72, Try.ntmps72
    go_wp2_with fail
    all_goals
      first
        | (go_quiet ((go_at_call 80; exact Calls.quiet_of_same (rlesser_any _ _ _)))
           go_wp2
           go_ret
           exact ⟨rfl, below_drewN (Below.refl _ _) nq⟩)
        | (refine (rlesser_any _ _ _).mono ?_
           rintro e1 w1 ⟨rfl, rfl⟩
           go_wp2
           go_ret
           exact ⟨rfl, Below.refl _ _⟩)
end
end Go.Proofs.Ytondbhdlccpklaa


/- Stage 13: the document's Sent, Got, Widen, Peer. -/
namespace Go.Proofs.Ytondbhdlccpklaa
open Go.RowKit Go.Maps
set_option linter.unusedVariables false
set_option linter.unusedSimpArgs false

section
variable (g : Nat) (s : Sn) (vh vr vs va : Value) (w : World)
theorem RB.drewN {w : World} {g : Nat} {s : Sn} {vh vr vs va : Value} (h : RB w g s vh vr vs va) (n : Nat) : RB (w.drewN n) g s vh vr vs va := h
set_option maxRecDepth 100000 in
theorem rsent_no (hS : RB w g s vh vr vs va) (hr : s.room = 0) :
    Calls Try.prog 73 #[.pointer (some ⟨g, 0, none⟩)] w fun e w' => e = .returned (.int .i64 130) ∧ Below w.heap.size w w' := by
  have HR := hide (rroom_any g s vh vr vs va w hS)
  rw [hr] at HR
  clear hS hr
  go_enter Try.func73, Try.ntmps73
  go_wp2_with (go_at_call 72; refine HR.out.mono ?_; rintro e1 w1 ⟨rfl, hb1⟩)
  go_ret
  exact ⟨rfl, hb1⟩
set_option maxRecDepth 100000 in
theorem rsent_yes (hS : RB w g s vh vr vs va) (ho : s.ok) (hr : s.room ≠ 0) :
    Calls Try.prog 73 #[.pointer (some ⟨g, 0, none⟩)] w fun e w' => e = .returned (.int .i64 0) ∧ RB w' g s.sent vh vr vs va ∧ Kp (fun k => k = g) w w' := by
  have HR := hide (rroom_any g s vh vr vs va w hS)
  have HS := hide hS
  have hri := ho.ri
  obtain ⟨r, er⟩ : ∃ r, r = s.room := ⟨_, rfl⟩
  rw [← er] at HR hr
  have hrb : (r == 0) = false := by simp [hr]
  clear hS er hr ho
  go_enter Try.func73, Try.ntmps73
  go_wp2_with fail
  refine HR.out.mono ?_
  rintro e1 w1 ⟨rfl, hb1⟩
  have H1 := hide (HS.out.at (hb1.block g HS.out.lt))
  have HB := hide hb1
  obtain ⟨s0, s1, s2, s3, s4, s5, s6, s7, s8, s9, s10, s11, s12, s13, s14, s15, s16⟩ := H1.out.facts
  have f2 := H1.out.frozen 2
  have f6 := H1.out.frozen 6
  have hl := H1.out.lt
  clear hb1
  go_wp2_with (go_at_call 66; refine (radd_any _ _ _).mono ?_; rintro e2 w2 ⟨rfl, rfl⟩)
  go_ret
  exact ⟨rfl, (H1.out.set_no _).set_ri _, kp_self (kp_self (Kp.ofBelow HB.out) _ _) _ _⟩
set_option maxRecDepth 100000 in
theorem rgot_no (hS : RB w g s vh vr vs va) (hr : s.gotE ≠ 0) :
    Calls Try.prog 74 #[.pointer (some ⟨g, 0, none⟩)] w fun e w' => e = .returned (.int .i64 s.gotE) ∧ w' = w := by
  obtain ⟨s0, s1, s2, s3, s4, s5, s6, s7, s8, s9, s10, s11, s12, s13, s14, s15, s16⟩ := hS.facts
  have hl := hS.lt
  clear hS
  cases hp : s.peer
  · rw [hp] at s1
    rw [show s.gotE = 4 by simp [Sn.gotE, hp]]
    clear hr hp
    go_enter Try.func74, Try.ntmps74
    go_wp2
    go_ret
    exact ⟨rfl, rfl⟩
  · rw [hp] at s1
    by_cases hi : s.iw = 0
    · rw [hi] at s5
      rw [show s.gotE = 130 by simp [Sn.gotE, hp, hi]]
      clear hr hp
      go_enter Try.func74, Try.ntmps74
      go_wp2
      go_ret
      exact ⟨rfl, rfl⟩
    · exact absurd (by simp [Sn.gotE, hp, hi]) hr
set_option maxRecDepth 100000 in
theorem rgot_yes (hS : RB w g s vh vr vs va) (ho : s.ok) (hr : s.gotE = 0) :
    Calls Try.prog 74 #[.pointer (some ⟨g, 0, none⟩)] w fun e w' => e = .returned (.int .i64 0) ∧ RB w' g s.got vh vr vs va ∧ Kp (fun k => k = g) w w' := by
  have HS := hide hS
  obtain ⟨s0, s1, s2, s3, s4, s5, s6, s7, s8, s9, s10, s11, s12, s13, s14, s15, s16⟩ := hS.facts
  have hl := hS.lt
  have f4 := hS.frozen 4
  have f5 := hS.frozen 5
  have f7 := hS.frozen 7
  have hiw := ho.iw
  have hro := ho.ro
  clear hS ho
  cases hp : s.peer
  · simp [Sn.gotE, hp] at hr
  · by_cases hi : s.iw = 0
    · simp [Sn.gotE, hp, hi] at hr
    · rw [hp] at s1
      have hib : (s.iw == 0) = false := by simp [hi]
      clear hr hp
      by_cases hz : s.ro > 0
      · have e : s.got = { s with ni := (s.ni + 1) % 4294967296, iw := s.iw - 1, ro := s.ro - 1 } := by
          simp only [Sn.got, greater]
          congr 1
          split <;> omega
        have E := hide e
        clear e
        go_enter Try.func74, Try.ntmps74
        go_wp2_with (go_at_call 66; refine (radd_any _ _ _).mono ?_; rintro e2 w2 ⟨rfl, rfl⟩)
        go_ret
        exact ⟨rfl, (((HS.out.set_ni _).set_iw _).set_ro _).cast E.out.symm, kp_self (kp_self (kp_self (Kp.refl _ _) _ _) _ _) _ _⟩
      · have e : s.got = { s with ni := (s.ni + 1) % 4294967296, iw := s.iw - 1 } := by
          simp only [Sn.got, greater]
          congr 1
          split <;> omega
        have E := hide e
        clear e
        go_enter Try.func74, Try.ntmps74
        go_wp2_with (go_at_call 66; refine (radd_any _ _ _).mono ?_; rintro e2 w2 ⟨rfl, rfl⟩)
        go_ret
        exact ⟨rfl, ((HS.out.set_ni _).set_iw _).cast E.out.symm, kp_self (kp_self (Kp.refl _ _) _ _) _ _⟩
set_option maxRecDepth 100000 in
theorem rwiden_no (n : Int) (hn : isW n = false) :
    Calls Try.prog 77 #[.pointer (some ⟨g, 0, none⟩), .int .i64 n] w fun e w' => e = .returned (.int .i64 1) ∧ w' = w := by
  have HW := hide (word_any n w)
  rw [hn] at HW
  clear hn
  go_enter Try.func77, Try.ntmps77
  go_wp2_with (go_at_call 63; refine HW.out.mono ?_; rintro e1 w1 ⟨rfl, rfl⟩)
  go_ret
  exact ⟨rfl, rfl⟩
set_option maxRecDepth 100000 in
theorem rwiden_yes (n : Int) (hS : RB w g s vh vr vs va) (hn : isW n = true) :
    Calls Try.prog 77 #[.pointer (some ⟨g, 0, none⟩), .int .i64 n] w fun e w' => e = .returned (.int .i64 0) ∧ RB w' g { s with iw := greater s.iw n } vh vr vs va ∧ Kp (fun k => k = g) w w' := by
  have HW := hide (word_any n w)
  rw [hn] at HW
  clear hn
  have HS := hide hS
  obtain ⟨s0, s1, s2, s3, s4, s5, s6, s7, s8, s9, s10, s11, s12, s13, s14, s15, s16⟩ := hS.facts
  have f5 := hS.frozen 5
  have hl := hS.lt
  clear hS
  by_cases hz : n > s.iw
  · rw [show greater s.iw n = n by unfold greater; rw [if_pos (by omega)]]
    go_enter Try.func77, Try.ntmps77
    go_wp2_with (go_at_call 63; refine HW.out.mono ?_; rintro e1 w1 ⟨rfl, rfl⟩)
    go_ret
    exact ⟨rfl, HS.out.set_iw _, kp_self (Kp.refl _ _) _ _⟩
  · rw [show greater s.iw n = s.iw by unfold greater; rw [if_neg (by omega)]]
    go_enter Try.func77, Try.ntmps77
    go_wp2_with (go_at_call 63; refine HW.out.mono ?_; rintro e1 w1 ⟨rfl, rfl⟩)
    go_ret
    exact ⟨rfl, HS.out, Kp.refl _ _⟩
end
end Go.Proofs.Ytondbhdlccpklaa
