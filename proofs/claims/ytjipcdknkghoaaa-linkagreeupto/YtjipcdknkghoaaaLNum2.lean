
/- Stage 14: the link's numbers: Grant, Drained, Flow. -/
import Derived.Test.YtjipcdknkghoaaaLNum
namespace Go.Proofs.Ytjipcdknkghoaaa
open Go.RowKit
set_option linter.unusedVariables false
set_option linter.unusedSimpArgs false

theorem LB.drewN {w : World} {g : Nat} {l : Lk} (h : LB w g l) (n : Nat) : LB (w.drewN n) g l := h
theorem Kp.drewN {S : Nat → Prop} {w w' : World} (h : Kp S w w') (n : Nat) : Kp S w (w'.drewN n) := h
def Lk.grant (l : Lk) (c : Int) (d : Bool) : Lk := { l with cr := c, dr := d && decide (0 < c), bd := if 0 < gapZ l.bd ((l.ct + c) % 4294967296) then (l.ct + c) % 4294967296 else l.bd }
set_option maxRecDepth 100000 in
theorem grant_any (g : Nat) (l : Lk) (c : Int) (d : Bool) (w : World) (h : LB w g l) (hr : l.rc = true) (hc : isIn c 2147483647 = true) :
    Calls Try.prog 20 #[.pointer (some ⟨g, 0, none⟩), .int .i64 c, .bool d] w fun e w' => e = .returned (.int .i64 0) ∧ LB w' g (l.grant c d) ∧ Kp (fun k => k = g) w w' := by
  obtain ⟨s0, s1, s2, s3, s4, s5, s6, s7, s8, s9, s10, s11⟩ := h.facts
  have f3 := h.frozen 3
  have f5 := h.frozen 5
  have f10 := h.frozen 10
  have hl := h.lt
  have HL := hide h
  have HC := hide hc
  rw [hr] at s1
  clear h s0 s4 s6 s7 s8 s9 s11 hc hr
  obtain ⟨nm, rc, ct, cr, av, dr, sm, rm, fi, bd, dm⟩ := l
  dsimp only at *
  by_cases hp : 0 < c
  · by_cases hg : 0 < gapZ bd ((ct + c) % 4294967296)
    · cases d
      all_goals
        go_enter Try.func20, Try.ntmps20
        go_wp2_with (first | (go_at_call 40; refine (within_any _ _ _).mono ?_; rintro e1 w1 ⟨rfl, rfl⟩; rw [HC.out]) | (go_at_call 41; refine (add_any _ _ _).mono ?_; rintro e1 w1 ⟨rfl, rfl⟩) | (go_at_call 42; refine (before_any _ _ _).mono ?_; rintro e1 w1 ⟨rfl, rfl⟩))
        go_ret
        exact ⟨rfl, (((HL.out.set_cr _).set_dr _).set_bd _).cast (by simp [Lk.grant, hp, hg]), kp_self (kp_self (kp_self (Kp.refl _ _) _ _) _ _) _ _⟩
    · cases d
      all_goals
        go_enter Try.func20, Try.ntmps20
        go_wp2_with (first | (go_at_call 40; refine (within_any _ _ _).mono ?_; rintro e1 w1 ⟨rfl, rfl⟩; rw [HC.out]) | (go_at_call 41; refine (add_any _ _ _).mono ?_; rintro e1 w1 ⟨rfl, rfl⟩) | (go_at_call 42; refine (before_any _ _ _).mono ?_; rintro e1 w1 ⟨rfl, rfl⟩))
        go_ret
        exact ⟨rfl, ((HL.out.set_cr _).set_dr _).cast (by unfold Lk.grant; dsimp only; rw [if_neg (show ¬ 0 < gapZ bd ((ct + c) % 4294967296) by omega)]; simp [hp]), kp_self (kp_self (Kp.refl _ _) _ _) _ _⟩
  · by_cases hg : 0 < gapZ bd ((ct + c) % 4294967296)
    · cases d
      all_goals
        go_enter Try.func20, Try.ntmps20
        go_wp2_with (first | (go_at_call 40; refine (within_any _ _ _).mono ?_; rintro e1 w1 ⟨rfl, rfl⟩; rw [HC.out]) | (go_at_call 41; refine (add_any _ _ _).mono ?_; rintro e1 w1 ⟨rfl, rfl⟩) | (go_at_call 42; refine (before_any _ _ _).mono ?_; rintro e1 w1 ⟨rfl, rfl⟩))
        go_ret
        exact ⟨rfl, (((HL.out.set_cr _).set_dr _).set_bd _).cast (by simp [Lk.grant, hp, hg]), kp_self (kp_self (kp_self (Kp.refl _ _) _ _) _ _) _ _⟩
    · cases d
      all_goals
        go_enter Try.func20, Try.ntmps20
        go_wp2_with (first | (go_at_call 40; refine (within_any _ _ _).mono ?_; rintro e1 w1 ⟨rfl, rfl⟩; rw [HC.out]) | (go_at_call 41; refine (add_any _ _ _).mono ?_; rintro e1 w1 ⟨rfl, rfl⟩) | (go_at_call 42; refine (before_any _ _ _).mono ?_; rintro e1 w1 ⟨rfl, rfl⟩))
        go_ret
        exact ⟨rfl, ((HL.out.set_cr _).set_dr _).cast (by unfold Lk.grant; dsimp only; rw [if_neg (show ¬ 0 < gapZ bd ((ct + c) % 4294967296) by omega)]; simp [hp]), kp_self (kp_self (Kp.refl _ _) _ _) _ _⟩
set_option maxRecDepth 100000 in
theorem grant_arg (g : Nat) (l : Lk) (c : Int) (d : Bool) (w : World) (h : LB w g l) (hr : l.rc = true) (hc : isIn c 2147483647 = false) :
    Calls Try.prog 20 #[.pointer (some ⟨g, 0, none⟩), .int .i64 c, .bool d] w fun e w' => e = .returned (.int .i64 1) ∧ w = w' := by
  obtain ⟨s0, s1, s2, s3, s4, s5, s6, s7, s8, s9, s10, s11⟩ := h.facts
  have hl := h.lt
  have HC := hide hc
  rw [hr] at s1
  clear h hc
  go_enter Try.func20, Try.ntmps20
  go_wp2_with (go_at_call 40; refine (within_any _ _ _).mono ?_; rintro e1 w1 ⟨rfl, rfl⟩; rw [HC.out])
  go_ret
  exact ⟨rfl, rfl⟩
set_option maxRecDepth 100000 in
theorem drained_no (g : Nat) (l : Lk) (w : World) (h : LB w g l) (hr : l.rc = false) (hd : l.dr = false ∨ l.cr = 0) :
    Calls Try.prog 28 #[.pointer (some ⟨g, 0, none⟩)] w fun e w' => e = .returned (.bool false) ∧ w = w' := by
  obtain ⟨s0, s1, s2, s3, s4, s5, s6, s7, s8, s9, s10, s11⟩ := h.facts
  have hl := h.lt
  rw [hr] at s1
  clear h hr
  obtain ⟨nm, rc, ct, cr, av, dr, sm, rm, fi, bd, dm⟩ := l
  dsimp only at *
  cases dr
  · go_enter Try.func28, Try.ntmps28
    go_wp2
    go_ret
    exact ⟨rfl, rfl⟩
  · have h0 : cr = 0 := by simpa using hd
    subst h0
    go_enter Try.func28, Try.ntmps28
    go_wp2
    go_ret
    exact ⟨rfl, rfl⟩
set_option maxRecDepth 100000 in
theorem drained_yes (g : Nat) (l : Lk) (w : World) (h : LB w g l) (hr : l.rc = false) (hd : l.dr = true) (hc : 0 < l.cr ∧ l.cr ≤ 4294967295) :
    Calls Try.prog 28 #[.pointer (some ⟨g, 0, none⟩)] w fun e w' => e = .returned (.bool true) ∧ LB w' g (l.on l.cr) ∧ Kp (fun k => k = g) w w' := by
  obtain ⟨s0, s1, s2, s3, s4, s5, s6, s7, s8, s9, s10, s11⟩ := h.facts
  have hl := h.lt
  have HG := hide (goOn_any g l l.cr w h ⟨by omega, hc.2⟩ ⟨by omega, hc.2⟩)
  rw [hr] at s1
  rw [hd] at s5
  have hne : (l.cr == 0) = false := by have := hc.1; simp; omega
  clear h hr hd
  go_enter Try.func28, Try.ntmps28
  go_wp2_with (go_at_call 49; refine HG.out.mono ?_; rintro e1 w1 ⟨rfl, hb, hk⟩)
  go_ret
  exact ⟨rfl, hb, hk⟩
/-- what a Flow says of a link -/
structure PfL (A : Array Value) (ki co cr av : Int) (dr : Bool) : Prop where
  k : A[0]? = some (.int .i64 ki)
  co : A[84]? = some (.int .i64 co)
  cr : A[85]? = some (.int .i64 cr)
  av : A[86]? = some (.int .i64 av)
  dr : A[87]? = some (.bool dr)
  sz : A.size = 128
/-- the receiver's Flow is heard -/
def Lk.hearR (l : Lk) (co cr : Int) (dr : Bool) : Lk := { l with cr := greater 0 (gapZ l.ct ((co + cr) % 4294967296)), dr := dr }
set_option maxRecDepth 100000 in
set_option maxHeartbeats 2000000 in
theorem hearReceiver_any (g : Nat) (l : Lk) (A : Array Value) (ki co cr av : Int) (dr : Bool) (w : World) (h : LB w g l) (hA : PfL A ki co cr av dr) (h1 : cr ≠ -1) (h2 : co ≠ -1) :
    Calls Try.prog 44 #[.pointer (some ⟨g, 0, none⟩), .agg A] w fun e w' => e = .returned (.tuple #[]) ∧ LB w' g (l.hearR co cr dr) ∧ Kp (fun k => k = g) w w' := by
  obtain ⟨V, hV⟩ : ∃ V, w.alloc (.cells A 57) = V := ⟨_, rfl⟩
  have n1 : V.heap[w.heap.size]? = some (.cells A 57 (0, 0)) := hV ▸ heap_alloc_last w _
  have hbV : Below w.heap.size w V := hV ▸ bel1 (Below.refl _ _) (Nat.le_refl _) _
  have hb : LB V g l := h.at (hbV.block _ h.lt)
  have c84 := cellOf n1 84 _ hA.co
  have c85 := cellOf n1 85 _ hA.cr
  have c87 := cellOf n1 87 _ hA.dr
  have lv := (Array.getElem?_eq_some_iff.1 n1).1
  have HV := hide hV
  obtain ⟨s0, s1, s2, s3, s4, s5, s6, s7, s8, s9, s10, s11⟩ := hb.facts
  have f3 := hb.frozen 3
  have f5 := hb.frozen 5
  have hl := hb.lt
  have HL := hide hb
  have HK : Hid (Kp (fun k => k = g) w V) := Kp.ofBelow hbV
  have e1 : (cr == -1) = false := by simp [h1]
  have e2 : (co == -1) = false := by simp [h2]
  have hgw : g ≠ w.heap.size := fun e => by have := h.lt; omega
  clear h hA hV hbV hb n1 h1 h2
  go_enter Try.func44, Try.ntmps44
  obtain ⟨nm, rc, ct, cr0, av0, dr0, sm, rm, fi, bd, dm⟩ := l
  dsimp only at *
  by_cases hp : 0 < gapZ ct ((co + cr) % 4294967296)
  · go_wp2_with (rw [HV.out])
    go_quiet (first | (go_at_call 41; exact Calls.quiet_of_same ((add_any _ _ _).mono fun e w' h => ⟨h.1, h.2.symm⟩)) | (go_at_call 59; exact Calls.quiet_of_same ((gap_any _ _ _).mono fun e w' h => ⟨h.1, h.2.symm⟩)))
    go_wp2
    all_goals first | (exfalso; omega) | skip
    first | go_end0 | refine bodyPost_ret (results_none rfl _ _ _) rfl ?_
    exact ⟨rfl, (((HL.out.drewN nq).set_cr _).set_dr _).cast (by unfold Lk.hearR greater; simp [hp]), kp_self (kp_self (HK.out.drewN nq) _ _) _ _⟩
  · go_wp2_with (rw [HV.out])
    go_quiet (first | (go_at_call 41; exact Calls.quiet_of_same ((add_any _ _ _).mono fun e w' h => ⟨h.1, h.2.symm⟩)) | (go_at_call 59; exact Calls.quiet_of_same ((gap_any _ _ _).mono fun e w' h => ⟨h.1, h.2.symm⟩)))
    go_wp2
    all_goals first | (exfalso; omega) | skip
    first | go_end0 | refine bodyPost_ret (results_none rfl _ _ _) rfl ?_
    exact ⟨rfl, (((HL.out.drewN nq).set_cr _).set_dr _).cast (by unfold Lk.hearR greater; dsimp only; rw [if_neg (show ¬ 0 < gapZ ct ((co + cr) % 4294967296) by omega)]), kp_self (kp_self (HK.out.drewN nq) _ _) _ _⟩
end Go.Proofs.Ytjipcdknkghoaaa
