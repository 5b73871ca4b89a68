
/- Stage 6: New, Expect, Most, State. -/
import Derived.Test.YtaijcnkmklibcaaSStep
namespace Go.Proofs.Ytaijcnkmklibcaa
open Go.RowKit Go.Deep
set_option linter.unusedVariables false
set_option linter.unusedSimpArgs false

theorem awaitHeader_any (S : Nat) (lim tk at_ : Int) (v : Value) (sz kd : Int) (hd : Bool) (er : Int) (mf : Value) (w : World) (hS : StB w S lim tk at_ v sz kd hd er mf) :
    Calls Try.prog 23 #[.pointer (some ⟨S, 0, none⟩)] w fun e w' => e = .returned (.tuple #[]) ∧ StB w' S lim tk at_ v sz kd true er (mfn S 0) ∧ Kp (fun k => k = S) w w' := by
  have HS := hide hS
  obtain ⟨s0, s1, s2, s3, s4, s5, s6, s7, s8⟩ := hS.cells
  have f6 := hS.frozen 6
  have f8 := hS.frozen 8
  have hSl := hS.lt
  clear hS
  go_enter Try.func23, Try.ntmps23
  go_wp2
  exact bodyPost_end (v := .tuple #[]) (by simp [results, Try.results23, go_sem]) rfl ⟨rfl, (HS.out.setHd true).setMf (mfn S 0), kp_self (kp_self (Kp.refl _ w) 6 _) 8 _⟩
theorem new_no (m : Int) (w : World) (h : ¬ (512 ≤ m ∧ m ≤ 1048576)) : Calls Try.prog 8 #[.int .i64 m] w fun e w' => e = .returned (.pointer none) ∧ w' = w := by
  have HM := hide (mayBeLimit_any m w)
  rw [decide_eq_false h] at HM
  go_enter Try.func8, Try.ntmps8
  go_wp2_with (go_at_call 22; refine HM.out.mono ?_; rintro e1 w1 ⟨rfl, rfl⟩)
  go_ret
  exact ⟨rfl, rfl⟩
theorem new_yes (m : Int) (w : World) (h : 512 ≤ m ∧ m ≤ 1048576) : Calls Try.prog 8 #[.int .i64 m] w fun e w' => e = .returned (.pointer (some ⟨w.heap.size, 0, none⟩)) ∧ StB w' w.heap.size m 0 0 (.slice none 0 0) 0 0 true 0 (mfn w.heap.size 0) ∧ Below w.heap.size w w' := by
  have HM := hide (mayBeLimit_any m w)
  rw [decide_eq_true h] at HM
  clear h
  go_enter Try.func8, Try.ntmps8
  go_wp2_with (go_at_call 22; refine HM.out.mono ?_; rintro e1 w1 ⟨rfl, rfl⟩)
  refine (awaitHeader_any _ m 0 0 (.slice none 0 0) 0 0 false 0 .nilFunc _ (heap_alloc_new _ _)).mono ?_
  rintro e2 w2 ⟨rfl, h1, h2⟩
  have HS := hide h1
  have HB : Hid (Below w1.heap.size w1 w2) := (below_box w1 _).trans (h2.toBelow (by simp) (fun k hk e => by omega))
  clear h1 h2
  go_wp2
  go_ret
  exact ⟨rfl, HS.out, HB.out⟩
theorem most_any (S : Nat) (lim tk at_ : Int) (v : Value) (sz kd : Int) (hd : Bool) (er : Int) (mf : Value) (m : Int) (w : World) (hS : StB w S lim tk at_ v sz kd hd er mf) :
    Calls Try.prog 21 #[.pointer (some ⟨S, 0, none⟩), .int .i64 m] w fun e w' => e = .returned (.int .i64 (if 512 ≤ m ∧ m ≤ 1048576 then (if er = 0 then 0 else 4) else 1)) ∧ StB w' S (if (512 ≤ m ∧ m ≤ 1048576) ∧ er = 0 then m else lim) tk at_ v sz kd hd er mf ∧ Kp (fun k => k = S) w w' := by
  have HM := hide (mayBeLimit_any m w)
  have HS := hide hS
  obtain ⟨s0, s1, s2, s3, s4, s5, s6, s7, s8⟩ := hS.cells
  have f0 := hS.frozen 0
  have hSl := hS.lt
  clear hS
  by_cases h : 512 ≤ m ∧ m ≤ 1048576
  · rw [decide_eq_true h] at HM
    by_cases he : er = 0
    · subst he
      rw [if_pos h, if_pos rfl, if_pos ⟨h, rfl⟩]
      clear h
      go_enter Try.func21, Try.ntmps21
      go_wp2_with (go_at_call 22; refine HM.out.mono ?_; rintro e1 w1 ⟨rfl, rfl⟩)
      go_ret
      exact ⟨rfl, HS.out.setLim m, kp_self (Kp.refl _ _) 0 _⟩
    · rw [if_pos h, if_neg he, if_neg (fun hh => he hh.2)]
      clear h
      go_enter Try.func21, Try.ntmps21
      go_wp2_with (go_at_call 22; refine HM.out.mono ?_; rintro e1 w1 ⟨rfl, rfl⟩)
      go_ret
      exact ⟨rfl, HS.out, Kp.refl _ _⟩
  · rw [decide_eq_false h] at HM
    rw [if_neg h, if_neg (fun hh => h hh.1)]
    clear h
    go_enter Try.func21, Try.ntmps21
    go_wp2_with (go_at_call 22; refine HM.out.mono ?_; rintro e1 w1 ⟨rfl, rfl⟩)
    go_ret
    exact ⟨rfl, HS.out, Kp.refl _ _⟩
set_option maxHeartbeats 1000000 in
theorem expect_head (S : Nat) (lim tk at_ : Int) (v : Value) (sz kd : Int) (er : Int) (mf : Value) (w : World) (hS : StB w S lim tk at_ v sz kd true er mf) :
    Calls Try.prog 20 #[.pointer (some ⟨S, 0, none⟩)] w fun e w' => e = .returned (.int .i64 4) ∧ StB w' S lim tk at_ v sz kd true er mf ∧ Kp (fun k => k = S) w w' := by
  have HS := hide hS
  obtain ⟨s0, s1, s2, s3, s4, s5, s6, s7, s8⟩ := hS.cells
  have hSl := hS.lt
  clear hS
  go_enter Try.func20, Try.ntmps20
  go_wp2
  go_quiet (fail)
  go_wp2
  go_ret
  exact ⟨rfl, HS.out.below (below_drewN (Below.refl _ _) nq) hSl, Kp.ofBelow (below_drewN (Below.refl _ _) nq)⟩
set_option maxHeartbeats 1000000 in
theorem expect_mid (S : Nat) (lim tk at_ : Int) (v : Value) (sz kd : Int) (er : Int) (mf : Value) (w : World) (hS : StB w S lim tk at_ v sz kd false er mf) (h : ¬ tk = at_) :
    Calls Try.prog 20 #[.pointer (some ⟨S, 0, none⟩)] w fun e w' => e = .returned (.int .i64 4) ∧ StB w' S lim tk at_ v sz kd false er mf ∧ Kp (fun k => k = S) w w' := by
  have HS := hide hS
  obtain ⟨s0, s1, s2, s3, s4, s5, s6, s7, s8⟩ := hS.cells
  have hSl := hS.lt
  have hb : (tk == at_) = false := by simp [h]
  clear hS
  go_enter Try.func20, Try.ntmps20
  go_wp2
  go_quiet (fail)
  go_wp2
  go_ret
  exact ⟨rfl, HS.out.below (below_drewN (Below.refl _ _) nq) hSl, Kp.ofBelow (below_drewN (Below.refl _ _) nq)⟩
set_option maxHeartbeats 1000000 in
theorem expect_closed (S : Nat) (lim tk at_ : Int) (v : Value) (sz kd : Int) (er : Int) (mf : Value) (w : World) (hS : StB w S lim tk tk v sz kd false er mf) (h : ¬ er = 0) :
    Calls Try.prog 20 #[.pointer (some ⟨S, 0, none⟩)] w fun e w' => e = .returned (.int .i64 4) ∧ StB w' S lim tk tk v sz kd false er mf ∧ Kp (fun k => k = S) w w' := by
  have HS := hide hS
  obtain ⟨s0, s1, s2, s3, s4, s5, s6, s7, s8⟩ := hS.cells
  have hSl := hS.lt
  have hb : (er == 0) = false := by simp [h]
  clear hS
  go_enter Try.func20, Try.ntmps20
  go_wp2
  go_quiet (fail)
  go_wp2
  go_ret
  exact ⟨rfl, HS.out.below (below_drewN (Below.refl _ _) nq) hSl, Kp.ofBelow (below_drewN (Below.refl _ _) nq)⟩
set_option maxHeartbeats 1000000 in
theorem expect_ok (S : Nat) (lim tk at_ : Int) (v : Value) (sz kd : Int) (er : Int) (mf : Value) (w : World) (hS : StB w S lim tk tk v sz kd false 0 mf) :
    Calls Try.prog 20 #[.pointer (some ⟨S, 0, none⟩)] w fun e w' => e = .returned (.int .i64 0) ∧ StB w' S lim tk tk v sz kd true 0 (mfn S 0) ∧ Kp (fun k => k = S) w w' := by
  have HS := hide hS
  obtain ⟨s0, s1, s2, s3, s4, s5, s6, s7, s8⟩ := hS.cells
  have hSl := hS.lt
  clear hS
  go_enter Try.func20, Try.ntmps20
  go_wp2
  go_quiet (fail)
  have HSQ : Hid (StB (w.drewN nq) S lim tk tk v sz kd false 0 mf) := HS.out.below (below_drewN (Below.refl _ _) nq) hSl
  go_wp2_with fail
  refine (awaitHeader_any S lim tk tk v sz kd false 0 mf _ HSQ.out).mono ?_
  rintro e1 w1 ⟨rfl, h1, h2⟩
  have HS1 := hide h1
  have HK1 : Hid (Kp (fun k => k = S) w w1) := Kp.trans (Kp.ofBelow (below_drewN (Below.refl _ _) nq)) h2
  clear h1 h2
  go_wp2
  go_ret
  exact ⟨rfl, HS1.out, HK1.out⟩
set_option maxHeartbeats 2000000 in
set_option maxRecDepth 100000 in
theorem state_any (S : Nat) (lim tk at_ : Int) (a : Option Addr) (n c : Nat) (sz kd : Int) (hd : Bool) (er : Int) (mf : Value) (w : World) (hS : StB w S lim tk at_ (.slice a n c) sz kd hd er mf) :
    Calls Try.prog 18 #[.pointer (some ⟨S, 0, none⟩)] w fun e w' => e = .returned (.agg #[.int .i64 tk, .int .i64 (n : Int), .bool hd, .int .i64 er, .int .i64 at_]) ∧ Below w.heap.size w w' := by
  have HS := hide hS
  have hSl := hS.lt
  have hne : S ≠ w.heap.size := by omega
  clear hS
  go_enter Try.func18, Try.ntmps18
  go_wp2
  obtain ⟨W, hW⟩ : ∃ W, W = w.alloc (.cells #[.int .i64 0, .int .i64 0, .bool false, .int .i64 0, .int .i64 0] 40) := ⟨_, rfl⟩
  have HSW : Hid (StB W S lim tk at_ (.slice a n c) sz kd hd er mf) := by rw [hW]; exact HS.out.alloc _
  have HBW : Hid (Below w.heap.size w W) := by rw [hW]; exact below_box w _
  have HR : Hid (W.heap[w.heap.size]? = some (.cells #[.int .i64 0, .int .i64 0, .bool false, .int .i64 0, .int .i64 0] 40)) := by show _ = _; rw [hW]; exact heap_alloc_new _ _
  rw [← hW]
  clear hW
  have hz : w.heap.size < W.heap.size := (Array.getElem?_eq_some_iff.1 HR.out).1
  have HH : Hid (∀ V, Below W.heap.size W V → V.cell? ⟨S, 1, none⟩ = some (.int .i64 tk) ∧ V.cell? ⟨S, 3, none⟩ = some (.slice a n c) ∧ V.cell? ⟨S, 6, none⟩ = some (.bool hd) ∧ V.cell? ⟨S, 7, none⟩ = some (.int .i64 er) ∧ V.cell? ⟨S, 2, none⟩ = some (.int .i64 at_)) := fun V h => by
    obtain ⟨s0, s1, s2, s3, s4, s5, s6, s7, s8⟩ := (HSW.out.below h HSW.out.lt).cells
    exact ⟨s1, s3, s6, s7, s2⟩
  have hne2 : w.heap.size ≠ S := by omega
  have HCE : Hid (∀ V, StB V S lim tk at_ (.slice a n c) sz kd hd er mf → V.cell? ⟨S, 1, none⟩ = some (.int .i64 tk) ∧ V.cell? ⟨S, 3, none⟩ = some (.slice a n c) ∧ V.cell? ⟨S, 6, none⟩ = some (.bool hd) ∧ V.cell? ⟨S, 7, none⟩ = some (.int .i64 er) ∧ V.cell? ⟨S, 2, none⟩ = some (.int .i64 at_)) := fun V h => by
    obtain ⟨s0, s1, s2, s3, s4, s5, s6, s7, s8⟩ := h.cells
    exact ⟨s1, s3, s6, s7, s2⟩
  have HBD : Hid (Below W.heap.size W W.drew) := (Below.refl _ _).drew
  have r0 : W.cell? ⟨w.heap.size, 0, none⟩ = some (.int .i64 0) := by simp [World.cell?, HR.out]
  have r1 : W.cell? ⟨w.heap.size, 1, none⟩ = some (.int .i64 0) := by simp [World.cell?, HR.out]
  have r2 : W.cell? ⟨w.heap.size, 2, none⟩ = some (.bool false) := by simp [World.cell?, HR.out]
  have r3 : W.cell? ⟨w.heap.size, 3, none⟩ = some (.int .i64 0) := by simp [World.cell?, HR.out]
  have r4 : W.cell? ⟨w.heap.size, 4, none⟩ = some (.int .i64 0) := by simp [World.cell?, HR.out]
  have g0 : ∀ j, W.frozen? ⟨w.heap.size, j, none⟩ = false := fun j => by simp [World.frozen?, HR.out]
  go_region_held3 (fun V => V.cell? ⟨S, 1, none⟩ = some (.int .i64 tk) ∧ V.cell? ⟨S, 3, none⟩ = some (.slice a n c) ∧ V.cell? ⟨S, 6, none⟩ = some (.bool hd) ∧ V.cell? ⟨S, 7, none⟩ = some (.int .i64 er) ∧ V.cell? ⟨S, 2, none⟩ = some (.int .i64 at_)) (first | exact HH.out _ HBD.out | exact HH.out _ (Below.refl _ _) | exact HCE.out _ (show StB _ _ _ _ _ _ _ _ _ _ _ from (((((HSW.out).setOther hne2 _).setOther hne2 _).setOther hne2 _).setOther hne2 _).setOther hne2 _)) (fail)
  go_wp2
  exact bodyPost_ret (v := .agg #[.int .i64 tk, .int .i64 (n : Int), .bool hd, .int .i64 er, .int .i64 at_]) (by simp [results, Try.results18, go_sem, r0, r1, r2, r3, r4, hz]) rfl ⟨rfl, (below_setAt (below_setAt (below_setAt (below_setAt (below_setAt (HBW.out) (Nat.le_refl _) 0 _) (Nat.le_refl _) 1 _) (Nat.le_refl _) 2 _) (Nat.le_refl _) 3 _) (Nat.le_refl _) 4 _).drew⟩
end Go.Proofs.Ytaijcnkmklibcaa
