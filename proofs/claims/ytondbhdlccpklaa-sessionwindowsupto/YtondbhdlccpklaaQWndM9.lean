import Derived.Test.YtondbhdlccpklaaQBoth5M9
import Derived.Deep.RegionHeld

/- Stage 13: the law's windows: Room, Sent, Got, Widen. -/
namespace Go.Proofs.Ytondbhdlccpklaa
open Go.RowKit Go.Maps
set_option linter.unusedVariables false
set_option linter.unusedSimpArgs false

theorem Std.below {w w1 : World} {g g' : Nat} {B : Nat → Prop} (h : Std w g g' B) (b : Below w.heap.size w w1) : Std w1 g g' B := by
  obtain ⟨s, H, R, S, C, vh, vr, vs, va, hs, rs, Sr, Cr, t, h64, hB, hL⟩ := h
  exact ⟨s, H, R, S, C, vh, vr, vs, va, hs, rs, Sr, Cr, ⟨t.a.below b, t.b.below b, t.ap, t.ok, t.al⟩, h64, hB, fun k e => Nat.lt_of_lt_of_le (hL k e) b.size⟩
theorem StdOn.from {w w1 w2 : World} {g g' : Nat} {B : Nat → Prop} (b : Below w.heap.size w w1) (h : StdOn w1 g g' B w2) : StdOn w g g' B w2 := by
  obtain ⟨B', h1, h2, h3⟩ := h
  refine ⟨B', h1, (Kp.ofBelow b).trans h2, fun k e => ?_⟩
  rcases h3 k e with e | e
  · exact .inl e
  · exact .inr (Nat.le_trans b.size e)
section
variable {w : World} {g g' : Nat} {B : Nat → Prop}
set_option maxRecDepth 100000 in
set_option maxHeartbeats 2000000 in
theorem windows_room (o : Opd) (h : Std w g g' B) (hk : o.k = 2) :
    Calls Try.prog 48 #[.pointer (some ⟨g, 0, none⟩), .pointer (some ⟨g', 0, none⟩), .agg o.cells] w fun e w' => e = .returned (.bool true) ∧ StdOn w g g' B w' := by
  unfold Opd.cells
  obtain ⟨k, a, b, c, d, e, t, f⟩ := o
  dsimp only at hk ⊢
  subst hk
  obtain ⟨V, hV⟩ : ∃ V, w.alloc (.cells #[.int .i64 2, .int .i64 a, .int .i64 b, .int .i64 c, .int .i64 d, .int .i64 e, .string t, .bool f] 24) = V := ⟨_, rfl⟩
  have HB : Hid (Below w.heap.size w V) := hV ▸ bel1 (Below.refl _ _) (Nat.le_refl _) _
  have HV := hide hV
  obtain ⟨v, ⟨i, rfl⟩, M, hP, hQ⟩ := room_both (h.below HB.out)
  have HP := hide hP
  have HQ := hide hQ
  clear hP hQ hV h
  go_enter Try.func48, Try.ntmps48
  go_wp2_with fail
  rw [HV.out]
  refine HP.out.mono ?_
  rintro e1 w1 ⟨rfl, hM, hK⟩
  have HM := hide hM
  clear hM hK
  go_wp2_with fail
  refine (HQ.out w1 HM.out).mono ?_
  rintro e2 w2 ⟨rfl, hS⟩
  have HS := hide hS
  clear hS
  go_wp2
  go_ret
  exact ⟨rfl, StdOn.from HB.out HS.out⟩
set_option maxRecDepth 100000 in
set_option maxHeartbeats 2000000 in
theorem windows_sent (o : Opd) (h : Std w g g' B) (hk : o.k = 3) :
    Calls Try.prog 48 #[.pointer (some ⟨g, 0, none⟩), .pointer (some ⟨g', 0, none⟩), .agg o.cells] w fun e w' => e = .returned (.bool true) ∧ StdOn w g g' B w' := by
  unfold Opd.cells
  obtain ⟨k, a, b, c, d, e, t, f⟩ := o
  dsimp only at hk ⊢
  subst hk
  obtain ⟨V, hV⟩ : ∃ V, w.alloc (.cells #[.int .i64 3, .int .i64 a, .int .i64 b, .int .i64 c, .int .i64 d, .int .i64 e, .string t, .bool f] 24) = V := ⟨_, rfl⟩
  have HB : Hid (Below w.heap.size w V) := hV ▸ bel1 (Below.refl _ _) (Nat.le_refl _) _
  have HV := hide hV
  obtain ⟨v, ⟨i, rfl⟩, M, hP, hQ⟩ := sent_both (h.below HB.out)
  have HP := hide hP
  have HQ := hide hQ
  clear hP hQ hV h
  go_enter Try.func48, Try.ntmps48
  go_wp2_with fail
  rw [HV.out]
  refine HP.out.mono ?_
  rintro e1 w1 ⟨rfl, hM, hK⟩
  have HM := hide hM
  clear hM hK
  go_wp2_with fail
  refine (HQ.out w1 HM.out).mono ?_
  rintro e2 w2 ⟨rfl, hS⟩
  have HS := hide hS
  clear hS
  go_wp2
  go_ret
  exact ⟨rfl, StdOn.from HB.out HS.out⟩
set_option maxRecDepth 100000 in
set_option maxHeartbeats 2000000 in
theorem windows_got (o : Opd) (h : Std w g g' B) (hk : o.k = 4) :
    Calls Try.prog 48 #[.pointer (some ⟨g, 0, none⟩), .pointer (some ⟨g', 0, none⟩), .agg o.cells] w fun e w' => e = .returned (.bool true) ∧ StdOn w g g' B w' := by
  unfold Opd.cells
  obtain ⟨k, a, b, c, d, e, t, f⟩ := o
  dsimp only at hk ⊢
  subst hk
  obtain ⟨V, hV⟩ : ∃ V, w.alloc (.cells #[.int .i64 4, .int .i64 a, .int .i64 b, .int .i64 c, .int .i64 d, .int .i64 e, .string t, .bool f] 24) = V := ⟨_, rfl⟩
  have HB : Hid (Below w.heap.size w V) := hV ▸ bel1 (Below.refl _ _) (Nat.le_refl _) _
  have HV := hide hV
  obtain ⟨v, ⟨i, rfl⟩, M, hP, hQ⟩ := got_both (h.below HB.out)
  have HP := hide hP
  have HQ := hide hQ
  clear hP hQ hV h
  go_enter Try.func48, Try.ntmps48
  go_wp2_with fail
  rw [HV.out]
  refine HP.out.mono ?_
  rintro e1 w1 ⟨rfl, hM, hK⟩
  have HM := hide hM
  clear hM hK
  go_wp2_with fail
  refine (HQ.out w1 HM.out).mono ?_
  rintro e2 w2 ⟨rfl, hS⟩
  have HS := hide hS
  clear hS
  go_wp2
  go_ret
  exact ⟨rfl, StdOn.from HB.out HS.out⟩
theorem Std.out {w : World} {g g' : Nat} {B : Nat → Prop} (h : Std w g g' B) {k : Nat} (hk : B k) : k < w.heap.size := by
  obtain ⟨s, H, R, S, C, vh, vr, vs, va, hs, rs, Sr, Cr, t, h64, hB, hL⟩ := h
  exact hL k hk
set_option maxRecDepth 100000 in
set_option maxHeartbeats 2000000 in
theorem windows_widen (o : Opd) (h : Std w g g' B) (hk : o.k = 6) :
    Calls Try.prog 48 #[.pointer (some ⟨g, 0, none⟩), .pointer (some ⟨g', 0, none⟩), .agg o.cells] w fun e w' => e = .returned (.bool true) ∧ StdOn w g g' B w' := by
  unfold Opd.cells
  obtain ⟨k, a, b, c, d, e, t, f⟩ := o
  dsimp only at hk ⊢
  subst hk
  obtain ⟨V, hV⟩ : ∃ V, (w.alloc (.cells #[.int .i64 6, .int .i64 a, .int .i64 b, .int .i64 c, .int .i64 d, .int .i64 e, .string t, .bool f] 24)).drew = V := ⟨_, rfl⟩
  have HB : Hid (Below w.heap.size w V) := hV ▸ (bel1 (Below.refl _ _) (Nat.le_refl _) _).trans ((bel_drew _).mono (by simp))
  have HV := hide hV
  have hlt : w.heap.size < V.heap.size := by rw [← hV]; show w.heap.size < (w.alloc _).heap.size; simp
  have c1 : V.cell? ⟨w.heap.size, 1, none⟩ = some (.int .i64 a) := by rw [← hV]; exact cellOf (heap_alloc_last w _) 1 _ rfl
  have hnB : Hid (¬ B w.heap.size) := fun e => by have := h.out e; omega
  obtain ⟨v, ⟨i, rfl⟩, M, hP, hQ⟩ := widen_both a (h.below HB.out)
  have HP : Hid (Calls Try.prog 50 #[.pointer (some ⟨g, 0, none⟩), .int .i64 a] V fun e w1 => e = .returned (.int .i64 i) ∧ Hid (M w1) ∧ w1.cell? ⟨w.heap.size, 1, none⟩ = some (.int .i64 a)) := hP.mono fun e w1 h => ⟨h.1, h.2.1, (h.2.2.cell hlt hnB.out).trans c1⟩
  have HQ : Hid (∀ w1, Hid (M w1) → Calls Try.prog 77 #[.pointer (some ⟨g', 0, none⟩), .int .i64 a] w1 fun e w2 => e = .returned (.int .i64 i) ∧ Hid (StdOn V g g' B w2) ∧ w2.cell? ⟨w.heap.size, 1, none⟩ = some (.int .i64 a)) := fun w1 hM => (hQ w1 hM.out).mono fun e w2 h => ⟨h.1, h.2, by
    obtain ⟨B', _, h2, _⟩ := h.2
    exact (h2.cell hlt hnB.out).trans c1⟩
  clear hP hQ hV h c1 hnB hlt
  go_enter Try.func48, Try.ntmps48
  go_wp2
  go_region_held (fun W => W.cell? ⟨w.heap.size, 1, none⟩ = some (.int .i64 a)) (first | assumption | go_keep) (first | (go_at_call 50; rw [HV.out]; refine Calls.mono HP.out ?_; rintro e1 w1 ⟨rfl, hM, hs1⟩) | (go_at_call 77; refine Calls.mono (HQ.out _ hM) ?_; rintro e2 w2 ⟨rfl, hS, hs2⟩))
  go_wp2
  go_ret
  exact ⟨rfl, StdOn.from HB.out hS.out⟩
end
end Go.Proofs.Ytondbhdlccpklaa
