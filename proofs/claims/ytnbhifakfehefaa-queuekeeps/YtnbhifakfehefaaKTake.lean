
/- Stage 17: Take with no fits, of a queue that has a free entry. -/
import Derived.Test.YtnbhifakfehefaaKTakeM
namespace Go.Proofs.Ytnbhifakfehefaa
open Go.RowKit
set_option linter.unusedVariables false
set_option linter.unusedSimpArgs false
set_option maxRecDepth 100000 in
set_option maxHeartbeats 4000000 in
theorem take_nil (B qb : Nat) (c : Cf) (hi : Int) (A F : Value) (L H : List Nat) (E : Nat → It) (D : Nat → List Nat) (h : Int) (w : World) (hs : Qs w B qb c hi A F L H E D) (h1 : 1 ≤ h) (h0 : 0 < H.length) :
    Calls Try.prog 13 #[.pointer (some ⟨qb, 0, none⟩), .int .i64 h, .nilFunc] w fun e w' => ∃ v, e = .returned (.tuple #[(((E (hv H 0)).held h).put v).ent, .bool true]) ∧ ∃ F' H', Hid (Qs w' B qb c hi A F' L H' (upd E (hv H 0) ((E (hv H 0)).held h)) D ∧ Ob w.heap.size w' v (D (hv H 0)) ∧ H'.length + 1 = H.length ∧ Kp (inQ qb A F L) w w') := by
  have hmx : Try.prog.follows .mixedOrders = true := by kernel_rfl
  obtain ⟨W0, hW0⟩ : ∃ W0, w.alloc (Obj.cells #[.int .i64 0, .int .i64 0, .int .i64 0, .bool false, .int .i64 0, .int .i64 0, .slice none 0 0] 37) = W0 := ⟨_, rfl⟩
  have HB0 : Hid (Below w.heap.size w W0) := by rw [← hW0]; exact bel1 (Below.refl _ _) (Nat.le_refl _) _
  have hh0 : W0.heap[w.heap.size]? = some (.cells #[.int .i64 0, .int .i64 0, .int .i64 0, .bool false, .int .i64 0, .int .i64 0, .slice none 0 0] 37 (0, 0)) := by rw [← hW0]; exact heap_new _ _
  have hs0 : W0.heap.size = w.heap.size + 1 := by rw [← hW0]; simp
  have HFI : Hid (∀ w1, Below W0.heap.size W0 w1 → Calls Try.prog 27 #[.pointer (some ⟨qb, 7, none⟩), .func (.func 44) #[] #[]] w1 fun e w' => e = .returned (.pointer (some ⟨hv H 0, 0, none⟩)) ∧ Hid (∃ F' H', HPopP B qb c hi A F H E w1 w' F' H')) := fun w1 hb => by
    have q1 := (hs.below HB0.out).below hb
    refine Calls.mono (first_nil B qb c hi A F H E w1 q1.q q1.lx q1.ok h0) ?_
    rintro e w' ⟨rfl, F', H', HP⟩
    exact ⟨rfl, F', H', HP.out⟩
  have HAK : Hid (∀ w1, Calls Try.prog 28 #[.nilFunc] w1 fun e w' => e = .returned (.func (.func 44) #[] #[]) ∧ Below w1.heap.size w1 w') := fun w1 => asking_nil w1
  have HD0 : Hid (Below W0.heap.size W0 W0.drew) := (Below.refl _ W0).drew
  have HW0 := hide hW0
  have HS := hide hs
  have HH0 := hide hh0
  have HS0 := hide hs0
  have hql := hs.q.lt
  obtain ⟨b, hb⟩ : ∃ b, hv H 0 = b := ⟨_, rfl⟩
  have HBB := hide hb
  rw [hb] at HFI
  clear hW0 hs hh0 hs0 hb
  go_enter Try.func13, Try.ntmps13
  go_wp2_with fail
  rw [HW0.out]
  go_region_held (fun W1 => True) (trivial) (first | (go_at_call 28; refine Calls.mono (HAK.out _) ?_; rintro e w1 ⟨rfl, hb1⟩; have HB1 := hide (belOn HD0.out HD0.out.size hb1)) | (go_at_call 27; refine Calls.mono (HFI.out _ HB1.out) ?_; rintro e w2 ⟨rfl, HP⟩))
  obtain ⟨F', H', hpp⟩ := HP.out
  have hq1 := (HS.out.below HB0.out).below HB1.out
  obtain ⟨hq3, hbL⟩ := take_state (h := h) hq1 hpp h0 (by omega)
  rw [HBB.out] at hq3 hbL
  obtain ⟨p, hib⟩ := hpp.2.2.2.2.2.2
  rw [HBB.out] at hib
  have hib3 := ib_held hib h
  have HKP := hide hpp.2.2.2.2.2.1
  have HPM := hide hpp.2.2.1
  have hn1 : w.heap.size < w1.heap.size := by have := HB1.out.size; have := HS0.out; omega
  have hnz : w2.heap[w.heap.size]? = some (.cells #[.int .i64 0, .int .i64 0, .int .i64 0, .bool false, .int .i64 0, .int .i64 0, .slice none 0 0] 37 (0, 0)) := by
    have e1 : w1.heap[w.heap.size]? = some (.cells #[.int .i64 0, .int .i64 0, .int .i64 0, .bool false, .int .i64 0, .int .i64 0, .slice none 0 0] 37 (0, 0)) := (HB1.out.block _ (by have := HS0.out; omega)).trans HH0.out
    refine (HKP.out.block hn1 (fun hk => ?_)).trans e1
    rcases hk with e | e | e
    · omega
    · obtain ⟨cur, hg⟩ := row_blk hq1.lx.row e
      rw [e1] at hg
      simp at hg
    · obtain ⟨p', hp'⟩ := hq1.it _ ((hq1.mem _).1 e).1
      unfold IB at hp'
      rw [e1] at hp'
      simp at hp'
  have hbn : b ≠ w.heap.size := fun e => by
    unfold IB at hib
    rw [e, hnz] at hib
    simp at hib
  obtain ⟨y0, y1, y2, y3, y4, c5, y6, _⟩ := hib.cells
  have f5 := hib.free 5
  obtain ⟨W3, hW3⟩ : ∃ W3, w2.setCell ⟨b, 5, none⟩ (.int .i64 h) = W3 := ⟨_, rfl⟩
  rw [hW3] at hq3 hib3
  have hnz3 : W3.heap[w.heap.size]? = some (.cells #[.int .i64 0, .int .i64 0, .int .i64 0, .bool false, .int .i64 0, .int .i64 0, .slice none 0 0] 37 (0, 0)) := by rw [← hW3]; exact (blk_set_other _ ⟨b, 5, none⟩ _ _ (fun e => hbn e.symm)).trans hnz
  have hob : Ob B W3 (E b).dat (D b) := by
    have := hq3.dat b hbL
    rw [upd_at] at this
    exact this
  have HOW := hide (own_any ((E b).held h) (D b) W3 hob.rb (by have := hq3.dl b hbL; omega))
  have HQ3 := hide hq3
  have HNZ3 := hide hnz3
  have HW3 := hide hW3
  have HS3 : Hid (W3.heap.size = w2.heap.size) := by show _ = _; rw [← hW3]; simp
  unfold It.put It.ent at HOW
  clear hpp hq1 hq3 hib hib3 hnz hnz3 hob hW3
  unfold It.at at y0 y1 y2 y3 y4 c5 y6
  simp only at y0 y1 y2 y3 y4 c5 y6
  go_wp2_with fail
  rw [HW3.out]
  refine Calls.mono HOW.out ?_
  rintro e w4 ⟨v, rfl, HOB, hb4⟩
  obtain ⟨av, cv, hv'⟩ := row_form HOB.out.1
  subst hv'
  have hnz4 : w4.heap[w.heap.size]? = some (.cells #[.int .i64 0, .int .i64 0, .int .i64 0, .bool false, .int .i64 0, .int .i64 0, .slice none 0 0] 37 (0, 0)) := (hb4.block _ (Array.getElem?_eq_some_iff.1 HNZ3.out).1).trans HNZ3.out
  obtain ⟨z0, z1, z2, z3, z4, z5, z6⟩ := ent_cells hnz4
  have f0' : w4.frozen? ⟨w.heap.size, 0, none⟩ = false := by simp [World.frozen?, hnz4]
  have f1' : w4.frozen? ⟨w.heap.size, 1, none⟩ = false := by simp [World.frozen?, hnz4]
  have f2' : w4.frozen? ⟨w.heap.size, 2, none⟩ = false := by simp [World.frozen?, hnz4]
  have f3' : w4.frozen? ⟨w.heap.size, 3, none⟩ = false := by simp [World.frozen?, hnz4]
  have f4' : w4.frozen? ⟨w.heap.size, 4, none⟩ = false := by simp [World.frozen?, hnz4]
  have f5' : w4.frozen? ⟨w.heap.size, 5, none⟩ = false := by simp [World.frozen?, hnz4]
  have f6' : w4.frozen? ⟨w.heap.size, 6, none⟩ = false := by simp [World.frozen?, hnz4]
  have HQ4 := hide ((HQ3.out.below hb4).other hnz4 (fun k hk => set7_other w4 w.heap.size k hk (.int .i64 (E b).seq) (.int .i64 (E b).pri) (.int .i64 (E b).exp) (.bool (E b).dur) (.int .i64 (E b).cnt) (.int .i64 h) (.slice av (D b).length cv)))
  have HAT := hide (set7_at hnz4 (.int .i64 (E b).seq) (.int .i64 (E b).pri) (.int .i64 (E b).exp) (.bool (E b).dur) (.int .i64 (E b).cnt) (.int .i64 h) (.slice av (D b).length cv))
  have hw3z : w.heap.size ≤ W3.heap.size := by have := HS3.out; have := HKP.out.size; omega
  have HOB5 : Hid (Ob w.heap.size (set7 w4 w.heap.size (.int .i64 (E b).seq) (.int .i64 (E b).pri) (.int .i64 (E b).exp) (.bool (E b).dur) (.int .i64 (E b).cnt) (.int .i64 h) (.slice av (D b).length cv)) (.slice av (D b).length cv) (D b)) :=
    (HOB.out.mono hw3z).keep (fun k e => set7_other _ _ k (fun e2 => (HOB.out.ne hnz4 (by decide)) (by rw [← e2]; exact e)) _ _ _ _ _ _ _)
  have HK5 : Hid (Kp (inQ qb A F L) w (set7 w4 w.heap.size (.int .i64 (E b).seq) (.int .i64 (E b).pri) (.int .i64 (E b).exp) (.bool (E b).dur) (.int .i64 (E b).cnt) (.int .i64 h) (.slice av (D b).length cv))) := by
    have k1 : Kp (inQ qb A F L) w w1 := Kp.ofBelow (belOn HB0.out (by have := HS0.out; omega) HB1.out)
    have k2 : Kp (inQ qb A F L) w w2 := k1.trans (HKP.out.mono (fun k hk => by
      rcases hk with e | e | e
      · exact .inl e
      · exact .inr (.inr (.inr e))
      · exact .inr (.inl ((HS.out.mem k).1 e).1)))
    have k3 : Kp (inQ qb A F L) w W3 := by rw [← HW3.out]; exact k2.setCell (.inr (.inl hbL)) _
    have hb7 := set7_kp w4 w.heap.size w.heap.size (Nat.le_refl _) (.int .i64 (E b).seq) (.int .i64 (E b).pri) (.int .i64 (E b).exp) (.bool (E b).dur) (.int .i64 (E b).cnt) (.int .i64 h) (.slice av (D b).length cv)
    exact (k3.below hb4).transN (T := fun k => w.heap.size ≤ k) ⟨hb7.os, hb7.tape, hb7.output, hb7.size, fun k hk hn => hb7.block k (by omega)⟩ (fun k hk => .inr hk)
  have HLE : Hid (H'.length + 1 = H.length) := by
    have := HPM.out.length_eq
    simp at this
    exact this
  clear hnz4 hb4 HOB
  unfold It.held
  simp only
  go_wp2
  unfold set7 at HQ4 HAT HOB5 HK5
  obtain ⟨W5, hW5⟩ : ∃ W5, (((((((w4.setCell ⟨w.heap.size, 0, none⟩ (.int .i64 (E b).seq)).setCell ⟨w.heap.size, 1, none⟩ (.int .i64 (E b).pri)).setCell ⟨w.heap.size, 2, none⟩ (.int .i64 (E b).exp)).setCell ⟨w.heap.size, 3, none⟩ (.bool (E b).dur)).setCell ⟨w.heap.size, 4, none⟩ (.int .i64 (E b).cnt)).setCell ⟨w.heap.size, 5, none⟩ (.int .i64 h)).setCell ⟨w.heap.size, 6, none⟩ (.slice av (D b).length cv)) = W5 := ⟨_, rfl⟩
  rw [hW5] at HQ4 HAT HOB5 HK5 ⊢
  obtain ⟨q0, q1, q2, q3, q4, q5, q6⟩ := ent_cells HAT.out
  clear hW5 z0 z1 z2 z3 z4 z5 z6 f0' f1' f2' f3' f4' f5' f6'
  refine bodyPost_ret (v := .tuple #[.agg #[.int .i64 (E b).seq, .int .i64 (E b).pri, .int .i64 (E b).exp, .bool (E b).dur, .int .i64 (E b).cnt, .int .i64 h, .slice av (D b).length cv], .bool true]) (by simp [results, Try.results13, go_sem, q0, q1, q2, q3, q4, q5, q6]) rfl ?_
  rw [HBB.out]
  exact ⟨.slice av (D b).length cv, rfl, F', H', HQ4.out, HOB5.out, HLE.out, HK5.out⟩
end Go.Proofs.Ytnbhifakfehefaa
