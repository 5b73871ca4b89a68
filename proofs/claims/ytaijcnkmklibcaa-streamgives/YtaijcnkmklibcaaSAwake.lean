
/- Stage 6: awake. -/
import Derived.Test.YtaijcnkmklibcaaSAwM
import Derived.Test.YtaijcnkmklibcaaSCalls
namespace Go.Proofs.Ytaijcnkmklibcaa
open Go.RowKit Go.Deep
set_option linter.unusedVariables false
set_option linter.unusedSimpArgs false
theorem SR.slice {w : World} {S B : Nat} {M : Int} {s : Sg} {v : Value} (h : SR w S B M s v) : ∃ a c, v = .slice a s.2.1.length c := by
  obtain ⟨_, (⟨rfl, h2⟩ | ⟨g, cap, cur, rfl, _⟩)⟩ := h.2.1
  · exact ⟨none, 0, by rw [h2]⟩
  · exact ⟨_, cap, rfl⟩
theorem SR.own_lt {w : World} {S B : Nat} {M : Int} {s : Sg} {v : Value} (h : SR w S B M s v) {g : Nat} (hg : v.ownBlock = some g) : g < w.heap.size := by
  obtain ⟨cs, t, f, e, _⟩ := h.own_cells (.inr hg)
  exact (Array.getElem?_eq_some_iff.1 e).1
theorem SR.ib_ne {w : World} {S B : Nat} {M : Int} {s : Sg} {v : Value} (h : SR w S B M s v) {R : Nat} {v0 v1 v2 v3 v4 v5 : Value} (hI : IB w R v0 v1 v2 v3 v4 v5) : ¬ (R = S ∨ v.ownBlock = some R) := fun hh => by
  obtain ⟨cs, t, f, e, e2⟩ := h.own_cells hh
  rw [show w.heap[R]? = _ from hI] at e
  cases e
  revert e2
  decide
theorem bl_ne {w : World} {S B : Nat} {M : Int} {s : Sg} {v : Value} (h : SR w S B M s v) {g : Nat} {l : List Nat} (hg : Bl w g l) : g ≠ S := fun e => by
  subst e
  have e := (show w.heap[g]? = _ from hg).symm.trans h.1
  simp at e
theorem aw_takeA (W : World) (S g : Nat) (h : SR W S S 512 (sNew 512) (.slice none 0 0)) (hg : Bl W g awA) : Calls Try.prog 19 #[.pointer (some ⟨S, 0, none⟩), .slice (some ⟨g, 0, none⟩) 9 9] W fun e w' => e = .returned (.tuple #[.agg #[.int .i64 1, .int .i64 0, .int .i64 0, .int .i64 0, .slice none 0 0, .slice none 0 0], .int .i64 8]) ∧ Hid (∃ v, SR w' S S 512 sOne v) ∧ Hid (Kp (fun k => k = S) W w') := by
  refine (take_any S S 512 (sNew 512) (.slice none 0 0) (some ⟨g, 0, none⟩) 9 awA W h (hg.rd0 (by decide)) (fun _ b o e => by cases e; exact ⟨bl_ne h hg, by simp [Value.ownBlock]⟩) (by decide) (by decide)).mono ?_
  intro e w' ht
  obtain ⟨v, x, h1, h2, h3, ⟨_, o1, o2, rfl, _⟩, rfl⟩ := take_at (k := 7) (by decide) awA_quiet ⟨awA_item.1, by rw [awA_item.2]; decide⟩ ht
  refine ⟨by rw [awA_it]; rfl, ⟨v, by rw [← awA_end]; exact h3⟩, Kp.mono h2 (fun k hk => ?_)⟩
  rcases hk with hk | hk | hk
  · exact hk
  · simp [Value.ownBlock] at hk
  · exact hk.elim
theorem aw_takeB (W : World) (S g : Nat) (v0 : Value) (h : SR W S S 512 sOne v0) (hg : Bl W g awB) (hv : v0.ownBlock ≠ some g) : Calls Try.prog 19 #[.pointer (some ⟨S, 0, none⟩), .slice (some ⟨g, 0, none⟩) 10 10] W fun e w' => ∃ (A1 : Option Addr) (g2 : Nat), e = .returned (.tuple #[.agg #[.int .i64 2, .int .i64 0, .int .i64 0, .int .i64 5, .slice A1 0 0, .slice (some ⟨g2, 0, none⟩) 2 2], .int .i64 10]) ∧ Hid (∃ v, SR w' S S 512 sTwo v) ∧ Hid (Bl w' g2 [65, 66]) ∧ Hid (W.heap.size ≤ g2) ∧ Hid (Kp (fun k => k = S ∨ v0.ownBlock = some k) W w') := by
  refine (take_any S S 512 sOne v0 (some ⟨g, 0, none⟩) 10 awB W h (hg.rd0 (by decide)) (fun _ b o e => by cases e; exact ⟨bl_ne h hg, hv⟩) (by decide) (by decide)).mono ?_
  intro e w' ht
  obtain ⟨v, x, h1, h2, h3, ⟨_, o1, o2, rfl, hm⟩, rfl⟩ := take_at (k := 9) (by decide) awB_quiet ⟨awB_item.1, by rw [awB_item.2.1]; decide⟩ ht
  have hm := hm awB_item.2.2.1
  simp only at hm
  rw [awB_item.2.2.2] at hm
  obtain ⟨_, m2, _, m4, _⟩ := hm
  cases o2 with
  | none =>
    have := m2 rfl
    rw [awB_op.2.1] at this
    cases this
  | some g2 =>
    have m4 := m4 g2 rfl
    rw [awB_op.2.1] at m4
    refine ⟨_, g2, by rw [awB_it]; rfl, ⟨v, by rw [← awB_end]; exact h3⟩, m4.2, m4.1, Kp.mono h2 (fun k hk => ?_)⟩
    rcases hk with hk | hk | hk
    · exact .inl hk
    · exact .inr hk
    · exact hk.elim

set_option maxRecDepth 100000 in
set_option maxHeartbeats 2000000 in
theorem awake_any (w : World) : Calls Try.prog 7 #[] w fun e w' => e = .returned (.bool true) ∧ Below w.heap.size w w' := by
  go_enter Try.func7, Try.ntmps7
  go_wp2_with fail
  refine (new_yes 512 w (by decide)).mono ?_
  rintro e w1 ⟨rfl, hS1, hB1⟩
  have HR1 := hide (SR.new hS1 (by decide))
  have HB1 := hide hB1
  have HS1 := hide hS1
  clear hS1 hB1
  go_wp2_with fail
  refine (new_no 511 w1 (by decide)).mono ?_
  rintro e w1' ⟨rfl, rfl⟩
  go_wp2_with fail
  refine (expect_head w.heap.size 512 0 0 (.slice none 0 0) 0 0 0 (mfn w.heap.size 0) w1' HS1.out).mono ?_
  rintro e w2 ⟨rfl, hS2, hK2⟩
  have HR2 := hide (SR.new hS2 (by decide))
  have HB2 : Hid (Below w.heap.size w w2) := HB1.out.trans (hK2.toBelow HB1.out.size (fun k hk => by omega))
  clear hS2 hK2 HR1 HS1 HB1
  go_wp2_with fail
  refine (aw_takeA _ w.heap.size w2.heap.size (HR2.out.alloc _) (World.alloc_heap_new _ _)).mono ?_
  rintro e w3 ⟨rfl, HR3, HK3⟩
  have HB3 : Hid (Below w.heap.size w w3) := (HB2.out.alloc HB2.out.size _).trans (HK3.out.toBelow (by have := HB2.out.size; simp; omega) (fun k hk => by omega))
  clear HK3 HB2 HR2
  go_wp2_with fail
  obtain ⟨v3, hR3⟩ := HR3.out
  have hI3 : IB ((w3.alloc (.cells #[.int .i64 1, .int .i64 0, .int .i64 0, .int .i64 0, .slice none 0 0, .slice none 0 0] 51)).alloc (.cells #[.int .u8 0, .int .u8 0, .int .u8 0, .int .u8 10, .int .u8 2, .int .u8 0, .int .u8 0, .int .u8 5, .int .u8 65, .int .u8 66] 5)) w3.heap.size (.int .i64 1) (.int .i64 0) (.int .i64 0) (.int .i64 0) (.slice none 0 0) (.slice none 0 0) := heap_past (World.alloc_heap_new _ _) _
  have hR3a := (hR3.alloc (.cells #[.int .i64 1, .int .i64 0, .int .i64 0, .int .i64 0, .slice none 0 0, .slice none 0 0] 51)).alloc (.cells #[.int .u8 0, .int .u8 0, .int .u8 0, .int .u8 10, .int .u8 2, .int .u8 0, .int .u8 0, .int .u8 5, .int .u8 65, .int .u8 66] 5)
  refine (aw_takeB _ w.heap.size (w3.heap.size + 1) v3 hR3a (heap_at1 _ _ _) (fun e => by have := hR3.own_lt e; omega)).mono ?_
  rintro e w4 ⟨A1, g2, rfl, HR4, HG4, HL4, HK4⟩
  have hz4 : w3.heap.size + 2 ≤ w4.heap.size := by have := HK4.out.2.2.2.1; simpa using this
  have hB3z := HB3.out.size
  have HI4 : Hid (IB w4 w3.heap.size (.int .i64 1) (.int .i64 0) (.int .i64 0) (.int .i64 0) (.slice none 0 0) (.slice none 0 0)) := (HK4.out.2.2.2.2 _ (by simp; omega) (hR3a.ib_ne hI3)).trans hI3
  have HB4 : Hid (Below w.heap.size w w4) := by
    refine ((HB3.out.alloc hB3z _).alloc (by simp; omega) _).trans (HK4.out.toBelow (by simp; omega) (fun k hk => ?_))
    rintro (h | h)
    · omega
    · obtain ⟨_, (⟨rfl, _⟩ | ⟨g, cap, cur, rfl, q1, _⟩)⟩ := hR3.2.1
      · simp [Value.ownBlock] at h
      · simp [Value.ownBlock] at h
        omega
  obtain ⟨v4, hR4⟩ := HR4.out
  obtain ⟨a4, c4, rfl⟩ := hR4.slice
  
  have HSS : Hid (SR w4 w.heap.size w.heap.size 512 sTwo (.slice a4 sTwo.2.1.length c4)) := hR4
  have HS4 : Hid (StB w4 w.heap.size 512 18 18 (.slice a4 0 c4) 10 0 false 0 (mfn w.heap.size 1)) := hR4.1
  clear HR3 hR3 hR3a hI3 HK4 HR4 hR4 HL4 HB3
  go_wp2_with fail
  refine (expect_ok w.heap.size 512 18 18 (.slice a4 0 c4) 10 0 0 (mfn w.heap.size 1) _ (HS4.out.alloc _)).mono ?_
  rintro e w5 ⟨rfl, hS5, hK5⟩
  have hz5 : w4.heap.size + 1 ≤ w5.heap.size := by have := hK5.2.2.2.1; simpa using this
  have hB4z := HB4.out.size
  have hI4z := HI4.out.lt
  have hg4z := HG4.out.lt
  have hwz : w.heap.size < w4.heap.size := HS4.out.lt
  have HB5 : Hid (Below w.heap.size w w5) := (HB4.out.alloc hB4z _).trans (hK5.toBelow (by simp; omega) (fun k hk => by omega))
  have hne1 : w3.heap.size ≠ w.heap.size := fun e => by
    have h1 := HI4.out
    have h2 := HS4.out
    rw [← e] at h2
    have := (show w4.heap[w3.heap.size]? = _ from h1).symm.trans h2
    simp at this
  have HI5 : Hid (IB w5 w3.heap.size (.int .i64 1) (.int .i64 0) (.int .i64 0) (.int .i64 0) (.slice none 0 0) (.slice none 0 0)) := (hK5.2.2.2.2 _ (by simp; omega) hne1).trans (heap_past HI4.out _)
  have HJ5 : Hid (IB w5 w4.heap.size (.int .i64 2) (.int .i64 0) (.int .i64 0) (.int .i64 5) (.slice A1 0 0) (.slice (some ⟨g2, 0, none⟩) 2 2)) := (hK5.2.2.2.2 _ (by simp) (show w4.heap.size ≠ w.heap.size by omega)).trans (World.alloc_heap_new _ _)
  have HG5 : Hid (Bl w5 g2 [65, 66]) := (HG4.out.alloc _).block (hK5.2.2.2.2 _ (by simp; omega) (bl_ne HSS.out HG4.out))
  have HS5 := hide hS5
  clear hS5 hK5 HS4 HI4 HG4 HB4 hB4z hI4z hg4z
  go_wp2_with fail
  refine (state_any w.heap.size 512 18 18 a4 0 c4 10 0 true 0 (mfn w.heap.size 0) w5 HS5.out).mono ?_
  rintro e w6 ⟨rfl, hb6⟩
  have HB6 : Hid (Below w.heap.size w w6) := HB5.out.trans (hb6.mono HB5.out.size)
  have hI6 := IB.below HI5.out hb6 HI5.out.lt
  have hJ6 := IB.below HJ5.out hb6 HJ5.out.lt
  have hG6 := HG5.out.below hb6 HG5.out.lt
  have hc := conv_any (hG6.alloc (.cells #[.int .i64 18, .int .i64 0, .bool true, .int .i64 0, .int .i64 18] 40) |>.rd0 (by decide)) 2
  rw [show mkS [65, 66] = { data := #[65, 66] } by decide +kernel] at hc
  rw [show ([65, 66] : List Nat).length = 2 from rfl] at hc
  obtain ⟨⟨i0, _⟩, _⟩ := hI6.facts
  obtain ⟨⟨j0, j1, j2, j3, j4, j5⟩, _⟩ := hJ6.facts
  have hli := hI6.lt
  have hlj := hJ6.lt
  have hz6 := hb6.size
  clear hb6 HI5 HJ5 HG5 HS5 HB5 hI6 hJ6 hG6 HSS
  go_wp2_with fail
  go_ret
  exact ⟨rfl, HB6.out.alloc HB6.out.size _⟩
end Go.Proofs.Ytaijcnkmklibcaa
