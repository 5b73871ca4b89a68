
/- QueueMakes: the walk. -/
import Derived.Test.YtnbhifakfehefaaKLive
namespace Go.Proofs.Ytnbhifakfehefaa
open Go.RowKit
set_option linter.unusedVariables false
set_option linter.unusedSimpArgs false
/-- a configuration in its variable -/
def CfB (w : World) (g : Nat) (c : Cf) : Prop := w.heap[g]? = some (.cells #[.string c.s, .int .i64 c.m, .string c.d, .int .i64 c.t, .bool c.b] 24 (0, 0))
theorem CfB.cell {w : World} {g : Nat} {c : Cf} (h : CfB w g c) : w.cell? ⟨g, 0, none⟩ = some (.string c.s) ∧ w.cell? ⟨g, 1, none⟩ = some (.int .i64 c.m) ∧ w.cell? ⟨g, 2, none⟩ = some (.string c.d) ∧ w.cell? ⟨g, 3, none⟩ = some (.int .i64 c.t) ∧ w.cell? ⟨g, 4, none⟩ = some (.bool c.b) := by
  unfold CfB at h
  refine ⟨?_, ?_, ?_, ?_, ?_⟩ <;> simp only [World.cell?, h] <;> rfl
theorem CfB.below {w w' : World} {g : Nat} {c : Cf} (h : CfB w g c) (hb : Below w.heap.size w w') : CfB w' g c := (hb.block _ (Array.getElem?_eq_some_iff.1 h).1).trans h
set_option maxRecDepth 100000 in
set_option maxHeartbeats 4000000 in
theorem makes_walk (c : Cf) (w : World) (hs : c.s.size ≤ 281474976710656) (hd : c.d.size ≤ 281474976710656) : Calls Try.prog 4 #[c.val] w fun e w' => e = .returned (.bool true) ∧ Below w.heap.size w w' := by
  have HNW : Hid (∀ w1, Calls Try.prog 8 #[c.val] w1 (NewP c w1)) := fun w1 => new_any c hs hd w1
  have HRN : Hid (∀ w1, Calls Try.prog 9 #[c.val] w1 (RNewP c.ok w1)) := fun w1 => refNew_any c hs hd w1
  have HCO : Hid (∀ (qb : Nat) (w1 : World), QB w1 qb c 0 (.slice none 0 0) (.slice none 0 0) → Calls Try.prog 11 #[.pointer (some ⟨qb, 0, none⟩)] w1 fun e w' => e = .returned c.val ∧ Below w1.heap.size w1 w') := fun qb w1 h => config_any qb c 0 _ _ w1 h
  have HLN : Hid (∀ (qb : Nat) (w1 : World), QB w1 qb c 0 (.slice none 0 0) (.slice none 0 0) → Calls Try.prog 10 #[.pointer (some ⟨qb, 0, none⟩)] w1 fun e w' => e = .returned (.tuple #[.int .i64 0, .int .i64 0]) ∧ Below w1.heap.size w1 w') := fun qb w1 h => len_any 0 qb c 0 (.slice none 0 0) (.slice none 0 0) [] [] e0 (fun _ => []) w1 (Qs.empty h (Nat.zero_le _) _ _)
  have HC0 : Hid (CfB (w.alloc (Obj.cells #[.string c.s, .int .i64 c.m, .string c.d, .int .i64 c.t, .bool c.b] 24)) w.heap.size c) := heap_new _ _
  have HB0 : Hid (Below w.heap.size w (w.alloc (Obj.cells #[.string c.s, .int .i64 c.m, .string c.d, .int .i64 c.t, .bool c.b] 24))) := bel1 (Below.refl _ _) (Nat.le_refl _) _
  clear hs hd
  obtain ⟨s, m, d, t, b⟩ := c
  unfold Cf.val at *
  simp only at HNW HRN HCO HLN HC0 HB0 ⊢
  go_enter Try.func4, Try.ntmps4
  go_wp2_with fail
  refine (live_any _).mono ?_
  rintro e w1 ⟨rfl, hb1⟩
  have hc1 := HC0.out.below hb1
  obtain ⟨x0, x1, x2, x3, x4⟩ := hc1.cell
  simp only at x0 x1 x2 x3 x4
  have HC1 := hide hc1
  have HB1 := hide (belOn HB0.out HB0.out.size hb1)
  clear hc1 hb1
  go_wp2_with fail
  refine Calls.mono (HNW.out _) ?_
  rintro e w2 (⟨hok, rfl, hb2⟩ | ⟨hok, qb, rfl, HN, hb2⟩)
  · have hc2 := HC1.out.below hb2
    obtain ⟨y0, y1, y2, y3, y4⟩ := hc2.cell
    simp only at y0 y1 y2 y3 y4
    have HB2 := hide (belOn HB1.out HB1.out.size hb2)
    have HOK := hide hok
    clear hc2 hb2 hok
    go_wp2_with fail
    refine Calls.mono (HRN.out _) ?_
    rintro e w3 ⟨⟨p, rfl, hp⟩, hb3⟩
    have hp' : p = none := hp.2 HOK.out
    subst hp'
    have HB3 := hide (belOn HB2.out HB2.out.size hb3)
    clear hb3 hp
    go_wp2
    go_ret
    exact ⟨rfl, HB3.out⟩
  · have hc2 := HC1.out.below hb2
    obtain ⟨y0, y1, y2, y3, y4⟩ := hc2.cell
    simp only at y0 y1 y2 y3 y4
    have HC2 := hide hc2
    have HB2 := hide (belOn HB1.out HB1.out.size hb2)
    have HOK := hide hok
    clear hc2 hb2 hok
    go_wp2_with fail
    refine Calls.mono (HRN.out _) ?_
    rintro e w3 ⟨⟨p, rfl, hp⟩, hb3⟩
    have hp' : p ≠ none := fun h => by
      have := hp.1 h
      rw [HOK.out] at this
      cases this
    obtain ⟨p, rfl⟩ := Option.ne_none_iff_exists'.1 hp'
    have HQ3 : Hid (QB w3 qb ⟨s, m, d, t, b⟩ 0 (.slice none 0 0) (.slice none 0 0)) := (Qs.below (Qs.empty HN.out.2 (Nat.zero_le _) e0 (fun _ => [])) hb3).q
    have HC3 := hide (HC2.out.below hb3)
    have HB3 := hide (belOn HB2.out HB2.out.size hb3)
    clear hb3 hp hp'
    go_wp2_with fail
    refine Calls.mono (HLN.out _ _ HQ3.out) ?_
    rintro e w4 ⟨rfl, hb4⟩
    have hc4 := HC3.out.below hb4
    have HC4 := hide hc4
    have HB4 := hide (belOn HB3.out HB3.out.size hb4)
    have HQ4 : Hid (QB w4 qb ⟨s, m, d, t, b⟩ 0 (.slice none 0 0) (.slice none 0 0)) := (Qs.below (Qs.empty HQ3.out (Nat.zero_le _) e0 (fun _ => [])) hb4).q
    have HCO4 : Hid (Calls Try.prog 11 #[.pointer (some ⟨qb, 0, none⟩)] w4.drew fun e w' => e = .returned (.agg #[.string s, .int .i64 m, .string d, .int .i64 t, .bool b]) ∧ Hid (Below w.heap.size w w') ∧ Hid (CfB w' w.heap.size ⟨s, m, d, t, b⟩)) := by
      have hdr : Below w4.heap.size w4 w4.drew := (Below.refl _ w4).drew
      refine (HCO.out _ _ (Qs.below (Qs.empty HQ4.out (Nat.zero_le _) e0 (fun _ => [])) hdr).q).mono fun e w' h => ⟨h.1, ?_, ?_⟩
      · exact belOn (belOn HB4.out HB4.out.size hdr) (Nat.le_trans HB4.out.size hdr.size) h.2
      · exact (HC4.out.below hdr).below h.2
    clear hb4 hc4
    go_wp2_with fail
    go_region_held (fun W => W.cell? ⟨w.heap.size, 0, none⟩ = some (.string s) ∧ W.cell? ⟨w.heap.size, 1, none⟩ = some (.int .i64 m) ∧ W.cell? ⟨w.heap.size, 2, none⟩ = some (.string d) ∧ W.cell? ⟨w.heap.size, 3, none⟩ = some (.int .i64 t) ∧ W.cell? ⟨w.heap.size, 4, none⟩ = some (.bool b)) (first | exact HC5.out.cell | exact HC4.out.cell) ((go_at_call 11; refine Calls.mono HCO4.out ?_; rintro e5 w5 ⟨rfl, HB5, HC5⟩))
    go_wp2
    go_ret
    exact ⟨rfl, HB5.out⟩
end Go.Proofs.Ytnbhifakfehefaa
