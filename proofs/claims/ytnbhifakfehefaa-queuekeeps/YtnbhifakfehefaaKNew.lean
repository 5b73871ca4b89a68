
/- Stage 17: New. -/
import Derived.Test.YtnbhifakfehefaaKName
import Derived.Test.YtnbhifakfehefaaShelf
import Derived.Deep.RegionHeld
namespace Go.Proofs.Ytnbhifakfehefaa
open Go.RowKit
set_option linter.unusedVariables false
set_option linter.unusedSimpArgs false
/-- a configuration -/
structure Cf where
  s : ByteArray
  m : Int
  d : ByteArray
  t : Int
  b : Bool
def Cf.val (c : Cf) : Value := .agg #[.string c.s, .int .i64 c.m, .string c.d, .int .i64 c.t, .bool c.b]
def Cf.ok (c : Cf) : Bool := nameOk c.s && decide (1 ≤ c.m ∧ c.m ≤ 4096) && decide (0 ≤ c.t ∧ c.t ≤ 4294967295) && (c.d.toList == [] || (nameOk c.d && !(c.d.toList == c.s.toList)))
/-- a queue's block -/
def QB (w : World) (g : Nat) (c : Cf) (hi : Int) (A F : Value) : Prop := w.heap[g]? = some (.cells #[.string c.s, .int .i64 c.m, .string c.d, .int .i64 c.t, .bool c.b, .int .i64 hi, A, F] 63 (0, 0))
theorem clone_any (s : ByteArray) (hs : s.size ≤ 281474976710656) (w : World) : Calls Try.prog 22 #[.string s] w fun e w' => e = .returned (.string s) ∧ Below w.heap.size w w' := by
  go_enter Try.func22, Try.ntmps22
  go_wp2_with fail
  refine (Try.stringslite_Clone s w hs).mono ?_
  rintro e w' ⟨rfl, hb⟩
  go_wp2
  go_ret
  exact ⟨rfl, hb⟩
/-- while New makes its own texts: its box stays as it is -/
def RR (w : World) (s : ByteArray) (m : Int) (d : ByteArray) (t : Int) (b : Bool) (W1 : World) : Prop := Hid (W1.heap[w.heap.size]? = some (.cells #[.string s, .int .i64 m, .string d, .int .i64 t, .bool b] 24 (0, 0)) ∧ Below w.heap.size w W1)
theorem rr_set0 {w W1 : World} {s d : ByteArray} {m t : Int} {b : Bool} (h : RR w s m d t b W1) : RR w s m d t b (W1.setCell ⟨w.heap.size, 0, none⟩ (.string s)) := by
  refine ⟨?_, h.out.2.setCell (p := ⟨w.heap.size, 0, none⟩) (Nat.le_refl _) _⟩
  simp [World.setCell, Array.getElem?_modify, h.out.1]
theorem rr_set2 {w W1 : World} {s d : ByteArray} {m t : Int} {b : Bool} (h : RR w s m d t b W1) : RR w s m d t b (W1.setCell ⟨w.heap.size, 2, none⟩ (.string d)) := by
  refine ⟨?_, h.out.2.setCell (p := ⟨w.heap.size, 2, none⟩) (Nat.le_refl _) _⟩
  simp [World.setCell, Array.getElem?_modify, h.out.1]
/-- what New answers -/
def NewP (c : Cf) (w : World) (e : Ending) (w' : World) : Prop := (c.ok = false ∧ e = .returned (.pointer none) ∧ Below w.heap.size w w') ∨ (c.ok = true ∧ ∃ g, e = .returned (.pointer (some ⟨g, 0, none⟩)) ∧ Hid (w.heap.size ≤ g ∧ QB w' g c 0 (.slice none 0 0) (.slice none 0 0)) ∧ Below w.heap.size w w')
set_option maxRecDepth 100000 in
set_option maxHeartbeats 4000000 in
theorem new_any (c : Cf) (hs : c.s.size ≤ 281474976710656) (hd : c.d.size ≤ 281474976710656) (w : World) : Calls Try.prog 8 #[c.val] w (NewP c w) := by
  obtain ⟨s, m, d, t, b⟩ := c
  unfold Cf.val
  simp only at hs hd
  have HNO : Hid (∀ w', Below w.heap.size w w' → Cf.ok ⟨s, m, d, t, b⟩ = false → NewP ⟨s, m, d, t, b⟩ w (.returned (.pointer none)) w') := fun w' hb ho => .inl ⟨ho, rfl, hb⟩
  have HNM : Hid (∀ w1, Calls Try.prog 21 #[.string s] w1 fun e w' => e = .returned (.bool (nameOk s)) ∧ w' = w1) := fun w1 => isName_any s hs w1
  have HND : Hid (∀ w1, Calls Try.prog 21 #[.string d] w1 fun e w' => e = .returned (.bool (nameOk d)) ∧ w' = w1) := fun w1 => isName_any d hd w1
  have HCL : Hid (∀ (x : ByteArray) (w1 : World), x.size ≤ 281474976710656 → Below w.heap.size w w1 → w1.heap[w.heap.size]? = some (.cells #[.string s, .int .i64 m, .string d, .int .i64 t, .bool b] 24 (0, 0)) → Calls Try.prog 22 #[.string x] w1 fun e w' => e = .returned (.string x) ∧ RR w s m d t b w') := fun x w1 hx hb hh => (clone_any x hx w1).mono fun e w' ⟨he, hb'⟩ => ⟨he, ⟨(hb'.block _ (Array.getElem?_eq_some_iff.1 hh).1).trans hh, belOn hb hb.size hb'⟩⟩
  have HR0 : RR w s m d t b (w.alloc (Obj.cells #[.string s, .int .i64 m, .string d, .int .i64 t, .bool b] 24)).drew := ⟨heap_new w _, (bel1 (Below.refl _ _) (Nat.le_refl _) _).drew⟩
  have HSK : Hid (∀ W1, RR w s m d t b W1 → W1.cell? ⟨w.heap.size, 0, none⟩ = some (.string s) ∧ W1.cell? ⟨w.heap.size, 2, none⟩ = some (.string d) ∧ W1.frozen? ⟨w.heap.size, 0, none⟩ = false ∧ W1.frozen? ⟨w.heap.size, 2, none⟩ = false) := fun W1 h => ⟨by simp [World.cell?, h.out.1], by simp [World.cell?, h.out.1], by simp [World.frozen?, h.out.1], by simp [World.frozen?, h.out.1]⟩
  have HST0 : Hid (∀ W1, RR w s m d t b W1 → RR w s m d t b (W1.setCell ⟨w.heap.size, 0, none⟩ (.string s))) := fun W1 h => rr_set0 h
  have HST2 : Hid (∀ W1, RR w s m d t b W1 → RR w s m d t b (W1.setCell ⟨w.heap.size, 2, none⟩ (.string d))) := fun W1 h => rr_set2 h
  have hmx : Try.prog.follows .mixedOrders = true := by kernel_rfl
  have HB0 : Hid (Below w.heap.size w (w.alloc (Obj.cells #[.string s, .int .i64 m, .string d, .int .i64 t, .bool b] 24))) := bel1 (Below.refl _ _) (Nat.le_refl _) _
  cases h1 : nameOk s
  · have HO : Hid (Cf.ok ⟨s, m, d, t, b⟩ = false) := by show _ = _; simp [Cf.ok, h1]
    rw [h1] at HNM
    clear h1
    go_enter Try.func8, Try.ntmps8
    go_wp2_with fail
    refine Calls.mono (HNM.out _) ?_
    rintro e w' ⟨rfl, rfl⟩
    go_wp2_with fail
    go_ret
    exact HNO.out _ HB0.out HO.out
  rw [h1] at HNM
  by_cases h2 : 1 ≤ m ∧ m ≤ 4096 ∧ 0 ≤ t ∧ t ≤ 4294967295
  · obtain ⟨m1, m2, t1, t2⟩ := h2
    have HH1 := hide h1
    clear h1
    go_enter Try.func8, Try.ntmps8
    go_wp2_with fail
    refine Calls.mono (HNM.out _) ?_
    rintro e w' ⟨rfl, rfl⟩
    cases hde : (d.toList == [])
    · go_wp2_with fail
      refine Calls.mono (HND.out _) ?_
      rintro e w' ⟨rfl, rfl⟩
      cases hdn : nameOk d
      · have HO : Hid (Cf.ok ⟨s, m, d, t, b⟩ = false) := by show _ = _; simp [Cf.ok, hde, hdn]
        clear hdn
        go_wp2_with fail
        go_ret
        exact HNO.out _ HB0.out HO.out
      · cases hds : (d.toList == s.toList)
        · have HO : Hid (Cf.ok ⟨s, m, d, t, b⟩ = true) := by show _ = _; simp [Cf.ok, hde, hdn, hds, HH1.out, m1, m2, t1, t2]
          clear hdn
          go_wp2_with fail
          go_region_held (fun W1 => W1.cell? ⟨w.heap.size, 0, none⟩ = some (.string s) ∧ W1.cell? ⟨w.heap.size, 2, none⟩ = some (.string d) ∧ W1.frozen? ⟨w.heap.size, 0, none⟩ = false ∧ W1.frozen? ⟨w.heap.size, 2, none⟩ = false) (first | exact HSK.out _ HR0 | exact HSK.out _ hr | exact HSK.out _ hr2 | exact HSK.out _ (HST0.out _ hr2) | exact HSK.out _ (HST2.out _ (HST0.out _ hr2))) (first | (go_at_call 22; first | (refine Calls.mono (HCL.out s _ hs HR0.out.2 HR0.out.1) ?_; rintro e w1 ⟨rfl, hr⟩) | (refine Calls.mono (HCL.out d _ hd hr.out.2 hr.out.1) ?_; rintro e w2 ⟨rfl, hr2⟩)))
          obtain ⟨W3, hW3⟩ : ∃ W3, (w2.setCell ⟨w.heap.size, 0, none⟩ (.string s)).setCell ⟨w.heap.size, 2, none⟩ (.string d) = W3 := ⟨_, rfl⟩
          have hr3 : RR w s m d t b W3 := by rw [← hW3]; exact HST2.out _ (HST0.out _ hr2)
          rw [hW3]
          clear hW3
          have hz3 : w.heap.size < W3.heap.size := (Array.getElem?_eq_some_iff.1 hr3.out.1).1
          obtain ⟨x0, x1, x2, x3, x4⟩ : W3.cell? ⟨w.heap.size, 0, none⟩ = some (.string s) ∧ W3.cell? ⟨w.heap.size, 1, none⟩ = some (.int .i64 m) ∧ W3.cell? ⟨w.heap.size, 2, none⟩ = some (.string d) ∧ W3.cell? ⟨w.heap.size, 3, none⟩ = some (.int .i64 t) ∧ W3.cell? ⟨w.heap.size, 4, none⟩ = some (.bool b) := by refine ⟨?_, ?_, ?_, ?_, ?_⟩ <;> simp only [World.cell?, hr3.out.1] <;> rfl
          go_wp2
          go_ret
          exact .inr ⟨HO.out, W3.heap.size, rfl, ⟨by omega, heap_new _ _⟩, bel1 hr3.out.2 (by omega) _⟩
        · have HO : Hid (Cf.ok ⟨s, m, d, t, b⟩ = false) := by show _ = _; simp [Cf.ok, hde, hdn, hds]
          clear hdn
          go_wp2_with fail
          go_ret
          exact HNO.out _ HB0.out HO.out
    · have HO : Hid (Cf.ok ⟨s, m, d, t, b⟩ = true) := by show _ = _; simp [Cf.ok, hde, HH1.out, m1, m2, t1, t2]
      go_wp2_with fail
      go_region_held (fun W1 => W1.cell? ⟨w.heap.size, 0, none⟩ = some (.string s) ∧ W1.cell? ⟨w.heap.size, 2, none⟩ = some (.string d) ∧ W1.frozen? ⟨w.heap.size, 0, none⟩ = false ∧ W1.frozen? ⟨w.heap.size, 2, none⟩ = false) (first | exact HSK.out _ HR0 | exact HSK.out _ hr | exact HSK.out _ hr2 | exact HSK.out _ (HST0.out _ hr2) | exact HSK.out _ (HST2.out _ (HST0.out _ hr2))) (first | (go_at_call 22; first | (refine Calls.mono (HCL.out s _ hs HR0.out.2 HR0.out.1) ?_; rintro e w1 ⟨rfl, hr⟩) | (refine Calls.mono (HCL.out d _ hd hr.out.2 hr.out.1) ?_; rintro e w2 ⟨rfl, hr2⟩)))
      obtain ⟨W3, hW3⟩ : ∃ W3, (w2.setCell ⟨w.heap.size, 0, none⟩ (.string s)).setCell ⟨w.heap.size, 2, none⟩ (.string d) = W3 := ⟨_, rfl⟩
      have hr3 : RR w s m d t b W3 := by rw [← hW3]; exact HST2.out _ (HST0.out _ hr2)
      rw [hW3]
      clear hW3
      have hz3 : w.heap.size < W3.heap.size := (Array.getElem?_eq_some_iff.1 hr3.out.1).1
      obtain ⟨x0, x1, x2, x3, x4⟩ : W3.cell? ⟨w.heap.size, 0, none⟩ = some (.string s) ∧ W3.cell? ⟨w.heap.size, 1, none⟩ = some (.int .i64 m) ∧ W3.cell? ⟨w.heap.size, 2, none⟩ = some (.string d) ∧ W3.cell? ⟨w.heap.size, 3, none⟩ = some (.int .i64 t) ∧ W3.cell? ⟨w.heap.size, 4, none⟩ = some (.bool b) := by refine ⟨?_, ?_, ?_, ?_, ?_⟩ <;> simp only [World.cell?, hr3.out.1] <;> rfl
      go_wp2
      go_ret
      exact .inr ⟨HO.out, W3.heap.size, rfl, ⟨by omega, heap_new _ _⟩, bel1 hr3.out.2 (by omega) _⟩
  · have HO : Hid (Cf.ok ⟨s, m, d, t, b⟩ = false) := by
      show _ = _
      have : ¬ ((1 ≤ m ∧ m ≤ 4096) ∧ (0 ≤ t ∧ t ≤ 4294967295)) := fun h => h2 ⟨h.1.1, h.1.2, h.2.1, h.2.2⟩
      by_cases hm : 1 ≤ m ∧ m ≤ 4096
      · have ht : ¬ (0 ≤ t ∧ t ≤ 4294967295) := fun h => this ⟨hm, h⟩
        simp only [Cf.ok, decide_eq_false ht, Bool.and_false, Bool.false_and]
      · simp only [Cf.ok, decide_eq_false hm, Bool.and_false, Bool.false_and]
    have h3 : m < 1 ∨ (1 ≤ m ∧ 4096 < m) ∨ (1 ≤ m ∧ m ≤ 4096 ∧ t < 0) ∨ (1 ≤ m ∧ m ≤ 4096 ∧ 0 ≤ t ∧ 4294967295 < t) := by omega
    clear h1 h2
    rcases h3 with h3 | ⟨h3, h4⟩ | ⟨h3, h4, h5⟩ | ⟨h3, h4, h5, h6⟩
    all_goals
      go_enter Try.func8, Try.ntmps8
      go_wp2_with fail
      refine Calls.mono (HNM.out _) ?_
      rintro e w' ⟨rfl, rfl⟩
      go_wp2_with fail
      go_ret
      exact HNO.out _ HB0.out HO.out
end Go.Proofs.Ytnbhifakfehefaa
