
/- Stage 17: the document's New; Config. -/
import Derived.Test.YtnbhifakfehefaaKSmall
namespace Go.Proofs.Ytnbhifakfehefaa
open Go.RowKit
set_option linter.unusedVariables false
set_option linter.unusedSimpArgs false
def Cf.bel (c : Cf) (w : World) : World := w.alloc (Obj.cells #[.string c.s, .int .i64 c.m, .string c.d, .int .i64 c.t, .bool c.b] 24)
set_option maxRecDepth 100000 in
set_option maxHeartbeats 8000000 in
theorem refConfig_any (c : Cf) (hs : c.s.size ≤ 281474976710656) (hd : c.d.size ≤ 281474976710656) (w : World) : Calls Try.prog 23 #[c.val] w fun e w' => e = .returned (.bool c.ok) ∧ Below w.heap.size w w' := by
  obtain ⟨s, m, d, t, b⟩ := c
  unfold Cf.val
  simp only at hs hd
  have HB0 : Hid (Below w.heap.size w (w.alloc (Obj.cells #[.string s, .int .i64 m, .string d, .int .i64 t, .bool b] 24))) := bel1 (Below.refl _ _) (Nat.le_refl _) _
  have HNM : Hid (∀ w1, Calls Try.prog 40 #[.string s] w1 fun e w' => e = .returned (.bool (nameOk s)) ∧ w' = w1) := fun w1 => refName_any s hs w1
  have HND : Hid (∀ w1, Calls Try.prog 40 #[.string d] w1 fun e w' => e = .returned (.bool (nameOk d)) ∧ w' = w1) := fun w1 => refName_any d hd w1
  have HOK : Hid (Cf.ok ⟨s, m, d, t, b⟩ = (nameOk s && decide (1 ≤ m ∧ m ≤ 4096) && decide (0 ≤ t ∧ t ≤ 4294967295) && (d.toList == [] || (nameOk d && !(d.toList == s.toList))))) := rfl
  clear hs hd
  go_enter Try.func23, Try.ntmps23
  go_wp2_with fail
  refine Calls.mono (HNM.out _) ?_
  rintro e w' ⟨rfl, rfl⟩
  go_wp2_with fail
  refine Calls.mono (HND.out _) ?_
  rintro e w' ⟨rfl, rfl⟩
  generalize nameOk s = A at *
  generalize nameOk d = N at *
  cases A
  · have HF : Hid (Cf.ok ⟨s, m, d, t, b⟩ = false) := by rw [HOK.out]; simp [Hid]
    go_wp2
    go_ret
    exact ⟨by rw [HF.out]; rfl, HB0.out⟩
  rcases (show m < 1 ∨ (1 ≤ m ∧ 4096 < m) ∨ (1 ≤ m ∧ m ≤ 4096) by omega) with h1 | ⟨h1, h2⟩ | ⟨h1, h2⟩
  · have HF : Hid (Cf.ok ⟨s, m, d, t, b⟩ = false) := by rw [HOK.out, decide_eq_false (fun h : 1 ≤ m ∧ m ≤ 4096 => by omega)]; simp [Hid]
    go_wp2
    go_ret
    exact ⟨by rw [HF.out]; first | rfl | (simp; omega), HB0.out⟩
  · have HF : Hid (Cf.ok ⟨s, m, d, t, b⟩ = false) := by rw [HOK.out, decide_eq_false (fun h : 1 ≤ m ∧ m ≤ 4096 => by omega)]; simp [Hid]
    go_wp2
    go_ret
    exact ⟨by rw [HF.out]; first | rfl | (simp; omega), HB0.out⟩
  have HM := hide (decide_eq_true (show 1 ≤ m ∧ m ≤ 4096 from ⟨h1, h2⟩))
  obtain ⟨X, hX⟩ : ∃ X, (d.toList == [] || (N && !(d.toList == s.toList))) = X := ⟨_, rfl⟩
  have HX := hide hX
  clear hX
  cases hde : (d.toList == [])
  · cases N
    · have HF : Hid (Cf.ok ⟨s, m, d, t, b⟩ = false) := by rw [HOK.out, hde]; simp [Hid]
      go_wp2
      go_ret
      exact ⟨by rw [HF.out]; first | rfl | (simp; omega), HB0.out⟩
    · cases hds : (d.toList == s.toList)
      · have HX2 : Hid (Cf.ok ⟨s, m, d, t, b⟩ = decide (0 ≤ t ∧ t ≤ 4294967295)) := by rw [HOK.out, hde, hds, HM.out]; simp [Hid]
        rcases (show t < 0 ∨ (0 ≤ t ∧ 4294967295 < t) ∨ (0 ≤ t ∧ t ≤ 4294967295) by omega) with t1 | ⟨t1, t2⟩ | ⟨t1, t2⟩
        all_goals
          go_wp2
          go_ret
          exact ⟨by rw [HX2.out]; simp; omega, HB0.out⟩
      · have HF : Hid (Cf.ok ⟨s, m, d, t, b⟩ = false) := by rw [HOK.out, hde, hds]; simp [Hid]
        go_wp2
        go_ret
        exact ⟨by rw [HF.out]; first | rfl | (simp; omega), HB0.out⟩
  · have HX2 : Hid (Cf.ok ⟨s, m, d, t, b⟩ = decide (0 ≤ t ∧ t ≤ 4294967295)) := by rw [HOK.out, hde, HM.out]; simp [Hid]
    rcases (show t < 0 ∨ (0 ≤ t ∧ 4294967295 < t) ∨ (0 ≤ t ∧ t ≤ 4294967295) by omega) with t1 | ⟨t1, t2⟩ | ⟨t1, t2⟩
    all_goals
      go_wp2
      go_ret
      exact ⟨by rw [HX2.out]; simp; omega, HB0.out⟩
/-- what the document's New answers -/
def RNewP (k : Bool) (w : World) (e : Ending) (w' : World) : Prop := (∃ p, e = .returned (.pointer p) ∧ (p = none ↔ k = false)) ∧ Below w.heap.size w w'
set_option maxRecDepth 100000 in
set_option maxHeartbeats 4000000 in
theorem refNew_any (c : Cf) (hs : c.s.size ≤ 281474976710656) (hd : c.d.size ≤ 281474976710656) (w : World) : Calls Try.prog 9 #[c.val] w (RNewP c.ok w) := by
  have HCF : Hid (∀ w1, Calls Try.prog 23 #[c.val] w1 fun e w' => e = .returned (.bool c.ok) ∧ Below w1.heap.size w1 w') := fun w1 => refConfig_any c hs hd w1
  obtain ⟨s, m, d, t, b⟩ := c
  unfold Cf.val at *
  simp only at hs hd HCF ⊢
  have HB0 : Hid (Below w.heap.size w (w.alloc (Obj.cells #[.string s, .int .i64 m, .string d, .int .i64 t, .bool b] 24))) := bel1 (Below.refl _ _) (Nat.le_refl _) _
  have hh0 := heap_new w (Obj.cells #[.string s, .int .i64 m, .string d, .int .i64 t, .bool b] 24)
  have HH0 := hide hh0
  clear hs hd hh0
  generalize hok : Cf.ok ⟨s, m, d, t, b⟩ = K at *
  have HK := hide hok
  clear hok
  go_enter Try.func9, Try.ntmps9
  go_wp2_with fail
  refine Calls.mono (HCF.out _) ?_
  rintro e w1 ⟨rfl, hb1⟩
  have HB1 := hide (belOn HB0.out HB0.out.size hb1)
  have hh1 : w1.heap[w.heap.size]? = some (.cells #[.string s, .int .i64 m, .string d, .int .i64 t, .bool b] 24 (0, 0)) := (hb1.block _ (Array.getElem?_eq_some_iff.1 HH0.out).1).trans HH0.out
  obtain ⟨x0, x1, x2, x3, x4⟩ : w1.cell? ⟨w.heap.size, 0, none⟩ = some (.string s) ∧ w1.cell? ⟨w.heap.size, 1, none⟩ = some (.int .i64 m) ∧ w1.cell? ⟨w.heap.size, 2, none⟩ = some (.string d) ∧ w1.cell? ⟨w.heap.size, 3, none⟩ = some (.int .i64 t) ∧ w1.cell? ⟨w.heap.size, 4, none⟩ = some (.bool b) := by refine ⟨?_, ?_, ?_, ?_, ?_⟩ <;> simp only [World.cell?, hh1] <;> rfl
  clear hb1 hh1
  cases K
  · go_wp2
    go_ret
    exact ⟨⟨none, rfl, by simp⟩, HB1.out⟩
  · go_wp2
    go_ret
    exact ⟨⟨_, rfl, by simp⟩, bel1 HB1.out HB1.out.size _⟩
set_option maxRecDepth 100000 in
set_option maxHeartbeats 4000000 in
theorem config_any (qb : Nat) (c : Cf) (hi : Int) (A F : Value) (w : World) (hq : QB w qb c hi A F) : Calls Try.prog 11 #[.pointer (some ⟨qb, 0, none⟩)] w fun e w' => e = .returned c.val ∧ Below w.heap.size w w' := by
  obtain ⟨s, m, d, t, b⟩ := c
  unfold Cf.val
  obtain ⟨c0, c1, c2, c3, c4, _⟩ := hq.cell
  have hql := hq.lt
  simp only at c0 c1 c2 c3 c4
  clear hq
  go_enter Try.func11, Try.ntmps11
  go_wp2
  exact bodyPost_ret (v := .agg #[.string s, .int .i64 m, .string d, .int .i64 t, .bool b]) (by simp [results, Try.results11, go_sem]) rfl ⟨rfl, bel1 (Below.refl _ _) (Nat.le_refl _) _⟩
end Go.Proofs.Ytnbhifakfehefaa
