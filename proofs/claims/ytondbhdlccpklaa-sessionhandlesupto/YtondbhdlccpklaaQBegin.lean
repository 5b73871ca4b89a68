
/- Stage 13: a Begin that may be; New. -/
import Derived.Test.YtondbhdlccpklaaQWord
namespace Go.Proofs.Ytondbhdlccpklaa
open Go.RowKit Go.Maps
set_option linter.unusedVariables false
set_option linter.unusedSimpArgs false

/-- what is read of a performative -/
def PfB (A : Array Value) (ki ni iw no ow hm : Int) : Prop := A.size = 128 ∧ A[0]? = some (.int .i64 ki) ∧ A[12]? = some (.int .i64 ni) ∧ A[13]? = some (.int .i64 iw) ∧ A[14]? = some (.int .i64 no) ∧ A[15]? = some (.int .i64 ow) ∧ A[16]? = some (.int .i64 hm)
def four (ki iw no ow hm : Int) : Bool := decide (ki = 17) && [no, iw, ow, hm].all isW
set_option maxRecDepth 100000 in
theorem mayBegin_any (A : Array Value) (ki ni iw no ow hm : Int) (hA : PfB A ki ni iw no ow hm) (w : World) :
    Calls Try.prog 36 #[.agg A] w fun e w' => e = .returned (.bool (four ki iw no ow hm)) ∧ Below w.heap.size w w' := by
  obtain ⟨hs, h0, h12, h13, h14, h15, h16⟩ := hA
  clear hs
  by_cases hk : ki = 17
  · subst hk
    have HW := hide (areWords_any (w.heap.size + 1) [no, iw, ow, hm] ((w.alloc (.cells A 39)).alloc (.cells #[.int .i64 no, .int .i64 iw, .int .i64 ow, .int .i64 hm] 3)) (by simp) (by simp) (by
      intro j hj
      have : j = 0 ∨ j = 1 ∨ j = 2 ∨ j = 3 := by simp at hj; omega
      rcases this with rfl | rfl | rfl | rfl <;> simp))
    have HF : Hid (four 17 iw no ow hm = [no, iw, ow, hm].all isW) := by simp [Hid, four]
    obtain ⟨r, hr⟩ : ∃ r, [no, iw, ow, hm].all isW = r := ⟨_, rfl⟩
    rw [hr] at HF HW
    rw [HF.out]
    clear HF hr
    go_enter Try.func36, Try.ntmps36
    go_wp2_with (go_at_call 55; refine HW.out.mono ?_; rintro e1 w1 ⟨rfl, rfl⟩)
    go_ret
    exact ⟨rfl, bel1 (bel1 (Below.refl _ _) (Nat.le_refl _) _) (by simp) _⟩
  · rw [show four ki iw no ow hm = false by simp [four, hk]]
    go_enter Try.func36, Try.ntmps36
    go_wp2
    go_ret
    exact ⟨rfl, bel1 (Below.refl _ _) (Nat.le_refl _) _⟩
end Go.Proofs.Ytondbhdlccpklaa
