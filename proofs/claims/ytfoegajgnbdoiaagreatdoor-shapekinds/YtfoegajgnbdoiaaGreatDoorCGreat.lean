
/- longshoreref02's Great. -/
import Derived.Test.YtfoegajgnbdoiaaGreatDoorVWeigh
namespace Go.Proofs.YtfoegajgnbdoiaaGreatDoor
open Go.RowKit
set_option linter.unusedVariables false
set_option linter.unusedSimpArgs false

/-- Great -/
theorem great_any (x : V) (n₀ : Nat) (w : World) (hn : n₀ ≤ w.heap.size) (hx : Lies n₀ w x) :
    Calls Tryz.prog 16 #[x.val] w fun e w' => (e = .returned (.bool true) ∧ Below w.heap.size w w') ∨ (e = .returned (.bool false) ∧ T.wt x.t ≤ 100000 ∧ Below w.heap.size w w') := by
  rw [V.val_eq]
  have HW : Hid (∀ w1, Below w.heap.size w w1 → Calls Tryz.prog 38 #[.agg #[.int .i64 x.k, .int .u64 x.n, .string x.s, .slice x.a x.l.length x.c, .int .i64 x.e], .int .i64 0] w1 fun e w' => ∃ z, e = .returned (.int .i64 z) ∧ Hid (0 ≤ z ∧ z ≤ 35184372088832 ∧ (z ≤ 100000 → z = 0 + T.wt x.t)) ∧ Below w1.heap.size w1 w') := by
    intro w1 hb
    have := weigh_any x 0 n₀ w1 (by have := hb.size; omega) (hx.keep hb hn) (by omega) (by omega)
    rwa [V.val_eq] at this
  clear hx
  go_enter Tryz.func16, Tryz.ntmps16
  go_wp2_with fail
  refine Calls.mono (HW.out _ (bel1 (Below.refl _ _) (Nat.le_refl _) _)) ?_
  rintro e w1 ⟨z, rfl, HZ, hb1⟩
  have hbw := belOn (bel1 (Below.refl w.heap.size w) (Nat.le_refl _) _) (by simp) hb1
  by_cases hz : z ≤ 100000
  · go_wp2
    go_ret
    exact .inr ⟨by first | rfl | (simp; omega), by have := HZ.out.2.2 hz; omega, hbw⟩
  · go_wp2
    go_ret
    exact .inl ⟨by first | rfl | (simp; omega), hbw⟩

end Go.Proofs.YtfoegajgnbdoiaaGreatDoor
