
/- RouteReads: the walk. -/
import Derived.Test.YtmanfakdbmlfeaaDoorRRef4
namespace Go.Proofs.YtmanfakdbmlfeaaDoor
open Go.RowKit Go.Maps
set_option linter.unusedVariables false
set_option linter.unusedSimpArgs false
set_option maxHeartbeats 2000000 in
theorem reads_walk (s : ByteArray) (w : World) (hs : s.size ≤ 1048576) : Calls Tryd.prog 5 #[.string s] w fun e w' => e = .returned (.bool true) ∧ Below w.heap.size w w' := by
  obtain ⟨x, hx⟩ : ∃ x, x = adr s := ⟨_, rfl⟩
  have HP := fun W => Address_any s (by omega) W
  have HR := fun W => rAddress_any s (by omega) W
  rw [← hx] at HP HR
  clear hx
  obtain ⟨x1, x2, x3⟩ := x
  have HP := hide HP
  have HR := hide HR
  go_enter Tryd.func5, Tryd.ntmps5
  go_wp2_with fail
  refine (awake_any w).mono ?_
  rintro e w0 ⟨rfl, hb0⟩
  go_wp2_with fail
  refine (HP.out w0).mono ?_
  rintro e w1 ⟨rfl, hb1⟩
  go_wp2_with fail
  refine (HR.out w1).mono ?_
  rintro e w2 ⟨rfl, hb2⟩
  go_wp2
  go_ret
  exact ⟨rfl, belOn (belOn hb0 hb0.size hb1) (Nat.le_trans hb0.size hb1.size) hb2⟩
end Go.Proofs.YtmanfakdbmlfeaaDoor
