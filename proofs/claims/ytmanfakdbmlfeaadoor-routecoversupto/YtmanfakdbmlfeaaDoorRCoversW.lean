
/- RouteCovers: the walk. -/
import Derived.Test.YtmanfakdbmlfeaaDoorRRCov
namespace Go.Proofs.YtmanfakdbmlfeaaDoor
open Go.RowKit Go.Maps
set_option linter.unusedVariables false
set_option linter.unusedSimpArgs false
set_option maxHeartbeats 4000000 in
theorem covers_walk (a b : ByteArray) (w : World) (ha : a.size ≤ 1048576) (hb : b.size ≤ 1048576) : Calls Tryd.prog 4 #[.string a, .string b] w fun e w' => e = .returned (.bool true) ∧ Below w.heap.size w w' := by
  have HCV : Hid (∀ (x y : ByteArray) (W : World), x.size ≤ 1048576 → y.size ≤ 1048576 → Below w.heap.size w W → Calls Tryd.prog 11 #[.string x, .string y] W fun e w' => e = .returned (.tuple #[.bool (covR x y), .int .i64 (covE x y)]) ∧ Hid (Below w.heap.size w w')) := fun x y W h1 h2 h3 =>
    (Covers_any x y (by omega) (by omega) W).mono fun e w' ⟨q1, q2⟩ => ⟨q1, belOn h3 h3.size q2⟩
  have HRV : Hid (∀ (x y : ByteArray) (W : World), x.size ≤ 1048576 → y.size ≤ 1048576 → Below w.heap.size w W → Calls Tryd.prog 12 #[.string x, .string y] W fun e w' => e = .returned (.tuple #[.bool (covR x y), .int .i64 (covE x y)]) ∧ Hid (Below w.heap.size w w')) := fun x y W h1 h2 h3 =>
    (rCovers_any x y (by omega) (by omega) W).mono fun e w' ⟨q1, q2⟩ => ⟨q1, belOn h3 h3.size q2⟩
  go_enter Tryd.func4, Tryd.ntmps4
  go_wp2_with fail
  refine (awake_any w).mono ?_
  rintro e w0 ⟨rfl, hb0⟩
  go_wp2_with fail
  refine (HCV.out a b w0 ha hb hb0).mono ?_
  rintro e w1 ⟨rfl, hb1⟩
  go_wp2_with fail
  refine (HRV.out a b w1 ha hb hb1.out).mono ?_
  rintro e w2 ⟨rfl, hb2⟩
  go_wp2_with fail
  refine (HCV.out b a w2 hb ha hb2.out).mono ?_
  rintro e w3 ⟨rfl, hb3⟩
  go_wp2_with fail
  refine (HRV.out b a w3 hb ha hb3.out).mono ?_
  rintro e w4 ⟨rfl, hb4⟩
  go_wp2_with fail
  refine (HCV.out a a w4 ha ha hb4.out).mono ?_
  rintro e w5 ⟨rfl, hb5⟩
  go_wp2_with fail
  refine (HRV.out a a w5 ha ha hb5.out).mono ?_
  rintro e w6 ⟨rfl, hb6⟩
  go_wp2
  go_ret
  exact ⟨rfl, hb6.out⟩
end Go.Proofs.YtmanfakdbmlfeaaDoor
