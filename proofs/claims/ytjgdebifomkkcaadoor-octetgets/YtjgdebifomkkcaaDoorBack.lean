/- longshorelaw01's back. -/
import Derived.Test.YtjgdebifomkkcaaDoorLent
import Derived.Test.YtjgdebifomkkcaaDoorGet
namespace Go.Proofs.YtjgdebifomkkcaaDoor
open Go.RowKit
set_option linter.unusedVariables false
set_option maxHeartbeats 1000000 in
theorem back_any (g : Nat) (a : Option Addr) (n cap : Nat) (l : List Nat) (w : World) (hrow : w.rowIs g 5 (n + 2) (fun i => .int .u8 (((l ++ [71, 72]).getD i 0 : Nat) : Int)))
    (hl : Rd w (some ⟨g, 0, none⟩) n l) (hall : Rd w (some ⟨g, 0, none⟩) (n + 2) (l ++ [71, 72])) (hb : Rd w a n l) (hn : n ≤ 140737488355328) :
    Calls Tryd.prog 17 #[.slice (some ⟨g, 0, none⟩) (n + 2) (n + 2), .slice a n cap] w fun e w' => e = .returned (.bool true) ∧ ∃ nq, w' = w.drewN nq := by
  have h1 := hrow.cell (show n < n + 2 by omega)
  have h2 := hrow.cell (show n + 1 < n + 2 by omega)
  have hlt := hrow.lt
  have hlen := hl.1
  have e1 : (l ++ [71, 72]).getD n 0 = 71 := by simp [List.getD_eq_getElem?_getD, ← hlen]
  have e2 : (l ++ [71, 72]).getD (n + 1) 0 = 72 := by simp [List.getD_eq_getElem?_getD, ← hlen]
  rw [e1] at h1
  rw [e2] at h2
  have HL := hide hl
  have HB := hide hb
  have H1 := hide h1
  have H2 := hide h2
  clear hl hall hb hrow e1 e2 h1 h2
  go_enter Tryd.func17, Tryd.ntmps17
  go_wp2_with fail
  refine (same_eq _ _ n _ _ l w HL.out HB.out (by omega)).mono ?_
  rintro e w1 ⟨rfl, nq, rfl⟩
  have g1 := H1.out
  have g2 := H2.out
  go_wp2
  go_ret
  exact ⟨rfl, _, rfl⟩
end Go.Proofs.YtjgdebifomkkcaaDoor
