/- What came in, opened: ints. -/
import Derived.Test.YtjgdebifomkkcabDoorOpen
import Derived.Test.YtjgdebifomkkcabDoorJoinP
namespace Go.Proofs.YtjgdebifomkkcabDoor
open Go.RowKit Go.ChangeShapes Go.WideShapes Go.ChangeAt
theorem Tryd.cells3 : Tryd.prog.cellsOf 3 = 1 := by kernel_rfl
theorem ints_open {H : Type} {enc : TypeId × Value → H} {W : World} {a : Option Addr} {len cap fuel : Nat} {x : DataW H × List MemPlace}
    (hf : DataW.trod enc Tryd.prog W 0 (fun _ => true) true fuel 35 [.slice a len cap] = some x) :
    ∃ zs : List Int, Ri W a len zs ∧ len ≤ cap ∧ ((x.1 = .nil ∧ cap = 0) ∨ ∃ e s, x.1 = .slice e s ∧ e.length + s.length = cap) := by
  rcases open_ints Tryd.underlying35 Tryd.underlying3 Tryd.cells3 hf with ⟨hcs, hx⟩ | ⟨y, l, c, zs, hcs, _, hl, hm, hz, hx, hcell, hwz⟩
  · simp at hcs
    obtain ⟨rfl, rfl, rfl⟩ := hcs
    subst hx
    exact ⟨[], fun h => by omega, Nat.le_refl _, .inl ⟨rfl, rfl⟩⟩
  · simp at hcs
    obtain ⟨rfl, rfl, rfl⟩ := hcs
    simp only [if_true] at hz
    subst hx
    refine ⟨zs, fun hn => ?_, hl, .inr ⟨_, _, rfl, by simp [lits]; omega⟩⟩
    obtain ⟨b, off, spot⟩ := y
    have hc := hcell 0 (by omega)
    have hspot : spot = none := by simpa [Addr.add] using World.cell?_spot hc
    subst hspot
    refine ⟨b, off, rfl, block_lt_of_cell hc, fun j hj => ?_⟩
    rw [← add_none]
    exact hcell j (by omega)
end Go.Proofs.YtjgdebifomkkcabDoor
