/- What came in, opened: ints. -/
import Derived.Test.YtjgdebifomkkcaaDoorOpen
import Derived.Test.YtjgdebifomkkcaaDoorPtsP
namespace Go.Proofs.YtjgdebifomkkcaaDoor
open Go.RowKit Go.ChangeShapes Go.WideShapes Go.ChangeAt
theorem Tryd.cells3 : Tryd.prog.cellsOf 3 = 1 := by kernel_rfl
theorem Tryd.bytes3 : Tryd.prog.bytesOf 3 = 8 := by kernel_rfl
theorem ints_openZ {H : Type} {enc : TypeId × Value → H} {W : World} {a : Option Addr} {len cap fuel j : Nat} {x : DataW H × List MemPlace} {ts : List TypeId} {ds : List (DataW H)}
    (hf : DataW.trod enc Tryd.prog W 0 (fun _ => true) true fuel 41 [.slice a len cap] = some x) (hsz : (DataW.weightsEach Tryd.prog ts ds).all (· ≤ reachBytes) = true)
    (ht : ts[j]? = some 41) (hd : ds[j]? = some x.1) : ∃ zs : List Int, Rz W a len zs ∧ len ≤ 17592186043904 := by
  rcases open_ints Tryd.underlying41 Tryd.underlying3 Tryd.cells3 hf with ⟨hcs, hx⟩ | ⟨y, l, c, zs, hcs, _, hl, hm, hz, hx, hcell, hwz⟩
  · simp at hcs
    obtain ⟨rfl, rfl, rfl⟩ := hcs
    exact ⟨[], fun h => by omega, by omega⟩
  · simp at hcs
    obtain ⟨rfl, rfl, rfl⟩ := hcs
    simp only [if_true] at hz
    subst hx
    have hs0 := sized_slice hsz ht hd Tryd.underlying41
    rw [Tryd.bytes3] at hs0
    simp only [lits, List.length_map, List.length_take, List.length_drop, reachBytes] at hs0
    refine ⟨zs, fun hn => ?_, by omega⟩
    obtain ⟨b, off, spot⟩ := y
    have hc := hcell 0 (by omega)
    have hspot : spot = none := by simpa [Addr.add] using World.cell?_spot hc
    subst hspot
    refine ⟨b, off, rfl, block_lt_of_cell hc, fun j hj => ?_⟩
    rw [← add_none]
    exact hcell j (by omega)
end Go.Proofs.YtjgdebifomkkcaaDoor
