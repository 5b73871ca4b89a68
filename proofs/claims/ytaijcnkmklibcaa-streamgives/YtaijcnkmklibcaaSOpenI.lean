
/- Stage 6: ints that came in. -/
import Derived.Test.YtaijcnkmklibcaaSOpen
import Derived.Test.YtaijcnkmklibcaaSRunW
namespace Go.Proofs.Ytaijcnkmklibcaa
open Go.RowKit Go.ChangeShapes Go.WideShapes Go.ChangeAt
set_option linter.unusedVariables false
theorem Try.cellsI : Try.prog.cellsOf 3 = 1 := by kernel_rfl
theorem ints_in {H : Type} {enc : TypeId × Value → H} {W : World} {a : Option Addr} {len cap fuel : Nat} {x : DataW H × List MemPlace}
    (hf : DataW.trod enc Try.prog W 0 (fun _ => true) true fuel 37 [.slice a len cap] = some x) (hb : Rows.uptoBulk x.1 ≤ 1048576) : len ≤ 1048576 ∧ ∃ zs : List Int, Ri W a len zs ∧ ∀ j, j < len → -9223372036854775808 ≤ zs.getD j 0 ∧ zs.getD j 0 < 9223372036854775808 := by
  rcases open_ints Try.underlying37 Try.underlying3 Try.cellsI hf with ⟨hcs, hx⟩ | ⟨y, l, c, zs, hcs, _, hl, hm, hz, hx, hcell, hwz⟩
  · simp at hcs
    obtain ⟨rfl, rfl, rfl⟩ := hcs
    exact ⟨by omega, [], fun h => by omega, fun j h => by omega⟩
  · simp at hcs
    obtain ⟨rfl, rfl, rfl⟩ := hcs
    simp only [if_true] at hz
    subst hx
    have h2 := bulk_len (lits (H := H) .i64 (zs.take len))
    have h4 : (lits (H := H) .i64 (zs.take len)).length = len := by simp [lits]; omega
    rw [h4] at h2
    have h5 : Rows.uptoBulkAll (lits (H := H) .i64 (zs.take len)) ≤ 1048576 := by
      simp only [Rows.uptoBulk] at hb
      omega
    refine ⟨by omega, zs, fun hn => ?_, fun j hj => ?_⟩
    · obtain ⟨b, off, spot⟩ := y
      have hc := hcell 0 (by omega)
      have hspot : spot = none := by simpa [Addr.add] using World.cell?_spot hc
      subst hspot
      refine ⟨b, off, rfl, block_lt_of_cell hc, fun j hj => ?_⟩
      rw [← add_none]
      exact hcell j (by omega)
    · have hjz : j < zs.length := by omega
      have := wf_i64 (hwz (zs.getD j 0) (by rw [List.getD_eq_getElem?_getD, List.getElem?_eq_getElem hjz]; exact List.getElem_mem hjz))
      omega
end Go.Proofs.Ytaijcnkmklibcaa
