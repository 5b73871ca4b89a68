
/- Stage 13: what came in: numbers. -/
import Derived.Test.YtondbhdlccpklaaQRgW
import Derived.Test.YtondbhdlccpklaaRows
import Derived.SizedLaws
import Derived.JoinedOf
namespace Go.Proofs.Ytondbhdlccpklaa
open Go.RowKit Go.ChangeShapes Go.WideShapes Go.ChangeAt
set_option linter.unusedVariables false
theorem own : ownKnob Try.prog.godebug = none := by kernel_rfl
theorem laidOut : laidOutB Try.prog = true := by kernel_rfl
theorem addr_add (b off j : Nat) : (⟨b, off, none⟩ : Addr).add j = ⟨b, off + j, none⟩ := by
  by_cases h : j = 0 <;> simp [Addr.add, h]
theorem Try.cellsI : Try.prog.cellsOf 3 = 1 := by kernel_rfl
theorem Try.bytesI : Try.prog.bytesOf 3 = 8 := by kernel_rfl
theorem weights_each {H : Type} {P : Program} {ts : List TypeId} {ds : List (DataW H)} (h : (DataW.weightsEach P ts ds).all (· ≤ reachBytes) = true) {j : Nat} {t : TypeId} {d : DataW H} (ht : ts[j]? = some t) (hd : ds[j]? = some d) :
    ∀ n ∈ d.weights P t, n ≤ reachBytes := fun n hn => by
  have := List.all_eq_true.1 h n (DataW.weights_mem_each ht hd n hn)
  simpa using this
theorem ints_fit {H : Type} {enc : TypeId × Value → H} {W : World} {a : Option Addr} {len cap fuel : Nat} {x : DataW H × List MemPlace}
    (hf : DataW.trod enc Try.prog W 0 (fun _ => true) true fuel 68 [.slice a len cap] = some x) (hw : ∀ n ∈ x.1.weights Try.prog 68, n ≤ reachBytes) : len ≤ 281474976710656 ∧ ∃ zs : List Int, Ri W a len zs ∧ ∀ j, j < len → wf64 (zs.getD j 0) := by
  rcases open_ints Try.underlying68 Try.underlying3 Try.cellsI hf with ⟨hcs, hx⟩ | ⟨y, l, c, zs, hcs, _, hl, hm, hz, hx, hcell, hwz⟩
  · simp at hcs
    obtain ⟨rfl, rfl, rfl⟩ := hcs
    exact ⟨by omega, [], fun h => by omega, fun j h => by omega⟩
  · simp at hcs
    obtain ⟨rfl, rfl, rfl⟩ := hcs
    simp only [if_true] at hz
    subst hx
    have h4 : (lits (H := H) .i64 (zs.take len)).length = len := by simp [lits]; omega
    have hwl : len ≤ 281474976710656 := by
      have := hw (((lits (H := H) .i64 (zs.take len)).length + _) * Try.prog.bytesOf 3) (by
        simp only [DataW.weights, Try.underlying68, List.mem_cons]
        exact .inl rfl)
      rw [Try.bytesI, h4] at this
      simp only [reachBytes] at this
      omega
    refine ⟨hwl, zs, fun hn => ?_, fun j hj => ?_⟩
    · obtain ⟨b, off, spot⟩ := y
      have hc := hcell 0 (by omega)
      have hspot : spot = none := by simpa [Addr.add] using World.cell?_spot hc
      subst hspot
      refine ⟨b, off, rfl, block_lt_of_cell hc, fun j hj => ?_⟩
      rw [← addr_add]
      exact hcell j (by omega)
    · have hjz : j < zs.length := by omega
      exact hwz (zs.getD j 0) (by rw [List.getD_eq_getElem?_getD, List.getElem?_eq_getElem hjz]; exact List.getElem_mem hjz)
end Go.Proofs.Ytondbhdlccpklaa
