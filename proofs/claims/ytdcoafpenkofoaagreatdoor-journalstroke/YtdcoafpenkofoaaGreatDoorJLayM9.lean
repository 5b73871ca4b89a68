import Derived.Test.YtdcoafpenkofoaaGreatDoorVLaid
import Derived.Test.YtdcoafpenkofoaaGreatDoorJWhAM9
import Derived.LaidLaws
import Derived.LaidHandle
import Derived.LaidSub
import Derived.Stop.LaidErr

/- Stage 20: what the rows' listed variables give a walk. -/
namespace Go.Proofs.YtdcoafpenkofoaaGreatDoor
open Go.RowKit
set_option linter.unusedVariables false
theorem jo_et : Tryz.prog.globalNamed "errors.errorType" = some 0 := by kernel_rfl
theorem jo_eb : Tryz.prog.globalNamed "longshore/journal.errBegun" = some 1 := by kernel_rfl
theorem jo_ebt : (Tryz.prog.globals[1]?).map (·.type) = some 78 := by kernel_rfl
theorem jo_rt : (Tryz.prog.cutTypes.find? (·.1 == "internal/reflectlite.rtype")).map (·.2) = some 187 := by kernel_rfl
theorem jo_one : ((List.range Tryz.prog.types.size).filter fun t => Tryz.prog.rowNamed t [101, 114, 114, 111, 114]) = [78] := by kernel_rfl
theorem jo_h : typeHandle Tryz.prog 78 = .pointer (some ⟨2, 78, none⟩) := by kernel_rfl
theorem jo_star : "*" ++ "errors.errorString" = "*errors.errorString" := by decide
theorem jo_row (u : TypeId) (h : Tryz.prog.typeName? 3 u = some "*errors.errorString") : u = 255 :=
  typeName_ptr_named (nm := "errors.errorString") (by rw [jo_star]; kernel_rfl) (by kernel_rfl) (by decide) u (by rw [jo_star]; exact h)
theorem jo_cs : Tryz.prog.cellsOf 274 = 1 := by kernel_rfl
theorem jo_ss : Tryz.prog.cellsOf 9 = 1 := by kernel_rfl
theorem jo_laid {W : World} (h : laidMetH Tryz.prog laidL W) : Er W ∧ ∃ a, Eb W a := by
  have h' : laidMet Tryz.prog [("longshore/journal.errBegun", Rows.laid_longshore_journal_errBegun)] W ∧ handlesMet Tryz.prog [("errors.errorType", Rows.laid_errors_errorType)] W := h
  refine ⟨?_, ?_⟩
  · obtain ⟨name, u, ty, e1, e2, e3, e4, e5⟩ := h'.2 _ (List.mem_singleton.2 rfl)
    have en : name = [101, 114, 114, 111, 114] := (Option.some.inj e1).symm
    subst en
    obtain rfl := Option.some.inj (jo_rt.symm.trans e2)
    have hm : ty ∈ (List.range Tryz.prog.types.size).filter fun t => Tryz.prog.rowNamed t [101, 114, 114, 111, 114] := List.mem_filter.2 ⟨List.mem_range.2 e3, e4⟩
    rw [jo_one] at hm
    obtain rfl := List.mem_singleton.1 hm
    rw [jo_h] at e5
    show W.cell? _ = _
    simpa using World.var?_cell jo_et e5 0
  · obtain ⟨a, s, hv, _⟩ := laid_sentinel h'.1 jo_eb jo_ebt Tryz.underlying78 jo_row Tryz.underlying255 Tryz.underlying274 rfl rfl Tryz.underlying9 jo_cs jo_ss
    exact ⟨a, by unfold Eb eB; simpa using World.var?_cell jo_eb hv 0⟩
end Go.Proofs.YtdcoafpenkofoaaGreatDoor
