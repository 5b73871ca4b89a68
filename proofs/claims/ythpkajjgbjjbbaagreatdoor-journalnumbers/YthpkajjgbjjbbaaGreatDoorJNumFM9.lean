import Derived.Test.YthpkajjgbjjbbaaGreatDoorVLaid
import Derived.Test.YthpkajjgbjjbbaaGreatDoorJLay
import Derived.Test.YthpkajjgbjjbbaaGreatDoorJNumM9
import Derived.Test.YthpkajjgbjjbbaaGreatDoorTie
import Derived.Test.YthpkajjgbjjbbaaGreatDoorCards
import Derived.SevenTiedAt
import Derived.OpenShut
import Derived.SizedLaws
import Derived.ChangeMaps5

/- JournalNumbers: the row and the card. -/
namespace Go.Proofs.YthpkajjgbjjbbaaGreatDoor
open Go.RowKit Go.ChangeShapes Go.WideShapes Go.ChangeAt Go.ChangeMaps
set_option linter.unusedVariables false

/-- the text of the error of a beginning -/
def joText : ByteArray := ⟨#[97, 32, 98, 97, 116, 99, 104, 32, 116, 104, 97, 116, 32, 100, 111, 101, 115, 32, 110, 111, 116, 32, 101, 110, 100]⟩
def joHandle : Obj → Obj
  | .cells _ t fr => .cells #[.iface 187 (.agg #[.pointer (some ⟨2, 78, none⟩)])] t fr
  | o => o
def joError (n : Nat) : Obj → Obj
  | .cells _ t fr => .cells #[.iface 255 (.pointer (some ⟨n, 0, none⟩))] t fr
  | o => o
set_option maxRecDepth 100000 in
/-- a world that meets the condition -/
theorem numbers_world (os : Os) (H : Type) (enc : TypeId × Value → H) : ∃ w0 : World, w0.os = os ∧ (w0.forCall (fun _ _ => 0) ⟨#[], #[], []⟩).Shaped Tryz.prog ∧ Input.okWideB Tryz.prog (w0.forCall (fun _ _ => 0) ⟨#[], #[], []⟩) 3 ⟨#[], #[], []⟩ = true ∧
    Rows.journalNumbersSpec.preB enc Tryz.prog Tryz.f3 [] false (w0.forCall (fun _ _ => 0) ⟨#[], #[], []⟩).memory #[] 8 = true ∧
    Rows.journalNumbersSpec.sizedB enc Tryz.prog Tryz.f3 false (w0.forCall (fun _ _ => 0) ⟨#[], #[], []⟩).memory #[] 8 = true ∧
    laidMetH Tryz.prog laidL (w0.forCall (fun _ _ => 0) ⟨#[], #[], []⟩).memory := by
  refine ⟨{ World.holding Tryz.prog os ⟨#[.cells #[.string joText] 274], #[], []⟩ with heap := ((World.holding Tryz.prog os ⟨#[.cells #[.string joText] 274], #[], []⟩).heap.modify 0 joHandle).modify 1 (joError (World.holding Tryz.prog default ⟨#[], #[], []⟩).heap.size) }, rfl, World.shaped_of_ZipB (by kernel_rfl) (by kernel_rfl), by kernel_rfl, by kernel_rfl, by kernel_rfl, ?_⟩
  exact laidMetH_of_parts (laidMet_of_run (ps := [.cell 1 0, .cell (World.holding Tryz.prog default ⟨#[], #[], []⟩).heap.size 0]) 8 (by kernel_rfl) (by kernel_rfl) (by kernel_rfl)) (by kernel_rfl)
set_option maxRecDepth 100000 in
theorem numbers_lifted (os : Os) (started : os.Started) (H : Type) (enc : TypeId × Value → H) :
    ReturnsInHanded {} Tryz.checked os 3 .any (fun w args => (Rows.journalNumbersSpec.pre enc Tryz.prog Tryz.f3 [] false w args ∧ laidMetH Tryz.prog laidL w) ∧ sizedMet enc Tryz.prog Tryz.f3 (OpenSpec.ofChange Rows.journalNumbersSpec) false w args)
      (Rows.journalNumbersSpec.post enc Tryz.prog Tryz.f3 false true false false) := by
  refine returnsInHanded_of_change_and (C := Tryz.checked) (X := fun w _ => laidMetH Tryz.prog laidL w) (fun _ _ _ hh h => h.of_heap hh) own started (by kernel_rfl) Tryz.func3
    (by
      obtain ⟨w0, h1, h2, h3, h4, h5, h6⟩ := numbers_world os H enc
      exact ChangeSpec.witness_shaped (enc := enc) (C := Tryz.checked) (os := os) (X := fun w _ => laidMetH Tryz.prog laidL w) false w0 #[] 8 h1 h2 h3 h4 h5 h6) ?_
  intro W base args ds gs before hval0 hW _ hsz0 hL _
  have hval : ∀ (j : Nat) t v, Tryz.f3.params[j]? = some t → args[j]? = some v → Value.okWide Tryz.prog W .any base t v := hval0
  have hsz : (DataW.weightsEach Tryz.prog (Tryz.f3.params.toList ++ Rows.journalNumbersSpec.plain.varTypes Tryz.prog) (ds ++ gs)).all (· ≤ reachBytes) = true := hsz0
  have hW' := hW
  obtain ⟨p, q, hA0, hV, rfl, _, _⟩ := hW
  have hA : DataW.TrodAll enc Tryz.prog W 0 (fun _ => true) true Tryz.f3.params.toList args.toList ds p := hA0
  rw [Tryz.params3] at hA hval hsz
  obtain ⟨hargs, rfl, rfl⟩ := trodAll_nil hA
  obtain rfl : args = #[] := by cases args; simp_all
  obtain ⟨rfl, rfl⟩ := trodVars_none hV
  clear hA0 hval0 hsz0
  obtain ⟨hEr, ea, hEb⟩ := jo_laid hL
  refine (numbers_yes W ea hEb hEr).mono fun e W' ⟨he, bel⟩ => ?_
  subst he
  exact ⟨_, rfl, _, _, _, [], _, [], hW', trodAll_mk1 (shut_bool Tryz.underlying4 _), trodAll_mk0, rfl, bel.frame _, fun h => by cases h⟩

theorem numbers_holds : Rows.JournalNumbersSaid :=
  OpenClaim.holds_of_wide 3 Tryz.f3 rfl rfl rfl rfl rfl rfl rfl ⟨rfl, rfl, rfl, rfl, rfl⟩ rfl rfl rfl rfl rfl (by kernel_rfl) Tryz.func3 (by kernel_rfl)
    (of_decide_eq_true (by kernel_rfl)) (by unfold Func.isWrapper; first | (rw [if_pos (by decide +kernel)]; kernel_rfl) | (rw [if_neg (by decide +kernel)]; exact ⟨rfl, rfl⟩))
    (fun os started H enc _ => numbers_lifted os started H enc)

theorem numbers_card : Rows.JournalNumbersCardSaid :=
  Claim7.holds_tied_plain_at .later [] [.handle, .sentinel] true Rows.journalNumbersCard.stood.harness true numbers_holds (fun _ h => by cases h) (by kernel_rfl) (fun _ h => by cases h) journalNumbers_row_tie rfl ⟨rfl, rfl⟩ (by kernel_rfl) rfl
    (fun f fn hf hfn => by
      obtain rfl : f = 3 := Option.some.inj ((show Tryz.prog.funcNamed Rows.journalNumbersRow.func = some 3 by kernel_rfl).symm.trans hf) |>.symm
      obtain rfl : fn = Tryz.f3 := (Option.some.inj (Tryz.func3.symm.trans hfn)).symm
      exact ⟨by kernel_rfl, fun j t ht => by
        rw [Tryz.params3] at ht
        have hm : t ∈ [] := by simpa using Array.mem_of_getElem? ht
        have hall : ([].all fun u => !Tryz.prog.wantsStandIn u) = true := by kernel_rfl
        exact (show Tryz.prog.wantsStandIn t = false by simpa using List.all_eq_true.1 hall t hm)⟩)
    (by kernel_rfl)
#print axioms numbers_card
end Go.Proofs.YthpkajjgbjjbbaaGreatDoor
