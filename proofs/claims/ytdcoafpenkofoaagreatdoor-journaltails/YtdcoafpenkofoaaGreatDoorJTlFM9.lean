import Derived.Test.YtdcoafpenkofoaaGreatDoorVLaid
import Derived.Test.YtdcoafpenkofoaaGreatDoorJLayM9
import Derived.Test.YtdcoafpenkofoaaGreatDoorJOpLM9
import Derived.Test.YtdcoafpenkofoaaGreatDoorJTwM9
import Derived.Test.YtdcoafpenkofoaaGreatDoorTie
import Derived.Test.YtdcoafpenkofoaaGreatDoorCards
import Derived.SevenTiedAt
import Derived.OpenShut
import Derived.SizedLaws
import Derived.ChangeMaps5

/- JournalTails: the row and the card. -/
namespace Go.Proofs.YtdcoafpenkofoaaGreatDoor
open Go.RowKit Go.ChangeShapes Go.WideShapes Go.ChangeAt Go.ChangeMaps
set_option linter.unusedVariables false

/-- the text of the error of a beginning -/
def joText : ByteArray := ⟨#[97, 32, 98, 97, 116, 99, 104, 32, 116, 104, 97, 116, 32, 100, 111, 101, 115, 32, 110, 111, 116, 32, 101, 110, 100]⟩
def joHandle : Obj → Obj
  | .cells _ t fr => .cells #[.iface 187 (.agg #[.pointer (some ⟨2, 78, none⟩)])] t fr
  | o => o
def joError (n : Nat) : Obj → Obj
  | .cells _ t fr => .cells #[.iface 255 (.pointer (some ⟨n, 0, none⟩))] t fr
  | o => o

set_option maxRecDepth 100000 in
/-- a world that meets the condition -/
theorem tails_world (os : Os) (H : Type) (enc : TypeId × Value → H) : ∃ w0 : World, w0.os = os ∧ (w0.forCall (fun _ _ => 0) ⟨#[], #[.slice none 0 0, .slice none 0 0, .int .i64 0, .int .i64 0], []⟩).Shaped Tryz.prog ∧ Input.okWideB Tryz.prog (w0.forCall (fun _ _ => 0) ⟨#[], #[.slice none 0 0, .slice none 0 0, .int .i64 0, .int .i64 0], []⟩) 7 ⟨#[], #[.slice none 0 0, .slice none 0 0, .int .i64 0, .int .i64 0], []⟩ = true ∧
    Rows.journalTailsSpec.preB enc Tryz.prog Tryz.f7 [] false (w0.forCall (fun _ _ => 0) ⟨#[], #[.slice none 0 0, .slice none 0 0, .int .i64 0, .int .i64 0], []⟩).memory #[.slice none 0 0, .slice none 0 0, .int .i64 0, .int .i64 0] 8 = true ∧
    Rows.journalTailsSpec.sizedB enc Tryz.prog Tryz.f7 false (w0.forCall (fun _ _ => 0) ⟨#[], #[.slice none 0 0, .slice none 0 0, .int .i64 0, .int .i64 0], []⟩).memory #[.slice none 0 0, .slice none 0 0, .int .i64 0, .int .i64 0] 8 = true ∧
    laidMetH Tryz.prog laidL (w0.forCall (fun _ _ => 0) ⟨#[], #[.slice none 0 0, .slice none 0 0, .int .i64 0, .int .i64 0], []⟩).memory := by
  refine ⟨{ World.holding Tryz.prog os ⟨#[.cells #[.string joText] 274], #[], []⟩ with heap := ((World.holding Tryz.prog os ⟨#[.cells #[.string joText] 274], #[], []⟩).heap.modify 0 joHandle).modify 1 (joError (World.holding Tryz.prog default ⟨#[], #[], []⟩).heap.size) }, rfl, World.shaped_of_ZipB (by kernel_rfl) (by kernel_rfl), by kernel_rfl, by kernel_rfl, by kernel_rfl, ?_⟩
  exact laidMetH_of_parts (laidMet_of_run (ps := [.cell 1 0, .cell (World.holding Tryz.prog default ⟨#[], #[], []⟩).heap.size 0]) 8 (by kernel_rfl) (by kernel_rfl) (by kernel_rfl)) (by kernel_rfl)
set_option maxRecDepth 100000 in
set_option maxHeartbeats 4000000 in
theorem tails_lifted (os : Os) (started : os.Started) (H : Type) (enc : TypeId × Value → H) :
    ReturnsInHanded {} Tryz.checked os 7 .any (fun w args => (Rows.journalTailsSpec.pre enc Tryz.prog Tryz.f7 [] false w args ∧ laidMetH Tryz.prog laidL w) ∧ sizedMet enc Tryz.prog Tryz.f7 (OpenSpec.ofChange Rows.journalTailsSpec) false w args)
      (Rows.journalTailsSpec.post enc Tryz.prog Tryz.f7 false true false false) := by
  refine returnsInHanded_of_change_and (C := Tryz.checked) (X := fun w _ => laidMetH Tryz.prog laidL w) (fun _ _ _ hh h => h.of_heap hh) own started (by kernel_rfl) Tryz.func7
    (by
      obtain ⟨w0, h1, h2, h3, h4, h5, h6⟩ := tails_world os H enc
      exact ChangeSpec.witness_shaped (enc := enc) (C := Tryz.checked) (os := os) (X := fun w _ => laidMetH Tryz.prog laidL w) false w0 #[.slice none 0 0, .slice none 0 0, .int .i64 0, .int .i64 0] 8 h1 h2 h3 h4 h5 h6) ?_
  intro W base args ds gs before hval0 hW _ hsz0 hL _
  have hval : ∀ (j : Nat) t v, Tryz.f7.params[j]? = some t → args[j]? = some v → Value.okWide Tryz.prog W .any base t v := hval0
  have hsz : (DataW.weightsEach Tryz.prog (Tryz.f7.params.toList ++ Rows.journalTailsSpec.plain.varTypes Tryz.prog) (ds ++ gs)).all (· ≤ reachBytes) = true := hsz0
  have hW' := hW
  obtain ⟨p, q, hA0, hV, rfl, _, _⟩ := hW
  have hA : DataW.TrodAll enc Tryz.prog W 0 (fun _ => true) true Tryz.f7.params.toList args.toList ds p := hA0
  rw [Tryz.params7] at hA hval hsz
  obtain ⟨v0, vs0, d0, ds0, p0, q0, hargs, rfl, rfl, h0, r0⟩ := trodAll_cons hA
  obtain ⟨v1, vs1, d1, ds1, p1, q1, rfl, rfl, rfl, h1, r1⟩ := trodAll_cons r0
  obtain ⟨v2, vs2, d2, ds2, p2, q2, rfl, rfl, rfl, h2, r2⟩ := trodAll_cons r1
  obtain ⟨v3, vs3, d3, ds3, p3, q3, rfl, rfl, rfl, h3, r3⟩ := trodAll_cons r2
  obtain ⟨rfl, rfl, rfl⟩ := trodAll_nil r3
  obtain rfl : args = #[v0, v1, v2, v3] := by cases args; simp_all
  obtain ⟨rfl, rfl⟩ := trodVars_none hV
  obtain ⟨aa0, nn0, cc0, rfl⟩ := okWide_slice Tryz.underlying24 (hval 0 24 v0 rfl rfl)
  have k0 := h0
  have lt0 : ∀ x ∈ p0, x.block < W.heap.size := by obtain ⟨m, hm⟩ := k0; exact DataW.trod_lt m _ _ _ hm
  obtain ⟨fuel0, hf0⟩ := h0
  obtain ⟨x0, c0, L0, e0, hr0, hl0, hm0⟩ := lists_fit hf0 (weights_eachJ hsz (j := 0) rfl rfl)
  obtain ⟨rfl, rfl, rfl⟩ : aa0 = x0 ∧ nn0 = L0.length ∧ cc0 = c0 := by simpa using e0
  obtain ⟨aa1, nn1, cc1, rfl⟩ := okWide_slice Tryz.underlying29 (hval 1 29 v1 rfl rfl)
  have k1 := h1
  have lt1 : ∀ x ∈ p1, x.block < W.heap.size := by obtain ⟨m, hm⟩ := k1; exact DataW.trod_lt m _ _ _ hm
  obtain ⟨fuel1, hf1⟩ := h1
  obtain ⟨x1, c1, L1, e1, hr1, hl1, hm1⟩ := recs_fit hf1 (weights_eachJ hsz (j := 1) rfl rfl)
  obtain ⟨rfl, rfl, rfl⟩ : aa1 = x1 ∧ nn1 = L1.length ∧ cc1 = c1 := by simpa using e1
  obtain ⟨a2, rfl, rfl, rfl, w2⟩ := open_int Tryz.underlying3 (hval 2 3 v2 rfl rfl) h2
  obtain ⟨a3, rfl, rfl, rfl, w3⟩ := open_int Tryz.underlying3 (hval 3 3 v3 rfl rfl) h3
  clear hA0 hval0 hsz0
  obtain ⟨hEr, ea, hEb⟩ := jo_laid hL
  refine (tails_walk aa0 aa1 cc0 cc1 L0 L1 a2 a3 W ea hEb hEr hr0 hr1 hl0 hm0 ⟨hl1, hm1⟩ (by have := wf_i64J w2; omega) (by have := wf_i64J w3; omega)).mono fun e W' ⟨he, bel⟩ => ?_
  subst he
  exact ⟨_, rfl, _, _, _, [], _, [], hW', trodAll_mk1 (shut_bool Tryz.underlying4 _), (trodAll_cons_mk (Below.trod laidOut (by kernel_rfl) (of_decide_eq_true (by kernel_rfl)) k0 bel lt0) (trodAll_cons_mk (Below.trod laidOut (by kernel_rfl) (of_decide_eq_true (by kernel_rfl)) k1 bel lt1) (trodAll_cons_mk (shut_int Tryz.underlying3 w2) (trodAll_cons_mk (shut_int Tryz.underlying3 w3) trodAll_mk0)))), rfl, bel.frame _, fun h => by cases h⟩

theorem tails_holds : Rows.JournalTailsSaid :=
  OpenClaim.holds_of_wide 7 Tryz.f7 rfl rfl rfl rfl rfl rfl rfl ⟨rfl, rfl, rfl, rfl, rfl⟩ rfl rfl rfl rfl rfl (by kernel_rfl) Tryz.func7 (by kernel_rfl)
    (of_decide_eq_true (by kernel_rfl)) (by unfold Func.isWrapper; first | (rw [if_pos (by decide +kernel)]; kernel_rfl) | (rw [if_neg (by decide +kernel)]; exact ⟨rfl, rfl⟩))
    (fun os started H enc _ => tails_lifted os started H enc)

theorem tails_card : Rows.JournalTailsCardSaid :=
  Claim7.holds_tied_plain_at .later [] [.handle, .sentinel] true Rows.journalTailsCard.stood.harness true tails_holds (fun _ h => by cases h) (by kernel_rfl) (fun _ h => by cases h) journalTails_row_tie rfl ⟨rfl, rfl⟩ (by kernel_rfl) rfl
    (fun f fn hf hfn => by
      obtain rfl : f = 7 := Option.some.inj ((show Tryz.prog.funcNamed Rows.journalTailsRow.func = some 7 by kernel_rfl).symm.trans hf) |>.symm
      obtain rfl : fn = Tryz.f7 := (Option.some.inj (Tryz.func7.symm.trans hfn)).symm
      exact ⟨by kernel_rfl, fun j t ht => by
        rw [Tryz.params7] at ht
        have hm : t ∈ [24, 29, 3, 3] := by simpa using Array.mem_of_getElem? ht
        have hall : ([24, 29, 3, 3].all fun u => !Tryz.prog.wantsStandIn u) = true := by kernel_rfl
        exact (show Tryz.prog.wantsStandIn t = false by simpa using List.all_eq_true.1 hall t hm)⟩)
    (by kernel_rfl)
#print axioms tails_card
end Go.Proofs.YtdcoafpenkofoaaGreatDoor
