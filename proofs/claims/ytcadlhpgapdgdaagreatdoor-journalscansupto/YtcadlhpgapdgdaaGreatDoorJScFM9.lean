import Derived.Test.YtcadlhpgapdgdaaGreatDoorVLaid
import Derived.Test.YtcadlhpgapdgdaaGreatDoorJLayM9
import Derived.Test.YtcadlhpgapdgdaaGreatDoorJOpLM9
import Derived.Test.YtcadlhpgapdgdaaGreatDoorJScwM9
import Derived.Test.YtcadlhpgapdgdaaGreatDoorTie
import Derived.Test.YtcadlhpgapdgdaaGreatDoorCards
import Derived.SevenTiedAt
import Derived.OpenShut
import Derived.SizedLaws
import Derived.ChangeMaps5
import Derived.Deep.DeepHandedRow
import Derived.JoinedCond

/- JournalScans: the row and the card (second form). -/
namespace Go.Proofs.YtcadlhpgapdgdaaGreatDoor
open Go.RowKit Go.ChangeShapes Go.WideShapes Go.ChangeAt Go.ChangeMaps
set_option linter.unusedVariables false

theorem bulk_posJ {H : Type} (d : DataW H) : 1 ≤ Rows.uptoBulk d := by
  cases d with
  | lit l => cases l <;> simp [Rows.uptoBulk]
  | nil | ptr _ | slice _ _ | agg _ | iface _ _ | map _ | held _ => simp [Rows.uptoBulk]
theorem bulk_lenJ {H : Type} (l : List (DataW H)) : l.length ≤ Rows.uptoBulkAll l := by
  induction l with
  | nil => simp [Rows.uptoBulkAll]
  | cons x r ih => have := bulk_posJ x; simp only [Rows.uptoBulkAll, List.length_cons]; omega
theorem bulk_memJ {H : Type} {d : DataW H} {l : List (DataW H)} (h : d ∈ l) : Rows.uptoBulk d ≤ Rows.uptoBulkAll l := by
  induction l with
  | nil => cases h
  | cons x r ih =>
    simp only [Rows.uptoBulkAll]
    rcases List.mem_cons.1 h with rfl | h
    · omega
    · have := ih h; omega
/-- a list of bytes that came in, and how long it is -/
theorem bytes_bulk {H : Type} {enc : TypeId × Value → H} {W : World} {fuel : Nat} {a : Option Addr} {len cap : Nat} {x : DataW H × List MemPlace}
    (hf : DataW.trod enc Tryz.prog W 0 (fun _ => true) true fuel 23 [.slice a len cap] = some x) : len ≤ Rows.uptoBulk x.1 := by
  rcases open_ints Tryz.underlying23 Tryz.underlying5 Tryz.cells5 hf with ⟨hcs, hx⟩ | ⟨y, l, c', zs, hcs, _, hl, hm, hz, hx, hcell, hwz⟩
  · simp at hcs
    obtain ⟨rfl, rfl, rfl⟩ := hcs
    omega
  · simp at hcs
    obtain ⟨rfl, rfl, rfl⟩ := hcs
    simp only [if_true] at hz
    subst hx
    have h1 := bulk_lenJ (lits (H := H) .u8 (zs.take len))
    simp only [Rows.uptoBulk]
    have h2 : (lits (H := H) .u8 (zs.take len)).length = len := by simp [lits]; omega
    omega
/-- the text of the error of a beginning -/
def joText : ByteArray := ⟨#[97, 32, 98, 97, 116, 99, 104, 32, 116, 104, 97, 116, 32, 100, 111, 101, 115, 32, 110, 111, 116, 32, 101, 110, 100]⟩
def joHandle : Obj → Obj
  | .cells _ t fr => .cells #[.iface 187 (.agg #[.pointer (some ⟨2, 78, none⟩)])] t fr
  | o => o
def joError (n : Nat) : Obj → Obj
  | .cells _ t fr => .cells #[.iface 255 (.pointer (some ⟨n, 0, none⟩))] t fr
  | o => o
set_option maxRecDepth 100000 in
set_option maxHeartbeats 4000000 in
/-- a world that meets the condition -/
theorem scans_world (os : Os) (H : Type) (enc : TypeId × Value → H) : ∃ w0 : World, w0.os = os ∧ (w0.forCall (fun _ _ => 0) ⟨#[], #[.slice none 0 0, .int .i64 0], []⟩).Shaped Tryz.prog ∧ Input.okWideB Tryz.prog (w0.forCall (fun _ _ => 0) ⟨#[], #[.slice none 0 0, .int .i64 0], []⟩) 4 ⟨#[], #[.slice none 0 0, .int .i64 0], []⟩ = true ∧
    (∃ places, DataW.whole enc Tryz.prog (w0.forCall (fun _ _ => 0) ⟨#[], #[.slice none 0 0, .int .i64 0], []⟩).memory Tryz.f4.params.toList Rows.journalScansSpec.vars false (#[.slice none 0 0, .int .i64 0] : Array Value).toList 8 = some ([.nil, .lit (.int .i64 0)], [], places)) ∧
    Rows.journalScansSpec.sizedB enc Tryz.prog Tryz.f4 false (w0.forCall (fun _ _ => 0) ⟨#[], #[.slice none 0 0, .int .i64 0], []⟩).memory #[.slice none 0 0, .int .i64 0] 8 = true ∧
    laidMetH Tryz.prog laidL (w0.forCall (fun _ _ => 0) ⟨#[], #[.slice none 0 0, .int .i64 0], []⟩).memory := by
  refine ⟨{ World.holding Tryz.prog os ⟨#[.cells #[.string joText] 274], #[], []⟩ with heap := ((World.holding Tryz.prog os ⟨#[.cells #[.string joText] 274], #[], []⟩).heap.modify 0 joHandle).modify 1 (joError (World.holding Tryz.prog default ⟨#[], #[], []⟩).heap.size) }, rfl, World.shaped_of_ZipB (by kernel_rfl) (by kernel_rfl), by kernel_rfl, ⟨[], by kernel_rfl⟩, by kernel_rfl, ?_⟩
  exact laidMetH_of_parts (laidMet_of_run (ps := [.cell 1 0, .cell (World.holding Tryz.prog default ⟨#[], #[], []⟩).heap.size 0]) 8 (by kernel_rfl) (by kernel_rfl) (by kernel_rfl)) (by kernel_rfl)
set_option maxRecDepth 100000 in
set_option maxHeartbeats 4000000 in
theorem scans_lifted (os : Os) (started : os.Started) (H : Type) (enc : TypeId × Value → H) (F : Stop.Interp) :
    ReturnsInHanded {} Tryz.checked os 4 .any ((Rows.OpenSpec.upto Rows.journalScansSpec).preRow enc Tryz.prog Tryz.f4 Rows.journalScansUptoRow.domain false laidL) (((Rows.OpenSpec.upto Rows.journalScansSpec).at F).post enc Tryz.prog Tryz.f4 false true false false) := by
  refine returnsInHanded_of_row (C := Tryz.checked) (s := Rows.OpenSpec.upto Rows.journalScansSpec) own started (by kernel_rfl) Tryz.func4
    (by
      obtain ⟨w0, h1, h2, h3, ⟨places, h4⟩, h5, h6⟩ := scans_world os H enc
      exact ⟨w0, fun _ _ => 0, ⟨#[], #[.slice none 0 0, .int .i64 0], []⟩, h1, h2, (Input.okWide_of_okWideB (base := 0) h3).1, (Input.okWide_of_okWideB h3).2,
        OpenSpec.preRow_of_cond 8 h4 (by kernel_rfl) (fun k hk => by cases hk; kernel_rfl) h5 h6, by
          simp only [Assume.holds]
          exact ⟨by simp, by simp, fun _ => Modest.zero, by simp, by simp⟩⟩) ?_
  intro W base args ds gs before hval0 hW _ hcond0 hsz0 hL _ _
  have hval : ∀ (j : Nat) t v, Tryz.f4.params[j]? = some t → args[j]? = some v → Value.okWide Tryz.prog W .any base t v := hval0
  have hsz : (DataW.weightsEach Tryz.prog (Tryz.f4.params.toList ++ Rows.journalScansSpec.plain.varTypes Tryz.prog) (ds ++ gs)).all (· ≤ reachBytes) = true := hsz0
  have hk : Rows.uptoSmall H (ds ++ gs) = true := hcond0 _ rfl
  have hW' := hW
  obtain ⟨p, q, hA0, hV, rfl, _, _⟩ := hW
  have hA : DataW.TrodAll enc Tryz.prog W 0 (fun _ => true) true Tryz.f4.params.toList args.toList ds p := hA0
  rw [Tryz.params4] at hA hval hsz
  obtain ⟨v0, vs0, d0, ds0, p0, q0, hargs, rfl, rfl, h0, r0⟩ := trodAll_cons hA
  obtain ⟨v1, vs1, d1, ds1, p1, q1, rfl, rfl, rfl, h1, r1⟩ := trodAll_cons r0
  obtain ⟨rfl, rfl, rfl⟩ := trodAll_nil r1
  obtain rfl : args = #[v0, v1] := by cases args; simp_all
  obtain ⟨rfl, rfl⟩ := trodVars_none hV
  obtain ⟨aa0, nn0, cc0, rfl⟩ := okWide_slice Tryz.underlying23 (hval 0 23 v0 rfl rfl)
  have k0 := h0
  have lt0 : ∀ x ∈ p0, x.block < W.heap.size := by obtain ⟨m, hm⟩ := k0; exact DataW.trod_lt m _ _ _ hm
  obtain ⟨fuel0, hf0⟩ := h0
  have hbk : nn0 ≤ 1048576 := by
    have h7 := bytes_bulk hf0
    have h8 : Rows.uptoBulkAll _ ≤ 1048576 := of_decide_eq_true hk
    exact Nat.le_trans h7 (Nat.le_trans (bulk_memJ (by simp)) h8)
  obtain ⟨x0, c0, L0, e0, hr0, hl0⟩ := bytes_fitJ hf0 (weights_eachJ hsz (j := 0) rfl rfl)
  obtain ⟨rfl, rfl, rfl⟩ : aa0 = x0 ∧ nn0 = L0.length ∧ cc0 = c0 := by simpa using e0
  obtain ⟨a1, rfl, rfl, rfl, w1⟩ := open_int Tryz.underlying3 (hval 1 3 v1 rfl rfl) h1
  clear hA0 hval0 hsz0 hcond0
  obtain ⟨hEr, ea, hEb⟩ := jo_laid hL
  refine (scans_walk aa0 cc0 L0 a1 W ea hEb hEr hr0 hbk (by have := wf_i64J w1; omega)).mono fun e W' ⟨he, bel⟩ => ?_
  subst he
  exact ⟨_, rfl, _, _, _, [], _, [], hW', trodAll_mk1 (shut_bool Tryz.underlying4 _), (trodAll_cons_mk (Below.trod laidOut (by kernel_rfl) (of_decide_eq_true (by kernel_rfl)) k0 bel lt0) (trodAll_cons_mk (shut_int Tryz.underlying3 w1) trodAll_mk0)), rfl, bel.frame _, fun h => by cases h⟩

theorem scans_holds : Rows.JournalScansUptoSaid :=
  OpenClaim.holds_of_cond 4 Tryz.f4 rfl rfl rfl rfl rfl rfl rfl ⟨rfl, rfl, rfl, rfl, rfl⟩ rfl rfl rfl rfl rfl (by kernel_rfl) Tryz.func4 (by kernel_rfl)
    (of_decide_eq_true (by kernel_rfl)) (by unfold Func.isWrapper; first | (rw [if_pos (by decide +kernel)]; kernel_rfl) | (rw [if_neg (by decide +kernel)]; exact ⟨rfl, rfl⟩))
    (fun os started H enc _ F => by rw [OpenClaim.pre_eq_preRow]; exact scans_lifted os started H enc F)

theorem scans_card : Rows.JournalScansUptoCardSaid :=
  Claim7.holds_tied_plain_at .later [] [.handle, .sentinel] true Rows.journalScansUptoCard.stood.harness true scans_holds (fun _ h => by cases h) (by kernel_rfl) (fun _ h => by cases h) journalScansUpto_row_tie rfl ⟨rfl, rfl⟩ (by kernel_rfl) rfl
    (fun f fn hf hfn => by
      obtain rfl : f = 4 := Option.some.inj ((show Tryz.prog.funcNamed Rows.journalScansUptoRow.func = some 4 by kernel_rfl).symm.trans hf) |>.symm
      obtain rfl : fn = Tryz.f4 := (Option.some.inj (Tryz.func4.symm.trans hfn)).symm
      exact ⟨by kernel_rfl, fun j t ht => by
        rw [Tryz.params4] at ht
        have hm : t ∈ [23, 3] := by simpa using Array.mem_of_getElem? ht
        have hall : ([23, 3].all fun u => !Tryz.prog.wantsStandIn u) = true := by kernel_rfl
        exact (show Tryz.prog.wantsStandIn t = false by simpa using List.all_eq_true.1 hall t hm)⟩)
    (by kernel_rfl)
#print axioms scans_card
end Go.Proofs.YtcadlhpgapdgdaaGreatDoor
