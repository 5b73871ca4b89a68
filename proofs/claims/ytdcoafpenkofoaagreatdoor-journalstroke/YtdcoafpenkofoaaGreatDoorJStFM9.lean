import Derived.Test.YtdcoafpenkofoaaGreatDoorJOpLM9
import Derived.Test.YtdcoafpenkofoaaGreatDoorJSlM9
import Derived.Test.YtdcoafpenkofoaaGreatDoorVLaid
import Derived.Test.YtdcoafpenkofoaaGreatDoorJLayM9
import Derived.Test.YtdcoafpenkofoaaGreatDoorJSwM9
import Derived.Test.YtdcoafpenkofoaaGreatDoorTie
import Derived.Test.YtdcoafpenkofoaaGreatDoorCards
import Derived.SevenTiedAt
import Derived.OpenShut
import Derived.SizedLaws
import Derived.ChangeMaps5

/- Stage 20: what came in: a script's operations. -/
namespace Go.Proofs.YtdcoafpenkofoaaGreatDoor
open Go.RowKit Go.ChangeShapes Go.WideShapes Go.ChangeAt
set_option linter.unusedVariables false
theorem Tryz.cellsI : Tryz.prog.cellsOf 3 = 1 := by kernel_rfl
theorem Tryz.cellsLs : Tryz.prog.cellsOf 24 = 1 := by kernel_rfl
theorem Tryz.cellsOp : Tryz.prog.cellsOf 52 = 5 := by kernel_rfl
theorem Tryz.bytesOp : Tryz.prog.bytesOf 52 = 72 := by kernel_rfl
theorem five {α : Type} (l : List α) (h : l.length = 5) : ∃ a b c d e, l = [a, b, c, d, e] := by
  match l, h with
  | [a, b, c, d, e], _ => exact ⟨a, b, c, d, e, rfl⟩
set_option maxRecDepth 100000 in
theorem opS_fit {H : Type} {enc : TypeId × Value → H} {W : World} {fuel : Nat} {cs : List Value} {x : DataW H × List MemPlace}
    (hf : DataW.trod enc Tryz.prog W 0 (fun _ => true) true fuel 52 cs = some x) (hw : ∀ n ∈ x.1.weights Tryz.prog 52, n ≤ reachBytes) : ∃ o : Sq, cs = o.cells.toList ∧ RdB W o.la o.L ∧ RdL W o.ma o.M ∧ Sfit o := by
  obtain ⟨xs, n, hfu, hx, hlen, hxl, hff⟩ := DataW.trod_struct Tryz.underlying52 hf
  rw [Tryz.cellsOp] at hlen
  obtain ⟨c0, c1, c2, c3, c4, rfl⟩ := five _ hlen
  obtain ⟨x0, x1, x2, x3, x4, rfl⟩ := five xs hxl
  have f0 : DataW.trod enc Tryz.prog W 0 (fun _ => true) true n 3 ([c0, c1, c2, c3, c4].take (Tryz.prog.cellsOf 3)) = some x0 := hff 0 _ rfl
  have f1 : DataW.trod enc Tryz.prog W 0 (fun _ => true) true n 3 ([c1, c2, c3, c4].take (Tryz.prog.cellsOf 3)) = some x1 := hff 1 _ rfl
  have f2 : DataW.trod enc Tryz.prog W 0 (fun _ => true) true n 3 ([c2, c3, c4].take (Tryz.prog.cellsOf 3)) = some x2 := hff 2 _ rfl
  have f3 : DataW.trod enc Tryz.prog W 0 (fun _ => true) true n 29 ([c3, c4].take (Tryz.prog.cellsOf 29)) = some x3 := hff 3 _ rfl
  have f4 : DataW.trod enc Tryz.prog W 0 (fun _ => true) true n 24 ([c4].take (Tryz.prog.cellsOf 24)) = some x4 := hff 4 _ rfl
  rw [Tryz.cellsI] at f0 f1 f2
  rw [Tryz.cellsBs] at f3
  rw [Tryz.cellsLs] at f4
  simp only [List.take_succ_cons, List.take_zero] at f0 f1 f2 f3 f4
  obtain ⟨v0, e0, _, w0⟩ := DataW.trod_int Tryz.underlying3 f0
  obtain ⟨v1, e1, _, w1⟩ := DataW.trod_int Tryz.underlying3 f1
  obtain ⟨v2, e2, _, w2⟩ := DataW.trod_int Tryz.underlying3 f2
  have h3 : ∀ n ∈ x3.1.weights Tryz.prog 29, n ≤ reachBytes := fun m hm => hw m (by
    rw [hx]
    simp only [DataW.weights, Tryz.underlying52, List.map_cons, List.map_nil, DataW.weightsEach, List.mem_append]
    simp [hm])
  have h4 : ∀ n ∈ x4.1.weights Tryz.prog 24, n ≤ reachBytes := fun m hm => hw m (by
    rw [hx]
    simp only [DataW.weights, Tryz.underlying52, List.map_cons, List.map_nil, DataW.weightsEach, List.mem_append]
    simp [hm])
  obtain ⟨la, lc, L, e3, r1, r2, r3⟩ := recs_fit f3 h3
  obtain ⟨ma, mc, M, e4, s1, s2, s3⟩ := lists_fit f4 h4
  obtain rfl : c0 = .int .i64 v0 := by simpa using e0
  obtain rfl : c1 = .int .i64 v1 := by simpa using e1
  obtain rfl : c2 = .int .i64 v2 := by simpa using e2
  subst e3
  subst e4
  have b0 := wf_i64J w0
  have b1 := wf_i64J w1
  have b2 := wf_i64J w2
  refine ⟨⟨v0, v1, v2, la, L, lc, ma, M, mc⟩, rfl, r1, s1, ⟨by show _ ≤ v0; omega, by show v0 < _; omega⟩, ⟨by show _ ≤ v1; omega, by show v1 < _; omega⟩, ⟨by show _ ≤ v2; omega, by show v2 < _; omega⟩, ⟨by show L.length ≤ _; omega, fun r hr => ?_⟩, by show M.length ≤ _; omega, fun m hm => ⟨?_, fun r hr => ?_⟩⟩
  · have := r3 r hr; omega
  · have := (s3 m hm).1; omega
  · have := (s3 m hm).2 r hr; omega
theorem opsS_fit {H : Type} {enc : TypeId × Value → H} {W : World} {a : Option Addr} {len cap fuel : Nat} {x : DataW H × List MemPlace}
    (hf : DataW.trod enc Tryz.prog W 0 (fun _ => true) true fuel 35 [.slice a len cap] = some x) (hw : ∀ n ∈ x.1.weights Tryz.prog 35, n ≤ reachBytes) : len ≤ 140737488355328 ∧ ∃ g : Nat → Sq, RS W a len g ∧ ∀ j, j < len → Sfit (g j) := by
  have o0 : Sq := ⟨0, 0, 0, none, [], 0, none, [], 0⟩
  rcases DataW.trod_slice Tryz.underlying35 hf with ⟨e3, rfl⟩ | ⟨y, l, c, elems, rest, n', hn', e3, rfl, _, hlc, hcm, hel, hE, hR, _⟩
  · simp at e3
    obtain ⟨rfl, rfl, rfl⟩ := e3
    exact ⟨by omega, fun _ => o0, fun j hj => by omega, fun j hj => by omega⟩
  · simp at e3
    obtain ⟨rfl, rfl, rfl⟩ := e3
    have hwE : ∀ d ∈ elems.map (·.1), ∀ n ∈ d.weights Tryz.prog 52, n ≤ reachBytes := fun d hd n hn => hw n (by
      simp only [DataW.weights, Tryz.underlying35, List.mem_cons, List.mem_append]
      exact .inr (.inl (weights_allJ hd n hn)))
    have hwl : len ≤ 140737488355328 := by
      have := hw (((elems.map (·.1)).length + _) * Tryz.prog.bytesOf 52) (by
        simp only [DataW.weights, Tryz.underlying35, List.mem_cons]
        exact .inl rfl)
      rw [Tryz.bytesOp, List.length_map, hel] at this
      simp only [reachBytes] at this
      omega
    rw [Tryz.cellsOp] at hE
    have hpick : ∀ i, ∃ g : Sq, i < len → W.cells? 0 (y.add (i * 5)) 5 = some g.cells.toList ∧ RdB W g.la g.L ∧ RdL W g.ma g.M ∧ Sfit g := by
      intro i
      by_cases hi : i < len
      · have h1 := hE i hi
        rw [List.getElem?_eq_getElem (by omega)] at h1
        obtain ⟨ci, hci, hti⟩ := Option.bind_eq_some_iff.1 h1
        obtain ⟨g, rfl, hg⟩ := opS_fit hti (hwE _ (List.mem_map_of_mem (List.getElem_mem _)))
        exact ⟨g, fun _ => ⟨hci, hg⟩⟩
      · exact ⟨o0, fun h => absurd h hi⟩
    obtain ⟨fs, hfv⟩ := Classical.axiomOfChoice hpick
    refine ⟨hwl, fs, fun j hj => ⟨?_, (hfv j hj).2.1, (hfv j hj).2.2.1⟩, fun j hj => (hfv j hj).2.2.2⟩
    obtain ⟨pb, po, spot⟩ := y
    have hc0 : W.cell? (((⟨pb, po, spot⟩ : Addr).add (0 * 5)).add 0) = some (.int .i64 (fs 0).k) := (World.cells?_some (hfv 0 (by omega)).1).2.2 0 (by omega)
    have hspot : spot = none := by simpa [Addr.add] using World.cell?_spot hc0
    subst hspot
    refine ⟨pb, po, rfl, by have := World.cells?_block (hfv j hj).1 (by omega); rwa [add_noneJ] at this, fun q v hv => ?_⟩
    have hc := (World.cells?_some (hfv j hj).1).2.2
    have hq : q < 5 := (List.getElem?_eq_some_iff.1 hv).1
    have := hc q hq
    rw [add_noneJ, add_noneJ] at this
    rw [this]
    exact hv
end Go.Proofs.YtdcoafpenkofoaaGreatDoor


/- JournalStroke: the row and the card. -/
namespace Go.Proofs.YtdcoafpenkofoaaGreatDoor
open Go.RowKit Go.ChangeShapes Go.WideShapes Go.ChangeAt Go.ChangeMaps
set_option linter.unusedVariables false

/-- the text of the error of a beginning -/
def joText : ByteArray := ⟨#[97, 32, 98, 97, 116, 99, 104, 32, 116, 104, 97, 116, 32, 100, 111, 101, 115, 32, 110, 111, 116, 32, 101, 110, 100]⟩
def joHandle : Obj → Obj
  | .cells _ t fr => .cells #[.iface 187 (.agg #[.pointer (some ⟨2, 78, none⟩)])] t fr
  | o => o
def joError (n : Nat) : Obj → Obj
  | .cells _ t fr => .cells #[.iface 255 (.pointer (some ⟨n, 0, none⟩))] t fr
  | o => o

set_option maxRecDepth 100000 in
/-- a world that meets the condition -/
theorem stroke_world (os : Os) (H : Type) (enc : TypeId × Value → H) : ∃ w0 : World, w0.os = os ∧ (w0.forCall (fun _ _ => 0) ⟨#[], #[.int .i64 0, .slice none 0 0], []⟩).Shaped Tryz.prog ∧ Input.okWideB Tryz.prog (w0.forCall (fun _ _ => 0) ⟨#[], #[.int .i64 0, .slice none 0 0], []⟩) 6 ⟨#[], #[.int .i64 0, .slice none 0 0], []⟩ = true ∧
    Rows.journalStrokeSpec.preB enc Tryz.prog Tryz.f6 [] false (w0.forCall (fun _ _ => 0) ⟨#[], #[.int .i64 0, .slice none 0 0], []⟩).memory #[.int .i64 0, .slice none 0 0] 8 = true ∧
    Rows.journalStrokeSpec.sizedB enc Tryz.prog Tryz.f6 false (w0.forCall (fun _ _ => 0) ⟨#[], #[.int .i64 0, .slice none 0 0], []⟩).memory #[.int .i64 0, .slice none 0 0] 8 = true ∧
    laidMetH Tryz.prog laidL (w0.forCall (fun _ _ => 0) ⟨#[], #[.int .i64 0, .slice none 0 0], []⟩).memory := by
  refine ⟨{ World.holding Tryz.prog os ⟨#[.cells #[.string joText] 274], #[], []⟩ with heap := ((World.holding Tryz.prog os ⟨#[.cells #[.string joText] 274], #[], []⟩).heap.modify 0 joHandle).modify 1 (joError (World.holding Tryz.prog default ⟨#[], #[], []⟩).heap.size) }, rfl, World.shaped_of_ZipB (by kernel_rfl) (by kernel_rfl), by kernel_rfl, by kernel_rfl, by kernel_rfl, ?_⟩
  exact laidMetH_of_parts (laidMet_of_run (ps := [.cell 1 0, .cell (World.holding Tryz.prog default ⟨#[], #[], []⟩).heap.size 0]) 8 (by kernel_rfl) (by kernel_rfl) (by kernel_rfl)) (by kernel_rfl)
set_option maxRecDepth 100000 in
set_option maxHeartbeats 4000000 in
theorem stroke_lifted (os : Os) (started : os.Started) (H : Type) (enc : TypeId × Value → H) :
    ReturnsInHanded {} Tryz.checked os 6 .any (fun w args => (Rows.journalStrokeSpec.pre enc Tryz.prog Tryz.f6 [] false w args ∧ laidMetH Tryz.prog laidL w) ∧ sizedMet enc Tryz.prog Tryz.f6 (OpenSpec.ofChange Rows.journalStrokeSpec) false w args)
      (Rows.journalStrokeSpec.post enc Tryz.prog Tryz.f6 false true false false) := by
  refine returnsInHanded_of_change_and (C := Tryz.checked) (X := fun w _ => laidMetH Tryz.prog laidL w) (fun _ _ _ hh h => h.of_heap hh) own started (by kernel_rfl) Tryz.func6
    (by
      obtain ⟨w0, h1, h2, h3, h4, h5, h6⟩ := stroke_world os H enc
      exact ChangeSpec.witness_shaped (enc := enc) (C := Tryz.checked) (os := os) (X := fun w _ => laidMetH Tryz.prog laidL w) false w0 #[.int .i64 0, .slice none 0 0] 8 h1 h2 h3 h4 h5 h6) ?_
  intro W base args ds gs before hval0 hW _ hsz0 hL _
  have hval : ∀ (j : Nat) t v, Tryz.f6.params[j]? = some t → args[j]? = some v → Value.okWide Tryz.prog W .any base t v := hval0
  have hsz : (DataW.weightsEach Tryz.prog (Tryz.f6.params.toList ++ Rows.journalStrokeSpec.plain.varTypes Tryz.prog) (ds ++ gs)).all (· ≤ reachBytes) = true := hsz0
  have hW' := hW
  obtain ⟨p, q, hA0, hV, rfl, _, _⟩ := hW
  have hA : DataW.TrodAll enc Tryz.prog W 0 (fun _ => true) true Tryz.f6.params.toList args.toList ds p := hA0
  rw [Tryz.params6] at hA hval hsz
  obtain ⟨v0, vs0, d0, ds0, p0, q0, hargs, rfl, rfl, h0, r0⟩ := trodAll_cons hA
  obtain ⟨v1, vs1, d1, ds1, p1, q1, rfl, rfl, rfl, h1, r1⟩ := trodAll_cons r0
  obtain ⟨rfl, rfl, rfl⟩ := trodAll_nil r1
  obtain rfl : args = #[v0, v1] := by cases args; simp_all
  obtain ⟨rfl, rfl⟩ := trodVars_none hV
  obtain ⟨a0, rfl, rfl, rfl, w0⟩ := open_int Tryz.underlying3 (hval 0 3 v0 rfl rfl) h0
  obtain ⟨aa1, nn1, cc1, rfl⟩ := okWide_slice Tryz.underlying35 (hval 1 35 v1 rfl rfl)
  have k1 := h1
  have lt1 : ∀ x ∈ p1, x.block < W.heap.size := by obtain ⟨m, hm⟩ := k1; exact DataW.trod_lt m _ _ _ hm
  obtain ⟨fuel1, hf1⟩ := h1
  obtain ⟨nn9_1, fs1, rs1, sf1⟩ := opsS_fit hf1 (weights_eachJ hsz (j := 1) rfl rfl)
  clear hA0 hval0 hsz0
  obtain ⟨hEr, ea, hEb⟩ := jo_laid hL
  refine (stroke_walk a0 aa1 nn1 cc1 fs1 W ea hEb hEr rs1 nn9_1 sf1 (by have := wf_i64J w0; omega)).mono fun e W' ⟨he, bel⟩ => ?_
  subst he
  exact ⟨_, rfl, _, _, _, [], _, [], hW', trodAll_mk1 (shut_bool Tryz.underlying4 _), (trodAll_cons_mk (shut_int Tryz.underlying3 w0) (trodAll_cons_mk (Below.trod laidOut (by kernel_rfl) (of_decide_eq_true (by kernel_rfl)) k1 bel lt1) trodAll_mk0)), rfl, bel.frame _, fun h => by cases h⟩

theorem stroke_holds : Rows.JournalStrokeSaid :=
  OpenClaim.holds_of_wide 6 Tryz.f6 rfl rfl rfl rfl rfl rfl rfl ⟨rfl, rfl, rfl, rfl, rfl⟩ rfl rfl rfl rfl rfl (by kernel_rfl) Tryz.func6 (by kernel_rfl)
    (of_decide_eq_true (by kernel_rfl)) (by unfold Func.isWrapper; first | (rw [if_pos (by decide +kernel)]; kernel_rfl) | (rw [if_neg (by decide +kernel)]; exact ⟨rfl, rfl⟩))
    (fun os started H enc _ => stroke_lifted os started H enc)

theorem stroke_card : Rows.JournalStrokeCardSaid :=
  Claim7.holds_tied_plain_at .later [] [.handle, .sentinel] true Rows.journalStrokeCard.stood.harness true stroke_holds (fun _ h => by cases h) (by kernel_rfl) (fun _ h => by cases h) journalStroke_row_tie rfl ⟨rfl, rfl⟩ (by kernel_rfl) rfl
    (fun f fn hf hfn => by
      obtain rfl : f = 6 := Option.some.inj ((show Tryz.prog.funcNamed Rows.journalStrokeRow.func = some 6 by kernel_rfl).symm.trans hf) |>.symm
      obtain rfl : fn = Tryz.f6 := (Option.some.inj (Tryz.func6.symm.trans hfn)).symm
      exact ⟨by kernel_rfl, fun j t ht => by
        rw [Tryz.params6] at ht
        have hm : t ∈ [3, 35] := by simpa using Array.mem_of_getElem? ht
        have hall : ([3, 35].all fun u => !Tryz.prog.wantsStandIn u) = true := by kernel_rfl
        exact (show Tryz.prog.wantsStandIn t = false by simpa using List.all_eq_true.1 hall t hm)⟩)
    (by kernel_rfl)
#print axioms stroke_card
end Go.Proofs.YtdcoafpenkofoaaGreatDoor
