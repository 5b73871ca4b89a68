import Derived.Test.YtgpimajdcfoigabDoorD01
import Derived.Test.YtgpimajdcfoigabDoorD07
import Derived.Test.YtgpimajdcfoigabDoorD10
import Derived.Test.YtgpimajdcfoigabDoorD51
import Derived.Test.YtgpimajdcfoigabDoorTie
import Derived.Test.YtgpimajdcfoigabDoorCards
import Derived.SevenTiedAt
import Derived.Deep.DeepHandedRow

/- CodecFar, the second form. -/
namespace Go.Proofs.YtgpimajdcfoigabDoor
open Go.RowKit Go.ChangeShapes Go.WideShapes Go.ChangeAt
set_option linter.unusedVariables false

set_option maxRecDepth 100000 in
theorem far_reads (os : Os) {H : Type} (enc : TypeId × Value → H) : ∃ places, DataW.whole enc Tryd.prog ((World.laidAll Tryd.prog os laidL).forCall (fun _ _ => 0) ⟨#[], #[.slice none 0 0, .slice none 0 0, .slice none 0 0], []⟩).memory Tryd.f4.params.toList Rows.codecFarSpec.vars false (#[.slice none 0 0, .slice none 0 0, .slice none 0 0] : Array Value).toList 8 = some ([.nil, .nil, .nil], [], places) :=
  ⟨[], by kernel_rfl⟩
set_option maxRecDepth 100000 in
theorem far_lifted (os : Os) (started : os.Started) (H : Type) (enc : TypeId × Value → H) (F : Stop.Interp) :
    ReturnsInHanded {} Tryd.checked os 4 .any ((Rows.OpenSpec.upto Rows.codecFarSpec).preRow enc Tryd.prog Tryd.f4 Rows.codecFarUptoRow.domain false laidL) (((Rows.OpenSpec.upto Rows.codecFarSpec).at F).post enc Tryd.prog Tryd.f4 false true false false) := by
  obtain ⟨places, hx⟩ := far_reads os enc
  refine returnsInHanded_of_row (C := Tryd.checked) (s := Rows.OpenSpec.upto Rows.codecFarSpec) own started (by kernel_rfl) Tryd.func4
    (witness_row_at (enc := enc) (C := Tryd.checked) false (World.laidAll Tryd.prog os laidL) #[.slice none 0 0, .slice none 0 0, .slice none 0 0] (World.laidAll_os _ _ _) (by kernel_rfl) (by kernel_rfl) (by kernel_rfl)
      (OpenSpec.preRow_of_cond 8 hx (by kernel_rfl) (fun k hk => by cases hk; kernel_rfl) (by kernel_rfl) (laidMet_laidAll _ (by kernel_rfl) (by kernel_rfl)))) ?_
  intro W base args ds gs before hval0 hW _ hcond0 hsz0 hL _ _
  have hval : ∀ (j : Nat) t v, Tryd.f4.params[j]? = some t → args[j]? = some v → Value.okWide Tryd.prog W .any base t v := hval0
  have hsz : (DataW.weightsEach Tryd.prog (Tryd.f4.params.toList ++ Rows.codecFarSpec.plain.varTypes Tryd.prog) (ds ++ gs)).all (· ≤ reachBytes) = true := hsz0
  have hk : Rows.uptoSmall H (ds ++ gs) = true := hcond0 _ rfl
  have hW' := hW
  obtain ⟨p, q, hA0, hV, rfl, _, _⟩ := hW
  have hA : DataW.TrodAll enc Tryd.prog W 0 (fun _ => true) true Tryd.f4.params.toList args.toList ds p := hA0
  rw [Tryd.params4] at hA hval hsz
  obtain ⟨v0, vs0, d0, ds0, p0, q0, hargs, rfl, rfl, h0, r0⟩ := trodAll_cons hA
  obtain ⟨v1, vs1, d1, ds1, p1, q1, rfl, rfl, rfl, h1, r1⟩ := trodAll_cons r0
  obtain ⟨v2, vs2, d2, ds2, p2, q2, rfl, rfl, rfl, h2, r2⟩ := trodAll_cons r1
  obtain ⟨rfl, rfl, rfl⟩ := trodAll_nil r2
  obtain rfl : args = #[v0, v1, v2] := by cases args; simp_all
  obtain ⟨rfl, rfl⟩ := trodVars_none hV
  obtain ⟨a0, n0, c0, rfl⟩ := okWide_slice Tryd.underlying28 (hval 0 28 v0 rfl rfl)
  have k0 := h0
  have lt0 : ∀ x ∈ p0, x.block < W.heap.size := by obtain ⟨m, hm⟩ := k0; exact DataW.trod_lt m _ _ _ hm
  obtain ⟨fuel0, hf0⟩ := h0
  obtain ⟨l0, rd0, lc0, sh0⟩ := bytes_open hf0
  have nn0 : a0 = none → n0 = 0 ∧ c0 = 0 := fun h => by
    subst h
    rcases open_ints Tryd.underlying28 Tryd.underlying5 Tryd.cells5 hf0 with ⟨hcs, _⟩ | ⟨y, l, c, zs, hcs, _⟩
    · simp [Value.cells] at hcs; exact hcs
    · simp [Value.cells] at hcs
  have m0 : n0 ≤ 1048576 := by
    rcases sh0 with ⟨_, h⟩ | ⟨e, s, he, h⟩
    · omega
    · have hm : DataW.slice e s ∈ ([d0, d1, d2] ++ [] : List (DataW H)) := by have e1 : d0 = .slice e s := he; rw [e1]; simp
      have := bulk_slice hk hm
      omega
  obtain ⟨a1, n1, c1, rfl⟩ := okWide_slice Tryd.underlying28 (hval 1 28 v1 rfl rfl)
  have k1 := h1
  have lt1 : ∀ x ∈ p1, x.block < W.heap.size := by obtain ⟨m, hm⟩ := k1; exact DataW.trod_lt m _ _ _ hm
  obtain ⟨fuel1, hf1⟩ := h1
  obtain ⟨l1, rd1, lc1, sh1⟩ := bytes_open hf1
  have nn1 : a1 = none → n1 = 0 ∧ c1 = 0 := fun h => by
    subst h
    rcases open_ints Tryd.underlying28 Tryd.underlying5 Tryd.cells5 hf1 with ⟨hcs, _⟩ | ⟨y, l, c, zs, hcs, _⟩
    · simp [Value.cells] at hcs; exact hcs
    · simp [Value.cells] at hcs
  have m1 : n1 ≤ 1048576 := by
    rcases sh1 with ⟨_, h⟩ | ⟨e, s, he, h⟩
    · omega
    · have hm : DataW.slice e s ∈ ([d0, d1, d2] ++ [] : List (DataW H)) := by have e1 : d1 = .slice e s := he; rw [e1]; simp
      have := bulk_slice hk hm
      omega
  obtain ⟨a2, n2, c2, rfl⟩ := okWide_slice Tryd.underlying28 (hval 2 28 v2 rfl rfl)
  have k2 := h2
  have lt2 : ∀ x ∈ p2, x.block < W.heap.size := by obtain ⟨m, hm⟩ := k2; exact DataW.trod_lt m _ _ _ hm
  obtain ⟨fuel2, hf2⟩ := h2
  obtain ⟨l2, rd2, lc2, sh2⟩ := bytes_open hf2
  have nn2 : a2 = none → n2 = 0 ∧ c2 = 0 := fun h => by
    subst h
    rcases open_ints Tryd.underlying28 Tryd.underlying5 Tryd.cells5 hf2 with ⟨hcs, _⟩ | ⟨y, l, c, zs, hcs, _⟩
    · simp [Value.cells] at hcs; exact hcs
    · simp [Value.cells] at hcs
  have m2 : n2 ≤ 1048576 := by
    rcases sh2 with ⟨_, h⟩ | ⟨e, s, he, h⟩
    · omega
    · have hm : DataW.slice e s ∈ ([d0, d1, d2] ++ [] : List (DataW H)) := by have e1 : d2 = .slice e s := he; rw [e1]; simp
      have := bulk_slice hk hm
      omega
  clear hA0 hval0 hsz0 hcond0
  refine (far_walk a0 n0 c0 l0 a1 n1 c1 l1 a2 n2 c2 l2 W rd0 rd1 rd2 lc1 nn0 nn1 nn2 m0 m1 m2 (sized_of hL) (tabs_of hL)).mono fun e W' ⟨he, bel⟩ => ?_
  subst he
  exact ⟨_, rfl, _, _, _, [], _, [], hW', trodAll_mk1 (shut_bool Tryd.underlying4 _), (trodAll_cons_mk (Below.trod laidOut (by kernel_rfl) (of_decide_eq_true (by kernel_rfl)) k0 bel lt0) (trodAll_cons_mk (Below.trod laidOut (by kernel_rfl) (of_decide_eq_true (by kernel_rfl)) k1 bel lt1) (trodAll_cons_mk (Below.trod laidOut (by kernel_rfl) (of_decide_eq_true (by kernel_rfl)) k2 bel lt2) trodAll_mk0))), rfl, bel.frame _, fun h => by cases h⟩

theorem far_holds : Rows.CodecFarUptoSaid :=
  OpenClaim.holds_of_cond 4 Tryd.f4 rfl rfl rfl rfl rfl rfl rfl ⟨rfl, rfl, rfl, rfl, rfl⟩ rfl rfl rfl rfl rfl (by kernel_rfl) Tryd.func4 (by kernel_rfl)
    (of_decide_eq_true (by kernel_rfl)) (by unfold Func.isWrapper; first | (rw [if_pos (by decide +kernel)]; kernel_rfl) | (rw [if_neg (by decide +kernel)]; exact ⟨rfl, rfl⟩))
    (fun os started H enc _ F => by rw [OpenClaim.pre_eq_preRow]; exact far_lifted os started H enc F)

theorem far_card : Rows.CodecFarUptoCardSaid :=
  Claim7.holds_tied_plain_at .later [] [.data, .data, .pinned] true Rows.codecFarUptoCard.stood.harness true far_holds (fun _ h => by cases h) (by kernel_rfl) (fun _ h => by cases h) codecFarUpto_row_tie rfl ⟨rfl, rfl⟩ (by kernel_rfl) rfl
    (fun f fn hf hfn => by
      obtain rfl : f = 4 := Option.some.inj ((show Tryd.prog.funcNamed Rows.codecFarUptoRow.func = some 4 by kernel_rfl).symm.trans hf) |>.symm
      obtain rfl : fn = Tryd.f4 := (Option.some.inj (Tryd.func4.symm.trans hfn)).symm
      exact ⟨by kernel_rfl, fun j t ht => by
        rw [Tryd.params4] at ht
        have hm : t ∈ [28, 28, 28] := by simpa using Array.mem_of_getElem? ht
        have hall : ([28, 28, 28].all fun u => !Tryd.prog.wantsStandIn u) = true := by kernel_rfl
        exact (show Tryd.prog.wantsStandIn t = false by simpa using List.all_eq_true.1 hall t hm)⟩)
    (by kernel_rfl)
end Go.Proofs.YtgpimajdcfoigabDoor
