/- OctetRound. -/
import Derived.Test.YtjgdebifomkkcabDoorSerial
namespace Go.Proofs.YtjgdebifomkkcabDoor
open Go.RowKit Go.ChangeShapes Go.WideShapes Go.ChangeAt
set_option linter.unusedVariables false

theorem gap_rng (a b : Int) : -2147483648 ≤ gapZ a b ∧ gapZ a b ≤ 2147483647 := by unfold gapZ; omega
theorem gap_to (a b : Int) : (a + gapZ a b) % 4294967296 = (b + 0) % 4294967296 := by unfold gapZ; omega
theorem gap_add (a n : Int) (h1 : -2147483648 ≤ n) (h2 : n ≤ 2147483647) : gapZ a ((a + n) % 4294967296) = n := by unfold gapZ; omega
theorem gap_both (a b : Int) : ((a + 0) % 4294967296 = (b + 0) % 4294967296 ∧ gapZ a b = 0 ∧ gapZ b a = 0) ∨ ((a + 0) % 4294967296 ≠ (b + 0) % 4294967296 ∧ gapZ a b = -2147483648 ∧ gapZ b a = -2147483648) ∨
    ((a + 0) % 4294967296 ≠ (b + 0) % 4294967296 ∧ gapZ a b ≠ -2147483648 ∧ 0 < gapZ a b ∧ gapZ b a < 0) ∨ ((a + 0) % 4294967296 ≠ (b + 0) % 4294967296 ∧ gapZ a b ≠ -2147483648 ∧ gapZ a b < 0 ∧ 0 < gapZ b a) := by
  unfold gapZ; omega

set_option maxRecDepth 100000 in
set_option maxHeartbeats 1000000 in
theorem round_walk (a b n : Int) (w : World) (wa : (Lit.int .i64 a).wf = true) (wb : (Lit.int .i64 b).wf = true) (wn : (Lit.int .i64 n).wf = true) (hT : Lib.Utf8Tabs 0 1 w) :
    Calls Tryd.prog 4 #[.int .i64 a, .int .i64 b, .int .i64 n] w fun e w' => e = .returned (.bool true) ∧ Below w.heap.size w w' := by
  have HT := hide hT
  clear hT wa wb wn
  have hr := gap_rng a b
  have HTO := hide (gap_to a b)
  have HAD := hide (gap_add a n)
  have HBO := hide (gap_both a b)
  have hx : 0 ≤ (a + 0) % 4294967296 ∧ (a + 0) % 4294967296 ≤ 4294967295 := by omega
  have c1 := fun w => add_any a 0 w
  have c2 := fun w => add_any b 0 w
  have c3 := fun w => gap_any a b w
  have c4 := fun w => add_any a (gapZ a b) w
  have c5 := fun w => add_any a n w
  have c6 := fun w => gap_any a ((a + n) % 4294967296) w
  have c7 := fun w => before_any a b w
  have c8 := fun w => before_any b a w
  rw [HTO.out] at c4
  clear HTO
  generalize (a + 0) % 4294967296 = X at *
  generalize (b + 0) % 4294967296 = Y at *
  generalize (a + n) % 4294967296 = Z at *
  generalize gapZ a b = G at *
  generalize gapZ b a = G2 at *
  generalize gapZ a Z = D at *
  have C1 := hide c1
  have C2 := hide c2
  have C3 := hide c3
  have C4 := hide c4
  have C5 := hide c5
  have C6 := hide c6
  have C7 := hide c7
  have C8 := hide c8
  clear c1 c2 c3 c4 c5 c6 c7 c8
  go_enter Tryd.func4, Tryd.ntmps4
  go_wp2_with fail
  refine (live_any w HT.out).mono ?_
  rintro e w1 ⟨rfl, hb1⟩
  go_wp2_with fail
  refine (C1.out w1).mono ?_
  rintro e w2 ⟨rfl, rfl⟩
  go_wp2_with fail
  refine (C2.out w1).mono ?_
  rintro e w2 ⟨rfl, rfl⟩
  go_wp2_with fail
  refine (C3.out w1).mono ?_
  rintro e w2 ⟨rfl, rfl⟩
  go_wp2_with fail
  refine (C4.out w1).mono ?_
  rintro e w2 ⟨rfl, rfl⟩
  obtain ⟨hx1, hx2⟩ := hx
  obtain ⟨hg1, hg2⟩ := hr
  go_wp2_with fail
  refine (C5.out w1).mono ?_
  rintro e w2 ⟨rfl, rfl⟩
  go_wp2_with fail
  refine (C6.out w1).mono ?_
  rintro e w2 ⟨rfl, rfl⟩
  have HN : Hid ((-2147483648 ≤ n ∧ n ≤ 2147483647 ∧ D = n) ∨ n < -2147483648 ∨ (-2147483648 ≤ n ∧ 2147483647 < n)) := by
    by_cases h1 : -2147483648 ≤ n
    · by_cases h2 : n ≤ 2147483647
      · exact .inl ⟨h1, h2, HAD.out h1 h2⟩
      · exact .inr (.inr ⟨h1, by omega⟩)
    · exact .inr (.inl (by omega))
  clear HAD
  rcases HN.out with ⟨hn1, hn2, rfl⟩ | hn1 | ⟨hn1, hn2⟩
  all_goals
    clear HN
    go_wp2_with fail
    refine (C7.out w1).mono ?_
    rintro e w2 ⟨rfl, rfl⟩
    go_wp2_with fail
    refine (C8.out w1).mono ?_
    rintro e w2 ⟨rfl, rfl⟩
    rcases HBO.out with ⟨h1, h2, h3⟩ | ⟨h1, h2, h3⟩ | ⟨h1, h2, h3, h4⟩ | ⟨h1, h2, h3, h4⟩
    · subst h1
      subst h2
      subst h3
      go_wp2
      go_ret
      exact ⟨rfl, hb1⟩
    · subst h2
      subst h3
      have hxy : (X == Y) = false := by simpa using h1
      clear h1
      go_wp2
      go_ret
      exact ⟨rfl, hb1⟩
    · have hxy : (X == Y) = false := by simpa using h1
      have hgg : (G == -2147483648) = false := by simpa using h2
      have d1 : decide (0 < G) = true := by simpa using h3
      have d2 : decide (0 < G2) = false := by simp; omega
      rw [d1, d2]
      clear h1 h2 d1 d2
      go_wp2
      go_ret
      exact ⟨rfl, hb1⟩
    · have hxy : (X == Y) = false := by simpa using h1
      have hgg : (G == -2147483648) = false := by simpa using h2
      have d1 : decide (0 < G) = false := by simp; omega
      have d2 : decide (0 < G2) = true := by simpa using h4
      rw [d1, d2]
      clear h1 h2 d1 d2
      go_wp2
      go_ret
      exact ⟨rfl, hb1⟩

set_option maxRecDepth 100000 in
theorem round_lifted (os : Os) (started : os.Started) (H : Type) (enc : TypeId × Value → H) :
    ReturnsInHanded {} Tryd.checked os 4 .any (fun w args => (Rows.octetRoundSpec.pre enc Tryd.prog Tryd.f4 [] false w args ∧ laidMetH Tryd.prog laidL w) ∧ sizedMet enc Tryd.prog Tryd.f4 (OpenSpec.ofChange Rows.octetRoundSpec) false w args)
      (Rows.octetRoundSpec.post enc Tryd.prog Tryd.f4 false true false false) := by
  refine returnsInHanded_of_change_and (C := Tryd.checked) (X := fun w _ => laidMetH Tryd.prog laidL w) (fun _ _ _ hh h => h.of_heap hh) own started (by kernel_rfl) Tryd.func4
    (ChangeSpec.witness_shaped (enc := enc) (C := Tryd.checked) (os := os) (X := fun w _ => laidMetH Tryd.prog laidL w) false (World.laidAll Tryd.prog os laidL) #[.int .i64 0, .int .i64 0, .int .i64 0] 8 (World.laidAll_os _ _ _)
      (World.shaped_of_ZipB (by kernel_rfl) (by kernel_rfl)) (by kernel_rfl) (by kernel_rfl) (by kernel_rfl)
      (by rw [MakeChecks.laidMetH_plain _ _ _ (by kernel_rfl)]; exact laidMet_laidAll _ (by kernel_rfl) (by kernel_rfl))) ?_
  intro W base args ds gs before hval0 hW _ hsz0 hL _
  have hval : ∀ (j : Nat) t v, Tryd.f4.params[j]? = some t → args[j]? = some v → Value.okWide Tryd.prog W .any base t v := hval0
  have hsz : (DataW.weightsEach Tryd.prog (Tryd.f4.params.toList ++ Rows.octetRoundSpec.plain.varTypes Tryd.prog) (ds ++ gs)).all (· ≤ reachBytes) = true := hsz0
  have hW' := hW
  obtain ⟨p, q, hA0, hV, rfl, _, _⟩ := hW
  have hA : DataW.TrodAll enc Tryd.prog W 0 (fun _ => true) true Tryd.f4.params.toList args.toList ds p := hA0
  rw [Tryd.params4] at hA hval hsz
  obtain ⟨v0, vs0, d0, ds0, p0, q0, hargs, rfl, rfl, h0, r0⟩ := trodAll_cons hA
  obtain ⟨v1, vs1, d1, ds1, p1, q1, rfl, rfl, rfl, h1, r1⟩ := trodAll_cons r0
  obtain ⟨v2, vs2, d2, ds2, p2, q2, rfl, rfl, rfl, h2, r2⟩ := trodAll_cons r1
  obtain ⟨rfl, rfl, rfl⟩ := trodAll_nil r2
  obtain rfl : args = #[v0, v1, v2] := by cases args; simp_all
  obtain ⟨rfl, rfl⟩ := trodVars_none hV
  obtain ⟨a0, rfl, rfl, rfl, w0⟩ := open_int Tryd.underlying3 (hval 0 3 v0 rfl rfl) h0
  obtain ⟨a1, rfl, rfl, rfl, w1⟩ := open_int Tryd.underlying3 (hval 1 3 v1 rfl rfl) h1
  obtain ⟨a2, rfl, rfl, rfl, w2⟩ := open_int Tryd.underlying3 (hval 2 3 v2 rfl rfl) h2
  clear hA0 hval0 hsz0
  refine (round_walk a0 a1 a2 W w0 w1 w2 (tabs_of hL)).mono fun e W' ⟨he, bel⟩ => ?_
  subst he
  exact ⟨_, rfl, _, _, _, [], _, [], hW', trodAll_mk1 (shut_bool Tryd.underlying4 _), (trodAll_cons_mk (shut_int Tryd.underlying3 w0) (trodAll_cons_mk (shut_int Tryd.underlying3 w1) (trodAll_cons_mk (shut_int Tryd.underlying3 w2) trodAll_mk0))), rfl, bel.frame _, fun h => by cases h⟩

theorem round_holds : Rows.OctetRoundSaid :=
  OpenClaim.holds_of_wide 4 Tryd.f4 rfl rfl rfl rfl rfl rfl rfl ⟨rfl, rfl, rfl, rfl, rfl⟩ rfl rfl rfl rfl rfl (by kernel_rfl) Tryd.func4 (by kernel_rfl)
    (of_decide_eq_true (by kernel_rfl)) (by unfold Func.isWrapper; first | (rw [if_pos (by decide +kernel)]; kernel_rfl) | (rw [if_neg (by decide +kernel)]; exact ⟨rfl, rfl⟩))
    (fun os started H enc _ => round_lifted os started H enc)

theorem round_card : Rows.OctetRoundCardSaid :=
  Claim7.holds_tied_plain_at .later [] [.data, .pinned] true Rows.octetRoundCard.stood.harness false round_holds (fun _ h => by cases h) (by kernel_rfl) (fun _ h => by cases h) octetRound_row_tie rfl ⟨rfl, rfl⟩ (by kernel_rfl) rfl
    (fun f fn hf hfn => by
      obtain rfl : f = 4 := Option.some.inj ((show Tryd.prog.funcNamed Rows.octetRoundRow.func = some 4 by kernel_rfl).symm.trans hf) |>.symm
      obtain rfl : fn = Tryd.f4 := (Option.some.inj (Tryd.func4.symm.trans hfn)).symm
      exact ⟨by kernel_rfl, fun j t ht => by
        rw [Tryd.params4] at ht
        have hm : t ∈ [3, 3, 3] := by simpa using Array.mem_of_getElem? ht
        have hall : ([3, 3, 3].all fun u => !Tryd.prog.wantsStandIn u) = true := by kernel_rfl
        exact (show Tryd.prog.wantsStandIn t = false by simpa using List.all_eq_true.1 hall t hm)⟩)
    (by kernel_rfl)
#print axioms round_card
end Go.Proofs.YtjgdebifomkkcabDoor
