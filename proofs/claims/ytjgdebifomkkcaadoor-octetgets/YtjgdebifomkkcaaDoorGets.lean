/- longshorelaw01's back; the document's Get; OctetGets. -/
import Derived.Test.YtjgdebifomkkcaaDoorLaid
import Derived.Test.YtjgdebifomkkcaaDoorOpen
import Derived.Test.YtjgdebifomkkcaaDoorBack
import Derived.Test.YtjgdebifomkkcaaDoorTie
import Derived.Test.YtjgdebifomkkcaaDoorCards
import Derived.SevenTiedAt
namespace Go.Proofs.YtjgdebifomkkcaaDoor
open Go.RowKit Go.ChangeShapes Go.WideShapes Go.ChangeAt
set_option linter.unusedVariables false

theorem refget_arg (a : Option Addr) (n cap : Nat) (i x : Int) (w : World) (h : x < 1 ∨ 8 < x ∨ i < 0 ∨ n < i) :
    Calls Tryd.prog 16 #[.slice a n cap, .int .i64 i, .int .i64 x] w fun e w' => e = .returned (.tuple #[.int .u64 0, .int .i64 1]) ∧ w = w' := by
  by_cases h1 : x < 1
  · go_enter Tryd.func16, Tryd.ntmps16
    go_wp2
    go_ret2
    exact ⟨rfl, rfl⟩
  · by_cases h2 : 8 < x
    · go_enter Tryd.func16, Tryd.ntmps16
      go_wp2
      go_ret2
      exact ⟨rfl, rfl⟩
    · by_cases h3 : i < 0
      · go_enter Tryd.func16, Tryd.ntmps16
        go_wp2
        go_ret2
        exact ⟨rfl, rfl⟩
      · have h4 : (n : Int) < i := by omega
        clear h
        go_enter Tryd.func16, Tryd.ntmps16
        go_wp2
        go_ret2
        exact ⟨rfl, rfl⟩
theorem refget_short (a : Option Addr) (n cap : Nat) (i x : Int) (w : World) (h1 : 1 ≤ x) (h8 : x ≤ 8) (h0 : 0 ≤ i) (hi : i ≤ n) (hn : n ≤ 281474976710656) (hs : n - i < x) :
    Calls Tryd.prog 16 #[.slice a n cap, .int .i64 i, .int .i64 x] w fun e w' => e = .returned (.tuple #[.int .u64 0, .int .i64 10]) ∧ w = w' := by
  go_enter Tryd.func16, Tryd.ntmps16
  go_wp2
  go_ret2
  exact ⟨rfl, rfl⟩
set_option maxHeartbeats 1000000 in
theorem refget_yes (a : Option Addr) (n cap i k : Nat) (l : List Nat) (w : World) (h1 : 1 ≤ k) (h8 : k ≤ 8) (hik : i + k ≤ n) (hn : n ≤ 281474976710656) (hrd : Rd w a n l) :
    Calls Tryd.prog 16 #[.slice a n cap, .int .i64 (i : Int), .int .i64 (k : Int)] w fun e w' => e = .returned (.tuple #[.int .u64 ((getN ((l.drop i).take k) : Nat) : Int), .int .i64 0]) ∧ w = w' := by
  obtain ⟨b, off, rfl, hlt, hc⟩ := hrd.2.2 (by omega)
  have hlen := hrd.1
  have HB : Hid (∀ c ∈ (l.drop i).take k, c < 256) := fun c hc => hrd.2.1 c (List.mem_of_mem_drop (List.mem_of_mem_take hc))
  have HC : Hid (∀ j, j < k → w.cell? ⟨b, off + (i + j), none⟩ = some (.int .u8 ((((l.drop i).take k).getD j 0 : Nat) : Int))) := fun j hj => by
    have := hc (i + j) (by omega)
    rw [this]
    simp [List.getD_eq_getElem?_getD, List.getElem?_drop, hj]
  have hlen2 : ((l.drop i).take k).length = k := by simp; omega
  clear hc hrd hlen
  generalize (l.drop i).take k = t at *
  go_enter Tryd.func16, Tryd.ntmps16
  go_wp2
  go_loop [8, 9] (fun m p => ∃ j : Nat, j ≤ k ∧ p = .int .i64 ((i + j : Nat) : Int) ∧ m = .int .u64 ((getN (t.take j) : Nat) : Int)) (fun _ p => i + k - (intOf p).toNat)
  case atStart => exact ⟨0, Nat.zero_le _, by simp, rfl⟩
  case round =>
    obtain ⟨j, hj, rfl, rfl⟩ := hrel
    by_cases hjk : j < k
    · have hc := HC.out j hjk
      have hm : getN (t.take j) < 72057594037927936 := by
        have h1 := getN_lt (t.take j) (fun c hc => HB.out c (List.mem_of_mem_take hc))
        have h2 : 256 ^ (t.take j).length ≤ 256 ^ 7 := Nat.pow_le_pow_right (by omega) (by rw [List.length_take]; omega)
        have h3 : (256 : Nat) ^ 7 = 72057594037927936 := by decide
        omega
      have hcl : t.getD j 0 < 256 := by
        rw [List.getD_eq_getElem?_getD, List.getElem?_eq_getElem (by omega)]
        exact HB.out _ (List.getElem_mem _)
      have HS : Hid (getN (t.take (j + 1)) = getN (t.take j) * 256 + t.getD j 0) := by
        rw [take_snocN _ _ (by omega), getN_snoc]; exact rfl
      generalize getN (t.take j) = m at *
      generalize t.getD j 0 = y at *
      have hij : i + j < i + k := by omega
      have hin : i + j < n := by omega
      generalize hp : i + j = p at *
      have HP := hide hp
      clear hp
      go_wp2
      go_round
      case rel => exact ⟨j + 1, by omega, by have := HP.out; go_num, by rw [HS.out]; go_num⟩
      case measure => simp [intOf]; omega
    · have hjk' : j = k := by omega
      subst hjk'
      have HF : Hid (t.take j = t) := List.take_of_length_le (by omega)
      go_wp2
      go_ret2
      rw [HF.out]
      exact ⟨rfl, rfl⟩

set_option maxRecDepth 100000 in
set_option maxHeartbeats 1000000 in
theorem gets_walk (a : Option Addr) (n cap : Nat) (l : List Nat) (i x : Int) (w : World) (hr : Rd w a n l) (hc : n ≤ cap) (hz : cap ≤ 140737488351232) (wi : (Lit.int .i64 i).wf = true) (wx : (Lit.int .i64 x).wf = true) (hT : Lib.Utf8Tabs 0 1 w) :
    Calls Tryd.prog 5 #[.slice a n cap, .int .i64 i, .int .i64 x] w fun e w' => e = .returned (.bool true) ∧ Below w.heap.size w w' := by
  have HT := hide hT
  have HR := hide hr
  clear hT hr wi wx
  go_enter Tryd.func5, Tryd.ntmps5
  go_wp2_with fail
  refine (live_any w HT.out).mono ?_
  rintro e w1 ⟨rfl, hb1⟩
  go_wp2_with fail
  refine (lent_any a n cap l w1 (HR.out.below hb1) (by omega)).mono ?_
  rintro e w2 ⟨rfl, hrow, hb2⟩
  have HW := hide hrow
  clear hrow
  have HR2 := hide ((HR.out.below hb1).below hb2)
  have HL : Hid (∀ c ∈ l ++ [71, 72], c < 256) := fun c hc => by
    rcases List.mem_append.1 hc with h | h
    · exact HR.out.2.1 c h
    · simp at h; omega
  have hln := HR.out.1
  have HRl : Hid (Rd w2 (some ⟨w1.heap.size, 0, none⟩) n l) := by
    have := Rd.of_rowl HW.out (show n ≤ n + 2 by omega) (by simp; omega) HL.out
    rwa [List.take_append_of_le_length (by omega), List.take_of_length_le (by omega)] at this
  have HRa : Hid (Rd w2 (some ⟨w1.heap.size, 0, none⟩) (n + 2) (l ++ [71, 72])) := by
    have := Rd.of_rowl HW.out (show n + 2 ≤ n + 2 by omega) (by simp; omega) HL.out
    rwa [List.take_of_length_le (by simp; omega)] at this
  have HE : Hid (∃ N E : Int, (Calls Tryd.prog 15 #[.slice (some ⟨w1.heap.size, 0, none⟩) n (n + 2), .int .i64 i, .int .i64 x] w2 fun e w' => e = .returned (.tuple #[.int .u64 N, .int .i64 E]) ∧ w2 = w') ∧
      Calls Tryd.prog 16 #[.slice a n cap, .int .i64 i, .int .i64 x] w2 fun e w' => e = .returned (.tuple #[.int .u64 N, .int .i64 E]) ∧ w2 = w') := by
    by_cases h1 : x < 1 ∨ 8 < x
    · exact ⟨_, _, get_width _ _ _ _ _ _ h1, refget_arg _ _ _ _ _ _ (by omega)⟩
    · by_cases h2 : i < 0 ∨ n < i
      · exact ⟨_, _, get_place _ _ _ _ _ _ (by omega) (by omega) h2, refget_arg _ _ _ _ _ _ (by omega)⟩
      · by_cases h3 : n - i < x
        · exact ⟨_, _, get_short _ _ _ _ _ _ (by omega) (by omega) (by omega) (by omega) (by omega) h3, refget_short _ _ _ _ _ _ (by omega) (by omega) (by omega) (by omega) (by omega) h3⟩
        · obtain ⟨p, rfl⟩ := Int.eq_ofNat_of_zero_le (show 0 ≤ i by omega)
          obtain ⟨k, rfl⟩ := Int.eq_ofNat_of_zero_le (show 0 ≤ x by omega)
          exact ⟨_, _, get_yes _ n (n + 2) p k l w2 (by omega) (by omega) (by omega) (by omega) (by omega) HRl.out, refget_yes _ n cap p k l w2 (by omega) (by omega) (by omega) (by omega) HR2.out⟩
  obtain ⟨N, E, hg, hrg⟩ := HE.out
  have HG := hide hg
  have HQ := hide hrg
  clear hg hrg HE
  go_wp2_with fail
  refine HG.out.mono ?_
  rintro e w3 ⟨rfl, rfl⟩
  go_wp2_with fail
  refine HQ.out.mono ?_
  rintro e w3 ⟨rfl, rfl⟩
  go_wp2_with fail
  refine (back_any _ a n cap l w2 HW.out HRl.out HRa.out HR2.out (by omega)).mono ?_
  rintro e w3 ⟨rfl, nq, rfl⟩
  have hb3 := below_draws (w := w2) nq
  go_wp2
  go_ret
  exact ⟨rfl, (hb1.trans (hb2.mono hb1.size)).trans (hb3.mono (Nat.le_trans hb1.size hb2.size))⟩

set_option maxRecDepth 100000 in
theorem gets_lifted (os : Os) (started : os.Started) (H : Type) (enc : TypeId × Value → H) :
    ReturnsInHanded {} Tryd.checked os 5 .any (fun w args => (Rows.octetGetsSpec.pre enc Tryd.prog Tryd.f5 [] false w args ∧ laidMetH Tryd.prog laidL w) ∧ sizedMet enc Tryd.prog Tryd.f5 (OpenSpec.ofChange Rows.octetGetsSpec) false w args)
      (Rows.octetGetsSpec.post enc Tryd.prog Tryd.f5 false true false false) := by
  refine returnsInHanded_of_change_and (C := Tryd.checked) (X := fun w _ => laidMetH Tryd.prog laidL w) (fun _ _ _ hh h => h.of_heap hh) own started (by kernel_rfl) Tryd.func5
    (ChangeSpec.witness_shaped (enc := enc) (C := Tryd.checked) (os := os) (X := fun w _ => laidMetH Tryd.prog laidL w) false (World.laidAll Tryd.prog os laidL) #[.slice none 0 0, .int .i64 0, .int .i64 0] 8 (World.laidAll_os _ _ _)
      (World.shaped_of_ZipB (by kernel_rfl) (by kernel_rfl)) (by kernel_rfl) (by kernel_rfl) (by kernel_rfl)
      (by rw [MakeChecks.laidMetH_plain _ _ _ (by kernel_rfl)]; exact laidMet_laidAll _ (by kernel_rfl) (by kernel_rfl))) ?_
  intro W base args ds gs before hval0 hW _ hsz0 hL _
  have hval : ∀ (j : Nat) t v, Tryd.f5.params[j]? = some t → args[j]? = some v → Value.okWide Tryd.prog W .any base t v := hval0
  have hsz : (DataW.weightsEach Tryd.prog (Tryd.f5.params.toList ++ Rows.octetGetsSpec.plain.varTypes Tryd.prog) (ds ++ gs)).all (· ≤ reachBytes) = true := hsz0
  have hW' := hW
  obtain ⟨p, q, hA0, hV, rfl, _, _⟩ := hW
  have hA : DataW.TrodAll enc Tryd.prog W 0 (fun _ => true) true Tryd.f5.params.toList args.toList ds p := hA0
  rw [Tryd.params5] at hA hval hsz
  obtain ⟨v0, vs0, d0, ds0, p0, q0, hargs, rfl, rfl, h0, r0⟩ := trodAll_cons hA
  obtain ⟨v1, vs1, d1, ds1, p1, q1, rfl, rfl, rfl, h1, r1⟩ := trodAll_cons r0
  obtain ⟨v2, vs2, d2, ds2, p2, q2, rfl, rfl, rfl, h2, r2⟩ := trodAll_cons r1
  obtain ⟨rfl, rfl, rfl⟩ := trodAll_nil r2
  obtain rfl : args = #[v0, v1, v2] := by cases args; simp_all
  obtain ⟨rfl, rfl⟩ := trodVars_none hV
  obtain ⟨a0, n0, c0, rfl⟩ := okWide_slice Tryd.underlying24 (hval 0 24 v0 rfl rfl)
  have k0 := h0
  have lt0 : ∀ x ∈ p0, x.block < W.heap.size := by obtain ⟨m, hm⟩ := k0; exact DataW.trod_lt m _ _ _ hm
  obtain ⟨fuel0, hf0⟩ := h0
  obtain ⟨l0, rd0, lc0, sh0⟩ := bytes_open hf0
  have z0 := bytes_reach hsz (j := 0) rfl rfl sh0
  obtain ⟨a1, rfl, rfl, rfl, w1⟩ := open_int Tryd.underlying3 (hval 1 3 v1 rfl rfl) h1
  obtain ⟨a2, rfl, rfl, rfl, w2⟩ := open_int Tryd.underlying3 (hval 2 3 v2 rfl rfl) h2
  clear hA0 hval0 hsz0
  refine (gets_walk a0 n0 c0 l0 a1 a2 W rd0 lc0 z0 w1 w2 (tabs_of hL)).mono fun e W' ⟨he, bel⟩ => ?_
  subst he
  exact ⟨_, rfl, _, _, _, [], _, [], hW', trodAll_mk1 (shut_bool Tryd.underlying4 _), (trodAll_cons_mk (Below.trod laidOut (by kernel_rfl) (of_decide_eq_true (by kernel_rfl)) k0 bel lt0) (trodAll_cons_mk (shut_int Tryd.underlying3 w1) (trodAll_cons_mk (shut_int Tryd.underlying3 w2) trodAll_mk0))), rfl, bel.frame _, fun h => by cases h⟩

theorem gets_holds : Rows.OctetGetsSaid :=
  OpenClaim.holds_of_wide 5 Tryd.f5 rfl rfl rfl rfl rfl rfl rfl ⟨rfl, rfl, rfl, rfl, rfl⟩ rfl rfl rfl rfl rfl (by kernel_rfl) Tryd.func5 (by kernel_rfl)
    (of_decide_eq_true (by kernel_rfl)) (by unfold Func.isWrapper; first | (rw [if_pos (by decide +kernel)]; kernel_rfl) | (rw [if_neg (by decide +kernel)]; exact ⟨rfl, rfl⟩))
    (fun os started H enc _ => gets_lifted os started H enc)

theorem gets_card : Rows.OctetGetsCardSaid :=
  Claim7.holds_tied_plain_at .later [] [.data, .pinned] true Rows.octetGetsCard.stood.harness false gets_holds (fun _ h => by cases h) (by kernel_rfl) (fun _ h => by cases h) octetGets_row_tie rfl ⟨rfl, rfl⟩ (by kernel_rfl) rfl
    (fun f fn hf hfn => by
      obtain rfl : f = 5 := Option.some.inj ((show Tryd.prog.funcNamed Rows.octetGetsRow.func = some 5 by kernel_rfl).symm.trans hf) |>.symm
      obtain rfl : fn = Tryd.f5 := (Option.some.inj (Tryd.func5.symm.trans hfn)).symm
      exact ⟨by kernel_rfl, fun j t ht => by
        rw [Tryd.params5] at ht
        have hm : t ∈ [24, 3, 3] := by simpa using Array.mem_of_getElem? ht
        have hall : ([24, 3, 3].all fun u => !Tryd.prog.wantsStandIn u) = true := by kernel_rfl
        exact (show Tryd.prog.wantsStandIn t = false by simpa using List.all_eq_true.1 hall t hm)⟩)
    (by kernel_rfl)
#print axioms gets_card
end Go.Proofs.YtjgdebifomkkcaaDoor
