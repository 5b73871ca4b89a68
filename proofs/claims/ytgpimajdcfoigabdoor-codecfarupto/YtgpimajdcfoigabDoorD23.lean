import Derived.Test.YtgpimajdcfoigabDoorD22
import Derived.Deep.MidRow

/- codec.kindOf, standsInArray. codec's reader: numberOf. -/
namespace Go.Proofs.YtgpimajdcfoigabDoor
open Go.RowKit
set_option linter.unusedVariables false
set_option linter.unusedSimpArgs false
/-- what kindOf tells -/
def kindR (c : Nat) : Value := match kindC c with
  | some k => .tuple #[.int .i64 (k : Int), .bool true]
  | none => .tuple #[.int .i64 0, .bool false]
/-- the table, as one value -/
def tabL : List Value := (List.range 50).map fun i => .int .u8 ((if i % 2 = 0 then codeS.getD (i / 2) 0 else codeL.getD (i / 2) 0 : Nat) : Int)
theorem tab_len : tabL.length = 50 := by simp [tabL]
theorem tab_range {w : World} (h : SzTab w) : w.rangeAt 0 0 tabL := by
  intro j v hv
  have hj : j < 50 := by have := (List.getElem?_eq_some_iff.1 hv).1; rwa [tab_len] at this
  unfold tabL at hv
  rw [List.getElem?_map, List.getElem?_range hj] at hv
  simp only [Option.map_some, Option.some.injEq] at hv
  subst hv
  rw [Nat.zero_add]
  obtain ⟨h1, h2⟩ := h (j / 2) (by omega)
  by_cases hm : j % 2 = 0
  · rw [if_pos hm]
    have : j / 2 * 2 = j := by omega
    rw [this] at h1
    exact h1
  · rw [if_neg hm]
    have : j / 2 * 2 + 1 = j := by omega
    rw [this] at h2
    exact h2
theorem tab_info : (Tryd.prog.info? 74).map (·.size) = some tabL.length := by rw [tab_len]; kernel_rfl
theorem tab_under : ∃ d, Tryd.prog.underlying 74 = some d ∧ d.isRow = true := ⟨_, Tryd.underlying74, rfl⟩
theorem tab_index0 (w : World) : (Instr.index 74 (.agg tabL.toArray) (.int .i64 0)).run Tryd.prog w = .ok (.agg #[.int .u8 ((codeS.getD 0 0 : Nat) : Int), .int .u8 ((codeL.getD 0 0 : Nat) : Int)]) w := by kernel_rfl
theorem tab_index1 (w : World) : (Instr.index 74 (.agg tabL.toArray) (.int .i64 1)).run Tryd.prog w = .ok (.agg #[.int .u8 ((codeS.getD 1 0 : Nat) : Int), .int .u8 ((codeL.getD 1 0 : Nat) : Int)]) w := by kernel_rfl
theorem tab_index2 (w : World) : (Instr.index 74 (.agg tabL.toArray) (.int .i64 2)).run Tryd.prog w = .ok (.agg #[.int .u8 ((codeS.getD 2 0 : Nat) : Int), .int .u8 ((codeL.getD 2 0 : Nat) : Int)]) w := by kernel_rfl
theorem tab_index3 (w : World) : (Instr.index 74 (.agg tabL.toArray) (.int .i64 3)).run Tryd.prog w = .ok (.agg #[.int .u8 ((codeS.getD 3 0 : Nat) : Int), .int .u8 ((codeL.getD 3 0 : Nat) : Int)]) w := by kernel_rfl
theorem tab_index4 (w : World) : (Instr.index 74 (.agg tabL.toArray) (.int .i64 4)).run Tryd.prog w = .ok (.agg #[.int .u8 ((codeS.getD 4 0 : Nat) : Int), .int .u8 ((codeL.getD 4 0 : Nat) : Int)]) w := by kernel_rfl
theorem tab_index5 (w : World) : (Instr.index 74 (.agg tabL.toArray) (.int .i64 5)).run Tryd.prog w = .ok (.agg #[.int .u8 ((codeS.getD 5 0 : Nat) : Int), .int .u8 ((codeL.getD 5 0 : Nat) : Int)]) w := by kernel_rfl
theorem tab_index6 (w : World) : (Instr.index 74 (.agg tabL.toArray) (.int .i64 6)).run Tryd.prog w = .ok (.agg #[.int .u8 ((codeS.getD 6 0 : Nat) : Int), .int .u8 ((codeL.getD 6 0 : Nat) : Int)]) w := by kernel_rfl
theorem tab_index7 (w : World) : (Instr.index 74 (.agg tabL.toArray) (.int .i64 7)).run Tryd.prog w = .ok (.agg #[.int .u8 ((codeS.getD 7 0 : Nat) : Int), .int .u8 ((codeL.getD 7 0 : Nat) : Int)]) w := by kernel_rfl
theorem tab_index8 (w : World) : (Instr.index 74 (.agg tabL.toArray) (.int .i64 8)).run Tryd.prog w = .ok (.agg #[.int .u8 ((codeS.getD 8 0 : Nat) : Int), .int .u8 ((codeL.getD 8 0 : Nat) : Int)]) w := by kernel_rfl
theorem tab_index9 (w : World) : (Instr.index 74 (.agg tabL.toArray) (.int .i64 9)).run Tryd.prog w = .ok (.agg #[.int .u8 ((codeS.getD 9 0 : Nat) : Int), .int .u8 ((codeL.getD 9 0 : Nat) : Int)]) w := by kernel_rfl
theorem tab_index10 (w : World) : (Instr.index 74 (.agg tabL.toArray) (.int .i64 10)).run Tryd.prog w = .ok (.agg #[.int .u8 ((codeS.getD 10 0 : Nat) : Int), .int .u8 ((codeL.getD 10 0 : Nat) : Int)]) w := by kernel_rfl
theorem tab_index11 (w : World) : (Instr.index 74 (.agg tabL.toArray) (.int .i64 11)).run Tryd.prog w = .ok (.agg #[.int .u8 ((codeS.getD 11 0 : Nat) : Int), .int .u8 ((codeL.getD 11 0 : Nat) : Int)]) w := by kernel_rfl
theorem tab_index12 (w : World) : (Instr.index 74 (.agg tabL.toArray) (.int .i64 12)).run Tryd.prog w = .ok (.agg #[.int .u8 ((codeS.getD 12 0 : Nat) : Int), .int .u8 ((codeL.getD 12 0 : Nat) : Int)]) w := by kernel_rfl
theorem tab_index13 (w : World) : (Instr.index 74 (.agg tabL.toArray) (.int .i64 13)).run Tryd.prog w = .ok (.agg #[.int .u8 ((codeS.getD 13 0 : Nat) : Int), .int .u8 ((codeL.getD 13 0 : Nat) : Int)]) w := by kernel_rfl
theorem tab_index14 (w : World) : (Instr.index 74 (.agg tabL.toArray) (.int .i64 14)).run Tryd.prog w = .ok (.agg #[.int .u8 ((codeS.getD 14 0 : Nat) : Int), .int .u8 ((codeL.getD 14 0 : Nat) : Int)]) w := by kernel_rfl
theorem tab_index15 (w : World) : (Instr.index 74 (.agg tabL.toArray) (.int .i64 15)).run Tryd.prog w = .ok (.agg #[.int .u8 ((codeS.getD 15 0 : Nat) : Int), .int .u8 ((codeL.getD 15 0 : Nat) : Int)]) w := by kernel_rfl
theorem tab_index16 (w : World) : (Instr.index 74 (.agg tabL.toArray) (.int .i64 16)).run Tryd.prog w = .ok (.agg #[.int .u8 ((codeS.getD 16 0 : Nat) : Int), .int .u8 ((codeL.getD 16 0 : Nat) : Int)]) w := by kernel_rfl
theorem tab_index17 (w : World) : (Instr.index 74 (.agg tabL.toArray) (.int .i64 17)).run Tryd.prog w = .ok (.agg #[.int .u8 ((codeS.getD 17 0 : Nat) : Int), .int .u8 ((codeL.getD 17 0 : Nat) : Int)]) w := by kernel_rfl
theorem tab_index18 (w : World) : (Instr.index 74 (.agg tabL.toArray) (.int .i64 18)).run Tryd.prog w = .ok (.agg #[.int .u8 ((codeS.getD 18 0 : Nat) : Int), .int .u8 ((codeL.getD 18 0 : Nat) : Int)]) w := by kernel_rfl
theorem tab_index19 (w : World) : (Instr.index 74 (.agg tabL.toArray) (.int .i64 19)).run Tryd.prog w = .ok (.agg #[.int .u8 ((codeS.getD 19 0 : Nat) : Int), .int .u8 ((codeL.getD 19 0 : Nat) : Int)]) w := by kernel_rfl
theorem tab_index20 (w : World) : (Instr.index 74 (.agg tabL.toArray) (.int .i64 20)).run Tryd.prog w = .ok (.agg #[.int .u8 ((codeS.getD 20 0 : Nat) : Int), .int .u8 ((codeL.getD 20 0 : Nat) : Int)]) w := by kernel_rfl
theorem tab_index21 (w : World) : (Instr.index 74 (.agg tabL.toArray) (.int .i64 21)).run Tryd.prog w = .ok (.agg #[.int .u8 ((codeS.getD 21 0 : Nat) : Int), .int .u8 ((codeL.getD 21 0 : Nat) : Int)]) w := by kernel_rfl
theorem tab_index22 (w : World) : (Instr.index 74 (.agg tabL.toArray) (.int .i64 22)).run Tryd.prog w = .ok (.agg #[.int .u8 ((codeS.getD 22 0 : Nat) : Int), .int .u8 ((codeL.getD 22 0 : Nat) : Int)]) w := by kernel_rfl
theorem tab_index23 (w : World) : (Instr.index 74 (.agg tabL.toArray) (.int .i64 23)).run Tryd.prog w = .ok (.agg #[.int .u8 ((codeS.getD 23 0 : Nat) : Int), .int .u8 ((codeL.getD 23 0 : Nat) : Int)]) w := by kernel_rfl
theorem tab_index24 (w : World) : (Instr.index 74 (.agg tabL.toArray) (.int .i64 24)).run Tryd.prog w = .ok (.agg #[.int .u8 ((codeS.getD 24 0 : Nat) : Int), .int .u8 ((codeL.getD 24 0 : Nat) : Int)]) w := by kernel_rfl
theorem tab_index (w : World) (j : Nat) (hj : j < 25) : (Instr.index 74 (.agg tabL.toArray) (.int .i64 (j : Int))).run Tryd.prog w = .ok (.agg #[.int .u8 ((codeS.getD j 0 : Nat) : Int), .int .u8 ((codeL.getD j 0 : Nat) : Int)]) w := by
  have : j = 0 ∨ j = 1 ∨ j = 2 ∨ j = 3 ∨ j = 4 ∨ j = 5 ∨ j = 6 ∨ j = 7 ∨ j = 8 ∨ j = 9 ∨ j = 10 ∨ j = 11 ∨ j = 12 ∨ j = 13 ∨ j = 14 ∨ j = 15 ∨ j = 16 ∨ j = 17 ∨ j = 18 ∨ j = 19 ∨ j = 20 ∨ j = 21 ∨ j = 22 ∨ j = 23 ∨ j = 24 := by omega
  rcases this with rfl | rfl | rfl | rfl | rfl | rfl | rfl | rfl | rfl | rfl | rfl | rfl | rfl | rfl | rfl | rfl | rfl | rfl | rfl | rfl | rfl | rfl | rfl | rfl | rfl
  · exact tab_index0 w
  · exact tab_index1 w
  · exact tab_index2 w
  · exact tab_index3 w
  · exact tab_index4 w
  · exact tab_index5 w
  · exact tab_index6 w
  · exact tab_index7 w
  · exact tab_index8 w
  · exact tab_index9 w
  · exact tab_index10 w
  · exact tab_index11 w
  · exact tab_index12 w
  · exact tab_index13 w
  · exact tab_index14 w
  · exact tab_index15 w
  · exact tab_index16 w
  · exact tab_index17 w
  · exact tab_index18 w
  · exact tab_index19 w
  · exact tab_index20 w
  · exact tab_index21 w
  · exact tab_index22 w
  · exact tab_index23 w
  · exact tab_index24 w
theorem kind_find {c j : Nat} (h5 : ¬ (c = 65 ∨ c = 66 ∨ c = 67 ∨ c = 68 ∨ c = 69)) (hj : j < 25) (hn : ∀ k, k < j → c ≠ codeS.getD k 0 ∧ c ≠ codeL.getD k 0) (he : c = codeS.getD j 0 ∨ c = codeL.getD j 0) : kindC c = some j := by
  unfold kindC
  rw [if_neg (by omega), if_neg (by omega), if_neg (by omega), if_neg (by omega), List.find?_eq_some_iff_getElem]
  refine ⟨by simpa using he, j, by simpa using hj, by simp, fun k hk => ?_⟩
  have := hn k hk
  simp only [List.getElem_range, Bool.not_eq_true', Bool.or_eq_false_iff, decide_eq_false_iff_not]
  exact this
theorem kind_none {c : Nat} (h5 : ¬ (c = 65 ∨ c = 66 ∨ c = 67 ∨ c = 68 ∨ c = 69)) (hn : ∀ k, k < 25 → c ≠ codeS.getD k 0 ∧ c ≠ codeL.getD k 0) : kindC c = none := by
  unfold kindC
  rw [if_neg (by omega), if_neg (by omega), if_neg (by omega), if_neg (by omega), List.find?_eq_none]
  intro k hk
  have := hn k (by simpa using hk)
  simp only [Bool.or_eq_true, decide_eq_true_eq, not_or]
  exact this
set_option maxRecDepth 100000 in
set_option maxHeartbeats 2000000 in
theorem kindOf_any (c : Nat) (hc : c < 256) (w : World) (hT : SzTab w) :
    Calls Tryd.prog 25 #[.int .u8 (c : Int)] w fun e w' => e = .returned (kindR c) ∧ Below w.heap.size w w' := by
  by_cases h5 : c = 65 ∨ c = 66 ∨ c = 67 ∨ c = 68 ∨ c = 69
  · rcases h5 with rfl | rfl | rfl | rfl | rfl
    all_goals
      go_enter Tryd.func25, Tryd.ntmps25
      go_wp2
      go_ret2
      exact ⟨rfl, Below.refl _ _⟩
  · have g1 : ((c : Int) == 65) = false := by rw [beq_eq_false_iff_ne]; omega
    have g2 : ((c : Int) == 66) = false := by rw [beq_eq_false_iff_ne]; omega
    have g3 : ((c : Int) == 67) = false := by rw [beq_eq_false_iff_ne]; omega
    have g4 : ((c : Int) == 68) = false := by rw [beq_eq_false_iff_ne]; omega
    have g5 : ((c : Int) == 69) = false := by rw [beq_eq_false_iff_ne]; omega
    go_enter Tryd.func25, Tryd.ntmps25
    obtain ⟨td, htd, hrow⟩ := tab_under
    have HTR := hide (tab_range hT)
    have HH5 := hide h5
    have HIX : Hid (∀ (W1 : World) (j : Nat), j < 25 → (Instr.index 74 (.agg tabL.toArray) (.int .i64 (j : Int))).run Tryd.prog W1 = .ok (.agg #[.int .u8 ((codeS.getD j 0 : Nat) : Int), .int .u8 ((codeL.getD j 0 : Nat) : Int)]) W1) := fun W1 j h => tab_index W1 j h
    clear h5 hT
    go_wp2_with (refine wpList_load_mid rfl 74 (.global 0) rfl 0 0 rfl tabL td HTR.out htd hrow tab_info ?_)
    go_loopw [17] (fun i wr => ∃ j : Nat, i = .int .i64 j ∧ j ≤ 25 ∧ Below w.heap.size w wr ∧ Hid (∀ k, k < j → c ≠ codeS.getD k 0 ∧ c ≠ codeL.getD k 0)) (fun i _ => 25 - (intOf i).toNat)
    case atStart => exact ⟨0, rfl, by omega, Below.refl _ _, fun k hk => absurd hk (Nat.not_lt_zero _)⟩
    case round =>
      obtain ⟨j, rfl, hj, hb, HN⟩ := hrel
      have hsz := hb.size
      by_cases hjl : j < 25
      · have hix := HIX.out wr j hjl
        obtain ⟨x, hx⟩ : ∃ x, codeS.getD j 0 = x := ⟨_, rfl⟩
        obtain ⟨y, hy⟩ : ∃ y, codeL.getD j 0 = y := ⟨_, rfl⟩
        have HX := hide hx
        have HY := hide hy
        rw [hx, hy] at hix
        clear hx hy
        have hjl' : (j : Int) < 25 := by omega
        by_cases hcx : c = x
        · have q1 : ((c : Int) == (x : Int)) = true := by rw [beq_iff_eq]; omega
          have HCX := hide hcx
          clear hcx
          go_wp2
          go_ret2
          refine ⟨?_, bel1 hb hsz _⟩
          unfold kindR
          rw [kind_find HH5.out hjl HN.out (.inl (by rw [HX.out]; exact HCX.out))]
          rfl
        · have q1 : ((c : Int) == (x : Int)) = false := by rw [beq_eq_false_iff_ne]; omega
          by_cases hcy : c = y
          · have q2 : ((c : Int) == (y : Int)) = true := by rw [beq_iff_eq]; omega
            have HCY := hide hcy
            clear hcx hcy
            go_wp2
            go_ret2
            refine ⟨?_, bel1 hb hsz _⟩
            unfold kindR
            rw [kind_find HH5.out hjl HN.out (.inr (by rw [HY.out]; exact HCY.out))]
            rfl
          · have q2 : ((c : Int) == (y : Int)) = false := by rw [beq_eq_false_iff_ne]; omega
            have HNX : Hid (c ≠ x ∧ c ≠ y) := ⟨hcx, hcy⟩
            clear hcx hcy
            go_wp2
            go_roundw
            case rel =>
              refine ⟨j + 1, by go_num, hjl, bel1 hb hsz _, fun k hk => ?_⟩
              by_cases hkj : k < j
              · exact HN.out k hkj
              · obtain rfl : k = j := by omega
                rw [HX.out, HY.out]
                exact HNX.out
            case measure => simp [intOf]; omega
      · obtain rfl : j = 25 := by omega
        go_wp2
        go_ret2
        refine ⟨?_, hb⟩
        unfold kindR
        rw [kind_none HH5.out HN.out]
        rfl
end Go.Proofs.YtgpimajdcfoigabDoor
namespace Go.Proofs.YtgpimajdcfoigabDoor
open Go.RowKit
set_option linter.unusedVariables false
set_option linter.unusedSimpArgs false
/-- the error of a lone number -/
theorem check_num (k m : Nat) (w : World) (hU : Lib.Utf8Tabs 1 2 w) (hk : k = 1 ∨ k = 15) (hm : m < 18446744073709551616) :
    Calls Tryd.prog 19 #[.agg #[.int .i64 (k : Int), .int .u64 (m : Int), .string e0, .slice none 0 0, .int .i64 0]] w fun e w' => e = .returned (.int .i64 (if formC k m = true then 0 else 21)) ∧ Below w.heap.size w w' := by
  have hl : Lies 0 w (V.of (k : Int) (m : Int) e0 none 0 0 []) := .mk ⟨by omega, by omega, by decide, by decide, by simp, by simp⟩ (by simp) (by simp)
  have h := check_any _ 0 w (by omega) hl hU
  rw [V.val_of, List.length_nil] at h
  refine h.mono ?_
  rintro e w' ⟨rfl, hb⟩
  refine ⟨?_, hb⟩
  have hz : firstE checkZ (V.all 1 (V.of (k : Int) (m : Int) e0 none 0 0 [])) = if formC k m = true then 0 else 21 := by
    rw [V.all_of]
    have hf : checkZ (1, V.of (k : Int) (m : Int) e0 none 0 0 []) = if formC k m = true then 0 else 21 := by
      unfold checkZ
      rw [faultT_of]
      have hse : (e0 : ByteArray).toList.isEmpty = true := by rw [ByteArray.toList_eq]; rfl
      rcases hk with rfl | rfl
      · simp only [faultB, extraT, numT, textT, formC, hse]
        by_cases h1 : m ≤ 1
        · have : (m : Int) ≤ 1 := by omega
          simp [h1, this]
        · have : ¬ (m : Int) ≤ 1 := by omega
          simp [h1, this]
      · simp only [faultB, extraT, numT, textT, formC, hse]
        by_cases h1 : m ≤ 1114111 ∧ (m < 55296 ∨ 57343 < m)
        · have : (m : Int) ≤ 1114111 ∧ ((m : Int) < 55296 ∨ 57343 < (m : Int)) := by omega
          simp [h1, this]
        · have : ¬ ((m : Int) ≤ 1114111 ∧ ((m : Int) < 55296 ∨ 57343 < (m : Int))) := by omega
          simp [h1, this]
    rw [firstE, hf]
    split <;> simp_all [V.alls, firstE]
  rw [hz]
theorem getN_bound (l : List Nat) (p wd : Nat) (hl : ∀ c ∈ l, c < 256) (hlen : p + wd ≤ l.length) : getN ((l.drop p).take wd) < 256 ^ wd := by
  have := getN_lt ((l.drop p).take wd) (fun c hc => hl c (List.mem_of_mem_drop (List.mem_of_mem_take hc)))
  rw [List.length_take, List.length_drop, Nat.min_eq_left (by omega)] at this
  exact this
theorem sx1 (m : Nat) (h : m < 256 ^ 1) : IntKind.u64.wrap (wrap64 ((m : Int) * 72057594037927936) / 72057594037927936) = ((sext 1 m : Nat) : Int) := by
  simp only [wrap64, IntKind.wrap, IntKind.bits, IntKind.signed, sext]
  simp
  split <;> omega
theorem sx2 (m : Nat) (h : m < 256 ^ 2) : IntKind.u64.wrap (wrap64 ((m : Int) * 281474976710656) / 281474976710656) = ((sext 2 m : Nat) : Int) := by
  simp only [wrap64, IntKind.wrap, IntKind.bits, IntKind.signed, sext]
  simp
  split <;> omega
theorem sx4 (m : Nat) (h : m < 256 ^ 4) : IntKind.u64.wrap (wrap64 ((m : Int) * 4294967296) / 4294967296) = ((sext 4 m : Nat) : Int) := by
  simp only [wrap64, IntKind.wrap, IntKind.bits, IntKind.signed, sext]
  simp
  split <;> omega
theorem sx8 (m : Nat) (h : m < 256 ^ 8) : IntKind.u64.wrap (wrap64 (m : Int)) = ((sext 8 m : Nat) : Int) := by
  simp only [wrap64, IntKind.wrap, IntKind.bits, IntKind.signed, sext]
  simp
  omega
set_option maxRecDepth 100000 in
set_option maxHeartbeats 2000000 in
theorem numberOf_any (k : Nat) (R : Nat) (a : Option Addr) (n cap p fin wd : Nat) (sz : Int) (l : List Nat) (w : World) (hs : Src w R a n cap l) (hr : RB w R a n cap p fin sz) (hp : p ≤ fin) (hfin : fin ≤ n) (hwd : wd = 1 ∨ wd = 2 ∨ wd = 4 ∨ wd = 8) (hk : k ≤ 24) :
    Calls Tryd.prog 44 #[.pointer (some ⟨R, 0, none⟩), .int .i64 (k : Int), .int .i64 (wd : Int)] w (Outc (rnumber l k wd p fin sz) R w (fun mq e w' => e = .returned (.int .u64 (mq.1 : Int)) ∧ RB w' R a n cap mq.2 fin sz ∧ mq.2 ≤ fin)) := by
  obtain ⟨c0, c1, c2, c3, f1, _, _, hlt⟩ := hr.cells
  have hn := hs.small
  have HNU := hide (number_any R a n cap p fin wd sz l w hs hr hp hfin (by omega) (by omega))
  have HS := hide hs
  unfold rnumber
  have hmb : ∀ m, rnum l p fin sz wd = .ok m → m < 256 ^ wd := fun m hm => by
    unfold rnum at hm
    split at hm
    · cases hm
      exact getN_bound l p wd hs.rd.2.1 (by have := hs.rd.1; omega)
    · cases hm
  cases hrn : rnum l p fin sz wd with
  | error x =>
    rw [hrn] at HNU
    clear hr hs hmb hrn
    go_enter Tryd.func44, Tryd.ntmps44
    go_wp2_with fail
    refine Calls.mono HNU.out ?_
    rintro e1 w1 ⟨rfl, hg⟩
    exact ⟨rfl, rfl, hg⟩
  | ok m =>
    rw [hrn] at HNU
    have hm := hmb m hrn
    clear hr hs hmb hrn
    simp only
    by_cases hks : k = 6 ∨ k = 7 ∨ k = 8 ∨ k = 9
    · rw [if_pos hks]
      rcases hwd with rfl | rfl | rfl | rfl
      · have hsx := hide (sx1 m hm)
        rcases hks with rfl | rfl | rfl | rfl
        all_goals
          go_enter Tryd.func44, Tryd.ntmps44
          go_wp2_with fail
          refine Calls.mono HNU.out ?_
          rintro e1 w1 ⟨⟨rfl, hr1, hq⟩, hg⟩
          go_wp2
          go_ret
          exact ⟨⟨ret_int hsx.out, hr1, hq⟩, hg⟩
      · have hsx := hide (sx2 m hm)
        rcases hks with rfl | rfl | rfl | rfl
        all_goals
          go_enter Tryd.func44, Tryd.ntmps44
          go_wp2_with fail
          refine Calls.mono HNU.out ?_
          rintro e1 w1 ⟨⟨rfl, hr1, hq⟩, hg⟩
          go_wp2
          go_ret
          exact ⟨⟨ret_int hsx.out, hr1, hq⟩, hg⟩
      · have hsx := hide (sx4 m hm)
        rcases hks with rfl | rfl | rfl | rfl
        all_goals
          go_enter Tryd.func44, Tryd.ntmps44
          go_wp2_with fail
          refine Calls.mono HNU.out ?_
          rintro e1 w1 ⟨⟨rfl, hr1, hq⟩, hg⟩
          go_wp2
          go_ret
          exact ⟨⟨ret_int hsx.out, hr1, hq⟩, hg⟩
      · have hsx := hide (sx8 m hm)
        rcases hks with rfl | rfl | rfl | rfl
        all_goals
          go_enter Tryd.func44, Tryd.ntmps44
          go_wp2_with fail
          refine Calls.mono HNU.out ?_
          rintro e1 w1 ⟨⟨rfl, hr1, hq⟩, hg⟩
          go_wp2
          go_ret
          exact ⟨⟨ret_int hsx.out, hr1, hq⟩, hg⟩
    · rw [if_neg hks]
      have hm64 : m < 18446744073709551616 := by
        have : (256 : Nat) ^ wd ≤ 256 ^ 8 := Nat.pow_le_pow_right (by omega) (by omega)
        have h8 : (256 : Nat) ^ 8 = 18446744073709551616 := by decide
        omega
      have g6 : ((k : Int) == 6) = false := by rw [beq_eq_false_iff_ne]; omega
      have g7 : ((k : Int) == 7) = false := by rw [beq_eq_false_iff_ne]; omega
      have g8 : ((k : Int) == 8) = false := by rw [beq_eq_false_iff_ne]; omega
      have g9 : ((k : Int) == 9) = false := by rw [beq_eq_false_iff_ne]; omega
      have HWD : Hid (∀ W1, Outc (Except.ok m) R w (fun m e w' => e = .returned (.int .u64 (m : Int)) ∧ RB w' R a n cap (p + wd) fin sz ∧ p + wd ≤ fin) (.returned (.int .u64 (m : Int))) W1 → RB W1 R a n cap (p + wd) fin sz ∧ p + wd ≤ fin ∧ Gro R w W1) := fun W1 h => ⟨h.1.2.1, h.1.2.2, h.2⟩
      by_cases hkc : k = 1 ∨ k = 15
      · have HCK : Hid (∀ W1, Gro R w W1 → Calls Tryd.prog 19 #[.agg #[.int .i64 (k : Int), .int .u64 (m : Int), .string e0, .slice none 0 0, .int .i64 0]] W1 fun e w' => e = .returned (.int .i64 (if formC k m = true then 0 else 21)) ∧ Below W1.heap.size W1 w') := fun W1 hW => check_num k m W1 (HS.out.gro hW).utf hkc hm64
        clear hwd hks
        by_cases hfc : formC k m = true
        · rw [if_pos hfc]
          simp only [hfc, if_true] at HCK
          clear hfc
          unfold e0 at HCK
          rcases hkc with rfl | rfl
          all_goals
            go_enter Tryd.func44, Tryd.ntmps44
            go_wp2_with fail
            refine Calls.mono HNU.out ?_
            rintro e1 w1 ⟨⟨rfl, hr1, hq⟩, hg⟩
            have HR1 := hide hr1
            have HGR := hide hg
            clear hr1 hg
            go_wp2_with fail
            refine Calls.mono (HCK.out _ HGR.out) ?_
            rintro e2 w2 ⟨rfl, hb2⟩
            go_wp2
            go_ret
            exact ⟨⟨rfl, HR1.out.keep hb2, hq⟩, HGR.out.trans (Gro.of_below hb2)⟩
        · rw [if_neg hfc]
          simp only [hfc, if_false] at HCK
          clear hfc
          unfold e0 at HCK
          rcases hkc with rfl | rfl
          all_goals
            go_enter Tryd.func44, Tryd.ntmps44
            go_wp2_with fail
            refine Calls.mono HNU.out ?_
            rintro e1 w1 ⟨⟨rfl, hr1, hq⟩, hg⟩
            have HR1 := hide hr1
            have HGR := hide hg
            clear hr1 hg
            go_wp2_with fail
            refine Calls.mono (HCK.out _ HGR.out) ?_
            rintro e2 w2 ⟨rfl, hb2⟩
            go_wp2
            exact ⟨rfl, rfl, rfl, HGR.out.trans (Gro.of_below hb2)⟩
      · have g1 : ((k : Int) == 1) = false := by rw [beq_eq_false_iff_ne]; omega
        have g15 : ((k : Int) == 15) = false := by rw [beq_eq_false_iff_ne]; omega
        have hfc : formC k m = true := by
          unfold formC
          rw [if_neg (by omega), if_neg (by omega)]
        rw [if_pos hfc]
        clear hfc hkc hks hwd
        go_enter Tryd.func44, Tryd.ntmps44
        go_wp2_with fail
        refine Calls.mono HNU.out ?_
        rintro e1 w1 ⟨⟨rfl, hr1, hq⟩, hg⟩
        have HR1 := hide hr1
        have HGR := hide hg
        clear hr1 hg
        go_wp2
        go_ret
        exact ⟨⟨rfl, HR1.out, hq⟩, HGR.out⟩
end Go.Proofs.YtgpimajdcfoigabDoor
