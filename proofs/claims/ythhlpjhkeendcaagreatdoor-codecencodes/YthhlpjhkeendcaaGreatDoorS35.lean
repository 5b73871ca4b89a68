/- CKind, CVal -/
import Derived.Test.YthhlpjhkeendcaaGreatDoorS34
import Derived.Test.YthhlpjhkeendcaaGreatDoorS01
import Derived.Deep.MidRow
namespace Go.Proofs.YthhlpjhkeendcaaGreatDoor
open Go.RowKit
set_option linter.unusedVariables false
set_option linter.unusedSimpArgs false
def kindR (c : Nat) : Value := match kindC c with
  | some k => .tuple #[.int .i64 (k : Int), .bool true]
  | none => .tuple #[.int .i64 0, .bool false]
def tabL : List Value := (List.range 50).map fun i => .int .u8 ((if i % 2 = 0 then codeS.getD (i / 2) 0 else codeL.getD (i / 2) 0 : Nat) : Int)
theorem tab_len : tabL.length = 50 := by simp [tabL]
theorem tab_range {w : World} (h : SzTab w) : w.rangeAt 0 0 tabL := by
  intro j v hv
  have hj : j < 50 := by have := (List.getElem?_eq_some_iff.1 hv).1; rwa [tab_len] at this
  unfold tabL at hv
  rw [List.getElem?_map, List.getElem?_range hj] at hv
  simp only [Option.map_some, Option.some.injEq] at hv
  subst hv
  rw [Nat.zero_add]
  obtain ⟨h1, h2⟩ := h (j / 2) (by omega)
  by_cases hm : j % 2 = 0
  · rw [if_pos hm]
    have : j / 2 * 2 = j := by omega
    rw [this] at h1
    exact h1
  · rw [if_neg hm]
    have : j / 2 * 2 + 1 = j := by omega
    rw [this] at h2
    exact h2
theorem tab_info : (Tryz.prog.info? 97).map (·.size) = some tabL.length := by rw [tab_len]; kernel_rfl
theorem tab_under : ∃ d, Tryz.prog.underlying 97 = some d ∧ d.isRow = true := ⟨_, Tryz.underlying97, rfl⟩
theorem tab_index0 (w : World) : (Instr.index 97 (.agg tabL.toArray) (.int .i64 0)).run Tryz.prog w = .ok (.agg #[.int .u8 ((codeS.getD 0 0 : Nat) : Int), .int .u8 ((codeL.getD 0 0 : Nat) : Int)]) w := by kernel_rfl
theorem tab_index1 (w : World) : (Instr.index 97 (.agg tabL.toArray) (.int .i64 1)).run Tryz.prog w = .ok (.agg #[.int .u8 ((codeS.getD 1 0 : Nat) : Int), .int .u8 ((codeL.getD 1 0 : Nat) : Int)]) w := by kernel_rfl
theorem tab_index2 (w : World) : (Instr.index 97 (.agg tabL.toArray) (.int .i64 2)).run Tryz.prog w = .ok (.agg #[.int .u8 ((codeS.getD 2 0 : Nat) : Int), .int .u8 ((codeL.getD 2 0 : Nat) : Int)]) w := by kernel_rfl
theorem tab_index3 (w : World) : (Instr.index 97 (.agg tabL.toArray) (.int .i64 3)).run Tryz.prog w = .ok (.agg #[.int .u8 ((codeS.getD 3 0 : Nat) : Int), .int .u8 ((codeL.getD 3 0 : Nat) : Int)]) w := by kernel_rfl
theorem tab_index4 (w : World) : (Instr.index 97 (.agg tabL.toArray) (.int .i64 4)).run Tryz.prog w = .ok (.agg #[.int .u8 ((codeS.getD 4 0 : Nat) : Int), .int .u8 ((codeL.getD 4 0 : Nat) : Int)]) w := by kernel_rfl
theorem tab_index5 (w : World) : (Instr.index 97 (.agg tabL.toArray) (.int .i64 5)).run Tryz.prog w = .ok (.agg #[.int .u8 ((codeS.getD 5 0 : Nat) : Int), .int .u8 ((codeL.getD 5 0 : Nat) : Int)]) w := by kernel_rfl
theorem tab_index6 (w : World) : (Instr.index 97 (.agg tabL.toArray) (.int .i64 6)).run Tryz.prog w = .ok (.agg #[.int .u8 ((codeS.getD 6 0 : Nat) : Int), .int .u8 ((codeL.getD 6 0 : Nat) : Int)]) w := by kernel_rfl
theorem tab_index7 (w : World) : (Instr.index 97 (.agg tabL.toArray) (.int .i64 7)).run Tryz.prog w = .ok (.agg #[.int .u8 ((codeS.getD 7 0 : Nat) : Int), .int .u8 ((codeL.getD 7 0 : Nat) : Int)]) w := by kernel_rfl
theorem tab_index8 (w : World) : (Instr.index 97 (.agg tabL.toArray) (.int .i64 8)).run Tryz.prog w = .ok (.agg #[.int .u8 ((codeS.getD 8 0 : Nat) : Int), .int .u8 ((codeL.getD 8 0 : Nat) : Int)]) w := by kernel_rfl
theorem tab_index9 (w : World) : (Instr.index 97 (.agg tabL.toArray) (.int .i64 9)).run Tryz.prog w = .ok (.agg #[.int .u8 ((codeS.getD 9 0 : Nat) : Int), .int .u8 ((codeL.getD 9 0 : Nat) : Int)]) w := by kernel_rfl
theorem tab_index10 (w : World) : (Instr.index 97 (.agg tabL.toArray) (.int .i64 10)).run Tryz.prog w = .ok (.agg #[.int .u8 ((codeS.getD 10 0 : Nat) : Int), .int .u8 ((codeL.getD 10 0 : Nat) : Int)]) w := by kernel_rfl
theorem tab_index11 (w : World) : (Instr.index 97 (.agg tabL.toArray) (.int .i64 11)).run Tryz.prog w = .ok (.agg #[.int .u8 ((codeS.getD 11 0 : Nat) : Int), .int .u8 ((codeL.getD 11 0 : Nat) : Int)]) w := by kernel_rfl
theorem tab_index12 (w : World) : (Instr.index 97 (.agg tabL.toArray) (.int .i64 12)).run Tryz.prog w = .ok (.agg #[.int .u8 ((codeS.getD 12 0 : Nat) : Int), .int .u8 ((codeL.getD 12 0 : Nat) : Int)]) w := by kernel_rfl
theorem tab_index13 (w : World) : (Instr.index 97 (.agg tabL.toArray) (.int .i64 13)).run Tryz.prog w = .ok (.agg #[.int .u8 ((codeS.getD 13 0 : Nat) : Int), .int .u8 ((codeL.getD 13 0 : Nat) : Int)]) w := by kernel_rfl
theorem tab_index14 (w : World) : (Instr.index 97 (.agg tabL.toArray) (.int .i64 14)).run Tryz.prog w = .ok (.agg #[.int .u8 ((codeS.getD 14 0 : Nat) : Int), .int .u8 ((codeL.getD 14 0 : Nat) : Int)]) w := by kernel_rfl
theorem tab_index15 (w : World) : (Instr.index 97 (.agg tabL.toArray) (.int .i64 15)).run Tryz.prog w = .ok (.agg #[.int .u8 ((codeS.getD 15 0 : Nat) : Int), .int .u8 ((codeL.getD 15 0 : Nat) : Int)]) w := by kernel_rfl
theorem tab_index16 (w : World) : (Instr.index 97 (.agg tabL.toArray) (.int .i64 16)).run Tryz.prog w = .ok (.agg #[.int .u8 ((codeS.getD 16 0 : Nat) : Int), .int .u8 ((codeL.getD 16 0 : Nat) : Int)]) w := by kernel_rfl
theorem tab_index17 (w : World) : (Instr.index 97 (.agg tabL.toArray) (.int .i64 17)).run Tryz.prog w = .ok (.agg #[.int .u8 ((codeS.getD 17 0 : Nat) : Int), .int .u8 ((codeL.getD 17 0 : Nat) : Int)]) w := by kernel_rfl
theorem tab_index18 (w : World) : (Instr.index 97 (.agg tabL.toArray) (.int .i64 18)).run Tryz.prog w = .ok (.agg #[.int .u8 ((codeS.getD 18 0 : Nat) : Int), .int .u8 ((codeL.getD 18 0 : Nat) : Int)]) w := by kernel_rfl
theorem tab_index19 (w : World) : (Instr.index 97 (.agg tabL.toArray) (.int .i64 19)).run Tryz.prog w = .ok (.agg #[.int .u8 ((codeS.getD 19 0 : Nat) : Int), .int .u8 ((codeL.getD 19 0 : Nat) : Int)]) w := by kernel_rfl
theorem tab_index20 (w : World) : (Instr.index 97 (.agg tabL.toArray) (.int .i64 20)).run Tryz.prog w = .ok (.agg #[.int .u8 ((codeS.getD 20 0 : Nat) : Int), .int .u8 ((codeL.getD 20 0 : Nat) : Int)]) w := by kernel_rfl
theorem tab_index21 (w : World) : (Instr.index 97 (.agg tabL.toArray) (.int .i64 21)).run Tryz.prog w = .ok (.agg #[.int .u8 ((codeS.getD 21 0 : Nat) : Int), .int .u8 ((codeL.getD 21 0 : Nat) : Int)]) w := by kernel_rfl
theorem tab_index22 (w : World) : (Instr.index 97 (.agg tabL.toArray) (.int .i64 22)).run Tryz.prog w = .ok (.agg #[.int .u8 ((codeS.getD 22 0 : Nat) : Int), .int .u8 ((codeL.getD 22 0 : Nat) : Int)]) w := by kernel_rfl
theorem tab_index23 (w : World) : (Instr.index 97 (.agg tabL.toArray) (.int .i64 23)).run Tryz.prog w = .ok (.agg #[.int .u8 ((codeS.getD 23 0 : Nat) : Int), .int .u8 ((codeL.getD 23 0 : Nat) : Int)]) w := by kernel_rfl
theorem tab_index24 (w : World) : (Instr.index 97 (.agg tabL.toArray) (.int .i64 24)).run Tryz.prog w = .ok (.agg #[.int .u8 ((codeS.getD 24 0 : Nat) : Int), .int .u8 ((codeL.getD 24 0 : Nat) : Int)]) w := by kernel_rfl
theorem tab_index (w : World) (j : Nat) (hj : j < 25) : (Instr.index 97 (.agg tabL.toArray) (.int .i64 (j : Int))).run Tryz.prog w = .ok (.agg #[.int .u8 ((codeS.getD j 0 : Nat) : Int), .int .u8 ((codeL.getD j 0 : Nat) : Int)]) w := by
  have : j = 0 ∨ j = 1 ∨ j = 2 ∨ j = 3 ∨ j = 4 ∨ j = 5 ∨ j = 6 ∨ j = 7 ∨ j = 8 ∨ j = 9 ∨ j = 10 ∨ j = 11 ∨ j = 12 ∨ j = 13 ∨ j = 14 ∨ j = 15 ∨ j = 16 ∨ j = 17 ∨ j = 18 ∨ j = 19 ∨ j = 20 ∨ j = 21 ∨ j = 22 ∨ j = 23 ∨ j = 24 := by omega
  rcases this with rfl | rfl | rfl | rfl | rfl | rfl | rfl | rfl | rfl | rfl | rfl | rfl | rfl | rfl | rfl | rfl | rfl | rfl | rfl | rfl | rfl | rfl | rfl | rfl | rfl
  · exact tab_index0 w
  · exact tab_index1 w
  · exact tab_index2 w
  · exact tab_index3 w
  · exact tab_index4 w
  · exact tab_index5 w
  · exact tab_index6 w
  · exact tab_index7 w
  · exact tab_index8 w
  · exact tab_index9 w
  · exact tab_index10 w
  · exact tab_index11 w
  · exact tab_index12 w
  · exact tab_index13 w
  · exact tab_index14 w
  · exact tab_index15 w
  · exact tab_index16 w
  · exact tab_index17 w
  · exact tab_index18 w
  · exact tab_index19 w
  · exact tab_index20 w
  · exact tab_index21 w
  · exact tab_index22 w
  · exact tab_index23 w
  · exact tab_index24 w
theorem kind_find {c j : Nat} (h5 : ¬ (c = 65 ∨ c = 66 ∨ c = 67 ∨ c = 68 ∨ c = 69)) (hj : j < 25) (hn : ∀ k, k < j → c ≠ codeS.getD k 0 ∧ c ≠ codeL.getD k 0) (he : c = codeS.getD j 0 ∨ c = codeL.getD j 0) : kindC c = some j := by
  unfold kindC
  rw [if_neg (by omega), if_neg (by omega), if_neg (by omega), if_neg (by omega), List.find?_eq_some_iff_getElem]
  refine ⟨by simpa using he, j, by simpa using hj, by simp, fun k hk => ?_⟩
  have := hn k hk
  simp only [List.getElem_range, Bool.not_eq_true', Bool.or_eq_false_iff, decide_eq_false_iff_not]
  exact this
theorem kind_none {c : Nat} (h5 : ¬ (c = 65 ∨ c = 66 ∨ c = 67 ∨ c = 68 ∨ c = 69)) (hn : ∀ k, k < 25 → c ≠ codeS.getD k 0 ∧ c ≠ codeL.getD k 0) : kindC c = none := by
  unfold kindC
  rw [if_neg (by omega), if_neg (by omega), if_neg (by omega), if_neg (by omega), List.find?_eq_none]
  intro k hk
  have := hn k (by simpa using hk)
  simp only [Bool.or_eq_true, decide_eq_true_eq, not_or]
  exact this
set_option maxRecDepth 100000 in
set_option maxHeartbeats 2000000 in
theorem kindOf_any (c : Nat) (hc : c < 256) (w : World) (hT : SzTab w) :
    Calls Tryz.prog 41 #[.int .u8 (c : Int)] w fun e w' => e = .returned (kindR c) ∧ Below w.heap.size w w' := by
  by_cases h5 : c = 65 ∨ c = 66 ∨ c = 67 ∨ c = 68 ∨ c = 69
  · rcases h5 with rfl | rfl | rfl | rfl | rfl
    all_goals
      go_enter Tryz.func41, Tryz.ntmps41
      go_wp2
      go_ret2
      exact ⟨rfl, Below.refl _ _⟩
  · have g1 : ((c : Int) == 65) = false := by rw [beq_eq_false_iff_ne]; omega
    have g2 : ((c : Int) == 66) = false := by rw [beq_eq_false_iff_ne]; omega
    have g3 : ((c : Int) == 67) = false := by rw [beq_eq_false_iff_ne]; omega
    have g4 : ((c : Int) == 68) = false := by rw [beq_eq_false_iff_ne]; omega
    have g5 : ((c : Int) == 69) = false := by rw [beq_eq_false_iff_ne]; omega
    go_enter Tryz.func41, Tryz.ntmps41
    obtain ⟨td, htd, hrow⟩ := tab_under
    have HTR := hide (tab_range hT)
    have HH5 := hide h5
    have HIX : Hid (∀ (W1 : World) (j : Nat), j < 25 → (Instr.index 97 (.agg tabL.toArray) (.int .i64 (j : Int))).run Tryz.prog W1 = .ok (.agg #[.int .u8 ((codeS.getD j 0 : Nat) : Int), .int .u8 ((codeL.getD j 0 : Nat) : Int)]) W1) := fun W1 j h => tab_index W1 j h
    clear h5 hT
    go_wp2_with (refine wpList_load_mid rfl 97 (.global 0) rfl 0 0 rfl tabL td HTR.out htd hrow tab_info ?_)
    go_loopw [17] (fun i wr => ∃ j : Nat, i = .int .i64 j ∧ j ≤ 25 ∧ Below w.heap.size w wr ∧ Hid (∀ k, k < j → c ≠ codeS.getD k 0 ∧ c ≠ codeL.getD k 0)) (fun i _ => 25 - (intOf i).toNat)
    case atStart => exact ⟨0, rfl, by omega, Below.refl _ _, fun k hk => absurd hk (Nat.not_lt_zero _)⟩
    case round =>
      obtain ⟨j, rfl, hj, hb, HN⟩ := hrel
      have hsz := hb.size
      by_cases hjl : j < 25
      · have hix := HIX.out wr j hjl
        obtain ⟨x, hx⟩ : ∃ x, codeS.getD j 0 = x := ⟨_, rfl⟩
        obtain ⟨y, hy⟩ : ∃ y, codeL.getD j 0 = y := ⟨_, rfl⟩
        have HX := hide hx
        have HY := hide hy
        rw [hx, hy] at hix
        clear hx hy
        have hjl' : (j : Int) < 25 := by omega
        by_cases hcx : c = x
        · have q1 : ((c : Int) == (x : Int)) = true := by rw [beq_iff_eq]; omega
          have HCX := hide hcx
          clear hcx
          go_wp2
          go_ret2
          refine ⟨?_, bel1 hb hsz _⟩
          unfold kindR
          rw [kind_find HH5.out hjl HN.out (.inl (by rw [HX.out]; exact HCX.out))]
          rfl
        · have q1 : ((c : Int) == (x : Int)) = false := by rw [beq_eq_false_iff_ne]; omega
          by_cases hcy : c = y
          · have q2 : ((c : Int) == (y : Int)) = true := by rw [beq_iff_eq]; omega
            have HCY := hide hcy
            clear hcx hcy
            go_wp2
            go_ret2
            refine ⟨?_, bel1 hb hsz _⟩
            unfold kindR
            rw [kind_find HH5.out hjl HN.out (.inr (by rw [HY.out]; exact HCY.out))]
            rfl
          · have q2 : ((c : Int) == (y : Int)) = false := by rw [beq_eq_false_iff_ne]; omega
            have HNX : Hid (c ≠ x ∧ c ≠ y) := ⟨hcx, hcy⟩
            clear hcx hcy
            go_wp2
            go_roundw
            case rel =>
              refine ⟨j + 1, by go_num, hjl, bel1 hb hsz _, fun k hk => ?_⟩
              by_cases hkj : k < j
              · exact HN.out k hkj
              · obtain rfl : k = j := by omega
                rw [HX.out, HY.out]
                exact HNX.out
            case measure => simp [intOf]; omega
      · obtain rfl : j = 25 := by omega
        go_wp2
        go_ret2
        refine ⟨?_, hb⟩
        unfold kindR
        rw [kind_none HH5.out HN.out]
        rfl
theorem check_num (k m : Nat) (w : World) (hU : Lib.Utf8Tabs 1 2 w) (hk : k = 1 ∨ k = 15) (hm : m < 18446744073709551616) :
    Calls Tryz.prog 23 #[.agg #[.int .i64 (k : Int), .int .u64 (m : Int), .string e0, .slice none 0 0, .int .i64 0]] w fun e w' => e = .returned (.int .i64 (if formC k m = true then 0 else 21)) ∧ Below w.heap.size w w' := by
  have hl : Lies 0 w (V.of (k : Int) (m : Int) e0 none 0 0 []) := .mk ⟨by omega, by omega, by decide, by decide, by simp, by simp⟩ (by simp) (by simp)
  have h := check_any _ 0 w (by omega) hl hU
  rw [V.val_of, List.length_nil] at h
  refine h.mono ?_
  rintro e w' ⟨rfl, hb⟩
  refine ⟨?_, hb⟩
  have hz : firstE checkZ (V.all 1 (V.of (k : Int) (m : Int) e0 none 0 0 [])) = if formC k m = true then 0 else 21 := by
    rw [V.all_of]
    have hf : checkZ (1, V.of (k : Int) (m : Int) e0 none 0 0 []) = if formC k m = true then 0 else 21 := by
      unfold checkZ
      rw [faultT_of]
      have hse : (e0 : ByteArray).toList.isEmpty = true := by rw [ByteArray.toList_eq]; rfl
      rcases hk with rfl | rfl
      · simp only [faultB, extraT, numT, textT, formC, hse]
        by_cases h1 : m ≤ 1
        · have : (m : Int) ≤ 1 := by omega
          simp [h1, this]
        · have : ¬ (m : Int) ≤ 1 := by omega
          simp [h1, this]
      · simp only [faultB, extraT, numT, textT, formC, hse]
        by_cases h1 : m ≤ 1114111 ∧ (m < 55296 ∨ 57343 < m)
        · have : (m : Int) ≤ 1114111 ∧ ((m : Int) < 55296 ∨ 57343 < (m : Int)) := by omega
          simp [h1, this]
        · have : ¬ ((m : Int) ≤ 1114111 ∧ ((m : Int) < 55296 ∨ 57343 < (m : Int))) := by omega
          simp [h1, this]
    rw [firstE, hf]
    split <;> simp_all [V.alls, firstE]
  rw [hz]
theorem getN_bound (l : List Nat) (p wd : Nat) (hl : ∀ c ∈ l, c < 256) (hlen : p + wd ≤ l.length) : getN ((l.drop p).take wd) < 256 ^ wd := by
  have := getN_lt ((l.drop p).take wd) (fun c hc => hl c (List.mem_of_mem_drop (List.mem_of_mem_take hc)))
  rw [List.length_take, List.length_drop, Nat.min_eq_left (by omega)] at this
  exact this
theorem sx1 (m : Nat) (h : m < 256 ^ 1) : IntKind.u64.wrap (wrap64 ((m : Int) * 72057594037927936) / 72057594037927936) = ((sext 1 m : Nat) : Int) := by
  simp only [wrap64, IntKind.wrap, IntKind.bits, IntKind.signed, sext]
  simp
  split <;> omega
theorem sx2 (m : Nat) (h : m < 256 ^ 2) : IntKind.u64.wrap (wrap64 ((m : Int) * 281474976710656) / 281474976710656) = ((sext 2 m : Nat) : Int) := by
  simp only [wrap64, IntKind.wrap, IntKind.bits, IntKind.signed, sext]
  simp
  split <;> omega
theorem sx4 (m : Nat) (h : m < 256 ^ 4) : IntKind.u64.wrap (wrap64 ((m : Int) * 4294967296) / 4294967296) = ((sext 4 m : Nat) : Int) := by
  simp only [wrap64, IntKind.wrap, IntKind.bits, IntKind.signed, sext]
  simp
  split <;> omega
theorem sx8 (m : Nat) (h : m < 256 ^ 8) : IntKind.u64.wrap (wrap64 (m : Int)) = ((sext 8 m : Nat) : Int) := by
  simp only [wrap64, IntKind.wrap, IntKind.bits, IntKind.signed, sext]
  simp
  omega
set_option maxRecDepth 100000 in
set_option maxHeartbeats 2000000 in
theorem numberOf_any (k : Nat) (R : Nat) (a : Option Addr) (n cap p fin wd : Nat) (sz : Int) (l : List Nat) (w : World) (hs : Src w R a n cap l) (hr : RB w R a n cap p fin sz) (hp : p ≤ fin) (hfin : fin ≤ n) (hwd : wd = 1 ∨ wd = 2 ∨ wd = 4 ∨ wd = 8) (hk : k ≤ 24) :
    Calls Tryz.prog 72 #[.pointer (some ⟨R, 0, none⟩), .int .i64 (k : Int), .int .i64 (wd : Int)] w (Outc (rnumber l k wd p fin sz) R w (fun mq e w' => e = .returned (.int .u64 (mq.1 : Int)) ∧ RB w' R a n cap mq.2 fin sz ∧ mq.2 ≤ fin)) := by
  obtain ⟨c0, c1, c2, c3, f1, _, _, hlt⟩ := hr.cells
  have hn := hs.small
  have HNU := hide (number_any R a n cap p fin wd sz l w hs hr hp hfin (by omega) (by omega))
  have HS := hide hs
  unfold rnumber
  have hmb : ∀ m, rnum l p fin sz wd = .ok m → m < 256 ^ wd := fun m hm => by
    unfold rnum at hm
    split at hm
    · cases hm
      exact getN_bound l p wd hs.rd.2.1 (by have := hs.rd.1; omega)
    · cases hm
  cases hrn : rnum l p fin sz wd with
  | error x =>
    rw [hrn] at HNU
    clear hr hs hmb hrn
    go_enter Tryz.func72, Tryz.ntmps72
    go_wp2_with fail
    refine Calls.mono HNU.out ?_
    rintro e1 w1 ⟨rfl, hg⟩
    exact ⟨rfl, rfl, hg⟩
  | ok m =>
    rw [hrn] at HNU
    have hm := hmb m hrn
    clear hr hs hmb hrn
    simp only
    by_cases hks : k = 6 ∨ k = 7 ∨ k = 8 ∨ k = 9
    · rw [if_pos hks]
      rcases hwd with rfl | rfl | rfl | rfl
      · have hsx := hide (sx1 m hm)
        rcases hks with rfl | rfl | rfl | rfl
        all_goals
          go_enter Tryz.func72, Tryz.ntmps72
          go_wp2_with fail
          refine Calls.mono HNU.out ?_
          rintro e1 w1 ⟨⟨rfl, hr1, hq⟩, hg⟩
          go_wp2
          go_ret
          exact ⟨⟨ret_int hsx.out, hr1, hq⟩, hg⟩
      · have hsx := hide (sx2 m hm)
        rcases hks with rfl | rfl | rfl | rfl
        all_goals
          go_enter Tryz.func72, Tryz.ntmps72
          go_wp2_with fail
          refine Calls.mono HNU.out ?_
          rintro e1 w1 ⟨⟨rfl, hr1, hq⟩, hg⟩
          go_wp2
          go_ret
          exact ⟨⟨ret_int hsx.out, hr1, hq⟩, hg⟩
      · have hsx := hide (sx4 m hm)
        rcases hks with rfl | rfl | rfl | rfl
        all_goals
          go_enter Tryz.func72, Tryz.ntmps72
          go_wp2_with fail
          refine Calls.mono HNU.out ?_
          rintro e1 w1 ⟨⟨rfl, hr1, hq⟩, hg⟩
          go_wp2
          go_ret
          exact ⟨⟨ret_int hsx.out, hr1, hq⟩, hg⟩
      · have hsx := hide (sx8 m hm)
        rcases hks with rfl | rfl | rfl | rfl
        all_goals
          go_enter Tryz.func72, Tryz.ntmps72
          go_wp2_with fail
          refine Calls.mono HNU.out ?_
          rintro e1 w1 ⟨⟨rfl, hr1, hq⟩, hg⟩
          go_wp2
          go_ret
          exact ⟨⟨ret_int hsx.out, hr1, hq⟩, hg⟩
    · rw [if_neg hks]
      have hm64 : m < 18446744073709551616 := by
        have : (256 : Nat) ^ wd ≤ 256 ^ 8 := Nat.pow_le_pow_right (by omega) (by omega)
        have h8 : (256 : Nat) ^ 8 = 18446744073709551616 := by decide
        omega
      have g6 : ((k : Int) == 6) = false := by rw [beq_eq_false_iff_ne]; omega
      have g7 : ((k : Int) == 7) = false := by rw [beq_eq_false_iff_ne]; omega
      have g8 : ((k : Int) == 8) = false := by rw [beq_eq_false_iff_ne]; omega
      have g9 : ((k : Int) == 9) = false := by rw [beq_eq_false_iff_ne]; omega
      have HWD : Hid (∀ W1, Outc (Except.ok m) R w (fun m e w' => e = .returned (.int .u64 (m : Int)) ∧ RB w' R a n cap (p + wd) fin sz ∧ p + wd ≤ fin) (.returned (.int .u64 (m : Int))) W1 → RB W1 R a n cap (p + wd) fin sz ∧ p + wd ≤ fin ∧ Gro R w W1) := fun W1 h => ⟨h.1.2.1, h.1.2.2, h.2⟩
      by_cases hkc : k = 1 ∨ k = 15
      · have HCK : Hid (∀ W1, Gro R w W1 → Calls Tryz.prog 23 #[.agg #[.int .i64 (k : Int), .int .u64 (m : Int), .string e0, .slice none 0 0, .int .i64 0]] W1 fun e w' => e = .returned (.int .i64 (if formC k m = true then 0 else 21)) ∧ Below W1.heap.size W1 w') := fun W1 hW => check_num k m W1 (HS.out.gro hW).utf hkc hm64
        clear hwd hks
        by_cases hfc : formC k m = true
        · rw [if_pos hfc]
          simp only [hfc, if_true] at HCK
          clear hfc
          unfold e0 at HCK
          rcases hkc with rfl | rfl
          all_goals
            go_enter Tryz.func72, Tryz.ntmps72
            go_wp2_with fail
            refine Calls.mono HNU.out ?_
            rintro e1 w1 ⟨⟨rfl, hr1, hq⟩, hg⟩
            have HR1 := hide hr1
            have HGR := hide hg
            clear hr1 hg
            go_wp2_with fail
            refine Calls.mono (HCK.out _ HGR.out) ?_
            rintro e2 w2 ⟨rfl, hb2⟩
            go_wp2
            go_ret
            exact ⟨⟨rfl, HR1.out.keep hb2, hq⟩, HGR.out.trans (Gro.of_below hb2)⟩
        · rw [if_neg hfc]
          simp only [hfc, if_false] at HCK
          clear hfc
          unfold e0 at HCK
          rcases hkc with rfl | rfl
          all_goals
            go_enter Tryz.func72, Tryz.ntmps72
            go_wp2_with fail
            refine Calls.mono HNU.out ?_
            rintro e1 w1 ⟨⟨rfl, hr1, hq⟩, hg⟩
            have HR1 := hide hr1
            have HGR := hide hg
            clear hr1 hg
            go_wp2_with fail
            refine Calls.mono (HCK.out _ HGR.out) ?_
            rintro e2 w2 ⟨rfl, hb2⟩
            go_wp2
            exact ⟨rfl, rfl, rfl, HGR.out.trans (Gro.of_below hb2)⟩
      · have g1 : ((k : Int) == 1) = false := by rw [beq_eq_false_iff_ne]; omega
        have g15 : ((k : Int) == 15) = false := by rw [beq_eq_false_iff_ne]; omega
        have hfc : formC k m = true := by
          unfold formC
          rw [if_neg (by omega), if_neg (by omega)]
        rw [if_pos hfc]
        clear hfc hkc hks hwd
        go_enter Tryz.func72, Tryz.ntmps72
        go_wp2_with fail
        refine Calls.mono HNU.out ?_
        rintro e1 w1 ⟨⟨rfl, hr1, hq⟩, hg⟩
        have HR1 := hide hr1
        have HGR := hide hg
        clear hr1 hg
        go_wp2
        go_ret
        exact ⟨⟨rfl, HR1.out, hq⟩, HGR.out⟩
def GotV (R : Nat) (a : Option Addr) (n cap p fin : Nat) (sz : Int) (w : World) (tq : T × Nat) (e : Ending) (w' : World) : Prop :=
  ∃ y : V, e = .returned (.agg #[.int .i64 y.k, .int .u64 y.n, .string y.s, .slice y.a y.l.length y.c, .int .i64 y.e]) ∧ Hid (y.t = tq.1 ∧ LiesIn (fun b => w.heap.size ≤ b ∧ b < w'.heap.size) w' y ∧ RB w' R a n cap tq.2 fin sz ∧ p ≤ tq.2 ∧ tq.2 ≤ fin)
def DatC (f k c : Nat) : Prop := ∀ (d R : Nat) (a : Option Addr) (n cap place p fin : Nat) (sz : Int) (l : List Nat) (w : World), d + f = 33 → Src w R a n cap l → RB w R a n cap p fin sz → p ≤ fin → fin ≤ n → place ≤ 281474976710656 →
  Calls Tryz.prog 42 #[.pointer (some ⟨R, 0, none⟩), .int .i64 (k : Int), .int .u8 (c : Int), .int .i64 (place : Int), .int .i64 (d : Int)] w (Outc (rdat badB twiceW l f k c place p fin sz) R w (GotV R a n cap p fin sz w))
theorem lies_leaf (Q : Nat → Prop) (w : World) (k n : Int) (s : ByteArray) (hk : 0 ≤ k ∧ k ≤ 24) (hn : 0 ≤ n ∧ n ≤ 18446744073709551615) (hs : s.size ≤ 281474976710656) : LiesIn Q w (V.of k n s none 0 0 []) :=
  .mk ⟨by omega, hn, hs, by decide, by simp, by simp⟩ (by simp) (by simp)
theorem Gro.over {g b : Nat} {A W1 : World} (h : Gro g A W1) (hb : A.heap.size ≤ b) (o : Nat) (u : Value) : Gro g A (W1.setCell ⟨b, o, none⟩ u) :=
  ⟨h.os, h.tape, h.output, by simpa using h.size, fun q hq hne => (Below.heap_setCell _ _ _ _ (by show q ≠ b; omega)).trans (h.block q hq hne)⟩
theorem RB.over {W1 : World} {R : Nat} {a : Option Addr} {n cap p fin : Nat} {sz : Int} (h : RB W1 R a n cap p fin sz) {b : Nat} (hb : R ≠ b) (o : Nat) (u : Value) : RB (W1.setCell ⟨b, o, none⟩ u) R a n cap p fin sz := (Below.heap_setCell _ _ _ _ (by exact hb)).trans h
theorem RB.alloc {W1 : World} {R : Nat} {a : Option Addr} {n cap p fin : Nat} {sz : Int} (h : RB W1 R a n cap p fin sz) (o : Obj) : RB (W1.alloc o) R a n cap p fin sz := (Below.heap_alloc _ _ _ h.cells.2.2.2.2.2.2.2).trans h
theorem Src.alloc {w : World} {R : Nat} {a : Option Addr} {n cap : Nat} {l : List Nat} (h : Src w R a n cap l) (o : Obj) : Src (w.alloc o) R a n cap l := h.gro ((Gro.refl R w).alloc o)
theorem two_boxes {w W1 : World} {R : Nat} {A B : Array Value} {t t' : TypeId} (hlt : R < w.heap.size) (hg : Gro R ((w.alloc (.cells A t)).alloc (.cells B t')) W1) :
    (∀ o, W1.cell? ⟨w.heap.size, o, none⟩ = A[o]?) ∧ (∀ o, W1.cell? ⟨w.heap.size + 1, o, none⟩ = B[o]?) ∧ (∀ o, W1.frozen? ⟨w.heap.size, o, none⟩ = false) ∧ (∀ o, W1.frozen? ⟨w.heap.size + 1, o, none⟩ = false) ∧ w.heap.size + 1 < W1.heap.size := by
  have e1 : ((w.alloc (.cells A t)).alloc (.cells B t')).heap[w.heap.size]? = some (.cells A t) := by
    rw [Below.heap_alloc _ _ _ (by simp)]; exact World.alloc_heap_new _ _
  have e2 : ((w.alloc (.cells A t)).alloc (.cells B t')).heap[w.heap.size + 1]? = some (.cells B t') := heap_at1 _ _ _
  have f1 := (hg.block w.heap.size (by simp; omega) (by simp; omega)).trans e1
  have f2 := (hg.block (w.heap.size + 1) (by simp) (by simp; omega)).trans e2
  have := hg.size
  simp only [World.size_alloc] at this
  refine ⟨fun o => ?_, fun o => ?_, fun o => ?_, fun o => ?_, by omega⟩ <;> simp [World.cell?, World.frozen?, f1, f2]
set_option maxRecDepth 100000 in
set_option maxHeartbeats 1000000 in
theorem dat_none (f k c : Nat) (hf : 0 < f) (hc : c < 256) (hk : k ≤ 24) (hlay : c / 16 = 4) : DatC f k c := by
  intro d R a n cap place p fin sz l w hd hs hr hp hfin hpl
  obtain ⟨f, rfl⟩ : ∃ g, f = g + 1 := ⟨f - 1, by omega⟩
  have hrd : rdat badB twiceW l (f + 1) k c place p fin sz = .ok (T.of k (if c = 65 then 1 else 0) e0 0 [], p) := by
    rw [rdat, if_neg (by omega), if_pos hlay]
  rw [hrd]
  clear hrd
  have HLAY : Hid (∀ W1, Calls Tryz.prog 54 #[.int .u8 (c : Int)] W1 fun e w' => e = .returned (.int .u8 4) ∧ W1 = w') := fun W1 => by
    have := layout_any c hc W1
    rw [hlay] at this
    exact this
  have hlt := hr.cells.2.2.2.2.2.2.2
  have HR := hide hr
  clear hr hs
  have HG : Hid (∀ A B, Gro R w ((w.alloc A).alloc B)) := fun A B => ((Gro.refl R w).alloc A).alloc B
  have HR2 : Hid (∀ A B, RB ((w.alloc A).alloc B) R a n cap p fin sz) := fun A B => (HR.out.alloc A).alloc B
  by_cases h65 : c = 65
  · subst h65
    clear hlay
    go_enter Tryz.func42, Tryz.ntmps42
    go_wp2_with fail
    refine Calls.mono (HLAY.out _) ?_
    rintro e1 w1 ⟨rfl, rfl⟩
    go_wp2
    refine bodyPost_ret (v := .agg #[.int .i64 (k : Int), .int .u64 1, .string ⟨#[]⟩, .slice none 0 0, .int .i64 0]) (by simp [results, Tryz.results42, go_sem]) rfl ⟨⟨.of (k : Int) 1 e0 none 0 0 [], by rw [V.l_of]; rfl, ⟨by rw [V.t_of]; rfl, lies_leaf _ _ _ _ _ (by omega) (by omega) (by decide), HR2.out _ _, Nat.le_refl _, hp⟩⟩, HG.out _ _⟩
  · have hcb : ((c : Int) == 65) = false := by rw [beq_eq_false_iff_ne]; omega
    have HC65 := hide h65
    clear hlay h65
    go_enter Tryz.func42, Tryz.ntmps42
    go_wp2_with fail
    refine Calls.mono (HLAY.out _) ?_
    rintro e1 w1 ⟨rfl, rfl⟩
    go_wp2
    try rw [if_neg HC65.out]
    refine bodyPost_ret (v := .agg #[.int .i64 (k : Int), .int .u64 0, .string ⟨#[]⟩, .slice none 0 0, .int .i64 0]) (by simp [results, Tryz.results42, go_sem]) rfl ⟨⟨.of (k : Int) 0 e0 none 0 0 [], by rw [V.l_of]; rfl, ⟨by rw [V.t_of]; rfl, lies_leaf _ _ _ _ _ (by omega) (by omega) (by decide), HR2.out _ _, Nat.le_refl _, hp⟩⟩, HG.out _ _⟩
set_option maxRecDepth 100000 in
set_option maxHeartbeats 2000000 in
theorem dat_num (f k c : Nat) (hf : 0 < f) (hc : c < 256) (hk : k ≤ 24) (hlay : c / 16 = 5 ∨ c / 16 = 6 ∨ c / 16 = 7 ∨ c / 16 = 8) : DatC f k c := by
  intro d R a n cap place p fin sz l w hd hs hr hp hfin hpl
  obtain ⟨f, rfl⟩ : ∃ g, f = g + 1 := ⟨f - 1, by omega⟩
  have hrd : rdat badB twiceW l (f + 1) k c place p fin sz = (match rnumber l k (nwid c) p fin sz with
      | .error x => .error x
      | .ok (n, q) => .ok (T.of k n e0 0 [], q)) := by
    rw [rdat, if_neg (by omega), if_neg (by omega), if_neg (by omega), if_neg (by omega), if_neg (by omega), if_neg (by omega)]
    rfl
  rw [hrd]
  clear hrd
  have hnw : nwid c = 1 ∨ nwid c = 2 ∨ nwid c = 4 ∨ nwid c = 8 := by unfold nwid; split <;> (try split) <;> (try split) <;> omega
  have HNW : Hid (∀ W1, Calls Tryz.prog 58 #[.int .u8 (c : Int)] W1 fun e w' => e = .returned (.int .i64 ((nwid c : Nat) : Int)) ∧ W1 = w') := fun W1 => numberWidth_any c (by omega) (by omega) W1
  have HNO : Hid (∀ W1, Src W1 R a n cap l → RB W1 R a n cap p fin sz → Calls Tryz.prog 72 #[.pointer (some ⟨R, 0, none⟩), .int .i64 (k : Int), .int .i64 ((nwid c : Nat) : Int)] W1 (Outc (rnumber l k (nwid c) p fin sz) R W1 (fun mq e w' => e = .returned (.int .u64 (mq.1 : Int)) ∧ RB w' R a n cap mq.2 fin sz ∧ mq.2 ≤ fin))) := fun W1 h1 h2 => numberOf_any k R a n cap p fin (nwid c) sz l W1 h1 h2 hp hfin hnw hk
  have hqb : ∀ mq, rnumber l k (nwid c) p fin sz = .ok mq → p ≤ mq.2 ∧ mq.1 ≤ 18446744073709551615 := fun mq hm => by
    unfold rnumber at hm
    cases hrn : rnum l p fin sz (nwid c) with
    | error x => rw [hrn] at hm; cases hm
    | ok m =>
      rw [hrn] at hm
      simp only at hm
      have hmb : m < 256 ^ nwid c := by
        unfold rnum at hrn
        split at hrn
        · cases hrn
          exact getN_bound l p (nwid c) hs.rd.2.1 (by have := hs.rd.1; omega)
        · cases hrn
      have h8 : m < 18446744073709551616 := by
        have : (256 : Nat) ^ nwid c ≤ 256 ^ 8 := Nat.pow_le_pow_right (by omega) (by omega)
        have h8 : (256 : Nat) ^ 8 = 18446744073709551616 := by decide
        omega
      split at hm
      · cases hm
        refine ⟨by show p ≤ p + nwid c; omega, ?_⟩
        show sext (nwid c) m ≤ _
        have h1 : (256 : Nat) ^ 1 = 256 ∧ (256 : Nat) ^ 2 = 65536 ∧ (256 : Nat) ^ 4 = 4294967296 := by decide
        rcases hnw with h | h | h | h
        · rw [h] at hmb ⊢; unfold sext; rw [if_pos rfl]; split <;> omega
        · rw [h] at hmb ⊢; unfold sext; rw [if_neg (by decide), if_pos rfl]; split <;> omega
        · rw [h] at hmb ⊢; unfold sext; rw [if_neg (by decide), if_neg (by decide), if_pos rfl]; split <;> omega
        · rw [h] at hmb ⊢; unfold sext; rw [if_neg (by decide), if_neg (by decide), if_neg (by decide)]; omega
      · split at hm
        · cases hm
          exact ⟨by show p ≤ p + nwid c; omega, by show m ≤ _; omega⟩
        · cases hm
  generalize rnumber l k (nwid c) p fin sz = rn at HNO hqb ⊢
  generalize nwid c = nw at HNW HNO
  have hcs : ∃ q : Nat, c / 16 = q ∧ (q = 5 ∨ q = 6 ∨ q = 7 ∨ q = 8) := ⟨_, rfl, hlay⟩
  obtain ⟨q, hq, hq4⟩ := hcs
  have HLAY0 : Hid (∀ W1, Calls Tryz.prog 54 #[.int .u8 (c : Int)] W1 fun e w' => e = .returned (.int .u8 (q : Int)) ∧ W1 = w') := fun W1 => by
    have := layout_any c hc W1
    rw [hq] at this
    exact this
  have hlt := hr.cells.2.2.2.2.2.2.2
  have HR := hide hr
  have HS := hide hs
  clear hr hs hlay hq hnw
  cases rn with
  | error x =>
    clear hqb
    rcases hq4 with rfl | rfl | rfl | rfl
    all_goals
      go_enter Tryz.func42, Tryz.ntmps42
      go_wp2_with fail
      refine Calls.mono (HLAY0.out _) ?_
      rintro e1 w1 ⟨rfl, rfl⟩
      go_wp2_with fail
      refine Calls.mono (HNW.out _) ?_
      rintro e1 w1 ⟨rfl, rfl⟩
      go_wp2_with fail
      refine Calls.mono (HNO.out _ ((HS.out.alloc _).alloc _) ((HR.out.alloc _).alloc _)) ?_
      rintro e2 w2 ⟨rfl, hg⟩
      exact ⟨rfl, rfl, (((Gro.refl R w).alloc _).alloc _).trans hg⟩
  | ok mq =>
    have hqb1 := hqb mq rfl
    clear hqb
    rcases hq4 with rfl | rfl | rfl | rfl
    all_goals
      go_enter Tryz.func42, Tryz.ntmps42
      go_wp2_with fail
      refine Calls.mono (HLAY0.out _) ?_
      rintro e1 w1 ⟨rfl, rfl⟩
      go_wp2_with fail
      refine Calls.mono (HNW.out _) ?_
      rintro e1 w1 ⟨rfl, rfl⟩
      go_wp2_with fail
      refine Calls.mono (HNO.out _ ((HS.out.alloc _).alloc _) ((HR.out.alloc _).alloc _)) ?_
      rintro e2 w2 ⟨⟨rfl, hr2, hq2⟩, hg⟩
      obtain ⟨g1, g2, g3, g4, hz⟩ := two_boxes hlt hg
      have HGA : Hid (Gro R w w2) := (((Gro.refl R w).alloc _).alloc _).trans hg
      have HR2 := hide hr2
      have k0 := g1 0
      have k1 := g1 1
      have k2 := g1 2
      have k3 := g1 3
      have k4 := g1 4
      have j0 := g2 0
      have j1 := g2 1
      have j2 := g2 2
      have j3 := g2 3
      have j4 := g2 4
      simp only [List.getElem?_toArray, List.getElem?_cons_zero, List.getElem?_cons_succ] at k0 k1 k2 k3 k4 j0 j1 j2 j3 j4
      clear hg hr2 g1 g2
      go_wp2
      refine bodyPost_ret (v := .agg #[.int .i64 (k : Int), .int .u64 (mq.1 : Int), .string ⟨#[]⟩, .slice none 0 0, .int .i64 0]) (by simp [results, Tryz.results42, go_sem, k0, k1, k2, k3, k4]) rfl ⟨⟨.of (k : Int) (mq.1 : Int) e0 none 0 0 [], by rw [V.l_of]; rfl, ⟨by rw [V.t_of]; rfl, lies_leaf _ _ _ _ _ (by omega) (by omega) (by decide), ?_, hqb1.1, hq2⟩⟩, ?_⟩
      · exact RB.over (RB.over (RB.over (RB.over (RB.over (RB.over HR2.out (by omega) _ _) (by omega) _ _) (by omega) _ _) (by omega) _ _) (by omega) _ _) (by omega) _ _
      · exact Gro.over (Gro.over (Gro.over (Gro.over (Gro.over (Gro.over HGA.out (by omega) _ _) (by omega) _ _) (by omega) _ _) (by omega) _ _) (by omega) _ _) (by omega) _ _
theorem cell_over {W1 : World} {b b' o o' : Nat} (u : Value) (h : b ≠ b') : (W1.setCell ⟨b', o', none⟩ u).cell? ⟨b, o, none⟩ = W1.cell? ⟨b, o, none⟩ := World.cell?_of_block (Below.heap_setCell _ _ _ _ (by exact h))
def ValC (f : Nat) (R : Nat) (a : Option Addr) (n cap p fin : Nat) (sz : Int) (l : List Nat) (w : World) : Prop := ∀ d : Nat, d + f = 33 →
  Calls Tryz.prog 28 #[.pointer (some ⟨R, 0, none⟩), .int .i64 (d : Int)] w (Outc (rval badB twiceW l f p fin sz) R w (GotV R a n cap p fin sz w))
set_option maxRecDepth 100000 in
set_option maxHeartbeats 1000000 in
theorem val_of (f : Nat) (R : Nat) (a : Option Addr) (n cap p fin : Nat) (sz : Int) (l : List Nat) (w : World) (hs : Src w R a n cap l) (hr : RB w R a n cap p fin sz) (hp : p ≤ fin) (hfin : fin ≤ n)
    (hD : ∀ c k, rnum l p fin sz 1 = .ok c → kindC c = some k → f ≠ 0 → DatC f k c) : ValC f R a n cap p fin sz l w := by
  intro d hd
  obtain ⟨c0, c1, c2, c3, f1, _, _, hlt⟩ := hr.cells
  have hn := hs.small
  have HNU : Hid (∀ W1, Src W1 R a n cap l → RB W1 R a n cap p fin sz → Calls Tryz.prog 40 #[.pointer (some ⟨R, 0, none⟩), .int .i64 1] W1 (Outc (rnum l p fin sz 1) R W1 (fun m e w' => e = .returned (.int .u64 (m : Int)) ∧ RB w' R a n cap (p + 1) fin sz ∧ p + 1 ≤ fin))) := fun W1 h1 h2 => number_any R a n cap p fin 1 sz l W1 h1 h2 hp hfin (by omega) (by omega)
  have HS := hide hs
  have HR := hide hr
  have hmb : ∀ m, rnum l p fin sz 1 = .ok m → m < 256 := fun m hm => by
    unfold rnum at hm
    split at hm
    · cases hm
      exact getN_bound l p 1 hs.rd.2.1 (by have := hs.rd.1; omega)
    · cases hm
  unfold rval rvalG
  cases hrn : rnum l p fin sz 1 with
  | error x =>
    rw [hrn] at HNU
    clear hr hs hmb hrn hD
    go_enter Tryz.func28, Tryz.ntmps28
    go_wp2_with fail
    refine Calls.mono (HNU.out _ (HS.out.alloc _) (HR.out.alloc _)) ?_
    rintro e1 w1 ⟨rfl, hg⟩
    exact ⟨rfl, rfl, ((Gro.refl R w).alloc _).trans hg⟩
  | ok c =>
    rw [hrn] at HNU
    have hc := hmb c hrn
    have HKI : Hid (∀ W1, Gro R w W1 → Calls Tryz.prog 41 #[.int .u8 (c : Int)] W1 fun e w' => e = .returned (kindR c) ∧ Below W1.heap.size W1 w') := fun W1 hW => kindOf_any c hc W1 (HS.out.gro hW).tab
    have hD' := hD c
    clear hr hs hmb hD
    simp only
    cases hkc : kindC c with
    | none =>
      simp only [kindR, hkc] at HKI
      clear hD' hkc hrn
      simp only
      go_enter Tryz.func28, Tryz.ntmps28
      go_wp2_with fail
      refine Calls.mono (HNU.out _ (HS.out.alloc _) (HR.out.alloc _)) ?_
      rintro e1 w1 ⟨⟨rfl, hr1, hq⟩, hg⟩
      have HG1 : Hid (Gro R w w1) := ((Gro.refl R w).alloc _).trans hg
      clear hg hr1
      go_wp2_with fail
      refine Calls.mono (HKI.out _ HG1.out) ?_
      rintro e2 w2 ⟨rfl, hb2⟩
      go_wp2
      exact ⟨rfl, rfl, rfl, HG1.out.trans (Gro.of_below hb2)⟩
    | some k =>
      simp only [kindR, hkc] at HKI
      simp only
      by_cases hf : f = 0
      · subst hf
        rw [if_pos rfl]
        have hdd : d = 33 := by omega
        subst hdd
        clear hD' hkc hrn
        go_enter Tryz.func28, Tryz.ntmps28
        go_wp2_with fail
        refine Calls.mono (HNU.out _ (HS.out.alloc _) (HR.out.alloc _)) ?_
        rintro e1 w1 ⟨⟨rfl, hr1, hq⟩, hg⟩
        have HG1 : Hid (Gro R w w1) := ((Gro.refl R w).alloc _).trans hg
        clear hg hr1
        go_wp2_with fail
        refine Calls.mono (HKI.out _ HG1.out) ?_
        rintro e2 w2 ⟨rfl, hb2⟩
        go_wp2
        exact ⟨rfl, rfl, rfl, HG1.out.trans (Gro.of_below hb2)⟩
      · rw [if_neg hf]
        have hd32 : (d : Int) ≤ 32 := by omega
        have HD : Hid (∀ W1, Gro R w W1 → RB W1 R a n cap (p + 1) fin sz → p + 1 ≤ fin → Calls Tryz.prog 42 #[.pointer (some ⟨R, 0, none⟩), .int .i64 (k : Int), .int .u8 (c : Int), .int .i64 (p : Int), .int .i64 (d : Int)] W1 (Outc (rdat badB twiceW l f k c p (p + 1) fin sz) R W1 (GotV R a n cap (p + 1) fin sz W1))) := fun W1 hW h2 h3 => hD' k hrn hkc hf d R a n cap p (p + 1) fin sz l W1 hd (HS.out.gro hW) h2 h3 hfin (by omega)
        clear hD' hkc hrn
        generalize rdat badB twiceW l f k c p (p + 1) fin sz = rd at HD ⊢
        cases rd with
        | error x =>
          go_enter Tryz.func28, Tryz.ntmps28
          go_wp2_with fail
          refine Calls.mono (HNU.out _ (HS.out.alloc _) (HR.out.alloc _)) ?_
          rintro e1 w1 ⟨⟨rfl, hr1, hq⟩, hg⟩
          have HG1 : Hid (Gro R w w1) := ((Gro.refl R w).alloc _).trans hg
          have HR1 := hide hr1
          clear hg hr1
          go_wp2_with fail
          refine Calls.mono (HKI.out _ HG1.out) ?_
          rintro e2 w2 ⟨rfl, hb2⟩
          have HG2 : Hid (Gro R w w2) := HG1.out.trans (Gro.of_below hb2)
          have HR2 : Hid (RB w2 R a n cap (p + 1) fin sz) := HR1.out.keep hb2
          clear hb2
          go_wp2_with fail
          refine Calls.mono (HD.out _ HG2.out HR2.out hq) ?_
          rintro e3 w3 ⟨rfl, hg3⟩
          exact ⟨rfl, rfl, HG2.out.trans hg3⟩
        | ok tq =>
          go_enter Tryz.func28, Tryz.ntmps28
          go_wp2_with fail
          refine Calls.mono (HNU.out _ (HS.out.alloc _) (HR.out.alloc _)) ?_
          rintro e1 w1 ⟨⟨rfl, hr1, hq⟩, hg⟩
          have HGB : Hid (Gro R (w.alloc (Obj.cells #[.int .i64 0, .int .u64 0, .string ⟨#[]⟩, .slice none 0 0, .int .i64 0] 25)) w1) := hg
          have HG1 : Hid (Gro R w w1) := ((Gro.refl R w).alloc _).trans hg
          have HR1 := hide hr1
          clear hg hr1
          go_wp2_with fail
          refine Calls.mono (HKI.out _ HG1.out) ?_
          rintro e2 w2 ⟨rfl, hb2⟩
          have HG2 : Hid (Gro R w w2) := HG1.out.trans (Gro.of_below hb2)
          have HGB2 : Hid (Gro R (w.alloc (Obj.cells #[.int .i64 0, .int .u64 0, .string ⟨#[]⟩, .slice none 0 0, .int .i64 0] 25)) w2) := HGB.out.trans (Gro.of_below hb2)
          have HR2 : Hid (RB w2 R a n cap (p + 1) fin sz) := HR1.out.keep hb2
          clear hb2
          go_wp2_with fail
          refine Calls.mono (HD.out _ HG2.out HR2.out hq) ?_
          rintro e3 w3 ⟨⟨y, rfl, HY⟩, hg3⟩
          have hgb := HGB2.out.trans hg3
          have hbx : w3.heap[w.heap.size]? = some (.cells #[.int .i64 0, .int .u64 0, .string ⟨#[]⟩, .slice none 0 0, .int .i64 0] 25) := (hgb.block _ (by simp) (by simp; omega)).trans (World.alloc_heap_new _ _)
          have k0 : w3.cell? ⟨w.heap.size, 0, none⟩ = some (.int .i64 0) := by simp [World.cell?, hbx]
          have k1 : w3.cell? ⟨w.heap.size, 1, none⟩ = some (.int .u64 0) := by simp [World.cell?, hbx]
          have k2 : w3.cell? ⟨w.heap.size, 2, none⟩ = some (.string ⟨#[]⟩) := by simp [World.cell?, hbx]
          have k3 : w3.cell? ⟨w.heap.size, 3, none⟩ = some (.slice none 0 0) := by simp [World.cell?, hbx]
          have k4 : w3.cell? ⟨w.heap.size, 4, none⟩ = some (.int .i64 0) := by simp [World.cell?, hbx]
          have g3 : ∀ o, w3.frozen? ⟨w.heap.size, o, none⟩ = false := fun o => by simp [World.frozen?, hbx]
          have hz3 : w.heap.size < w3.heap.size := (Array.getElem?_eq_some_iff.1 hbx).1
          have HG3 : Hid (Gro R w w3) := HG2.out.trans hg3
          have hs2 : w.heap.size < w2.heap.size := by have := HGB2.out.size; simp at this; omega
          clear hgb hbx hg3
          go_wp2
          obtain ⟨h1, h2, h3, h4, h5⟩ := HY.out
          refine bodyPost_ret (v := .agg #[.int .i64 y.k, .int .u64 y.n, .string y.s, .slice y.a y.l.length y.c, .int .i64 y.e]) (by simp [results, Tryz.results28, go_sem, k0, k1, k2, k3, k4]) rfl ⟨⟨y, rfl, ⟨h1, h2.keep (fun b hb o => ?_) (fun b hb => ?_), ?_, by omega, h5⟩⟩, ?_⟩
          · have hbn : b ≠ w.heap.size := by omega
            exact (cell_over _ hbn).trans ((cell_over _ hbn).trans ((cell_over _ hbn).trans ((cell_over _ hbn).trans (cell_over _ hbn))))
          · simp; omega
          · exact RB.over (RB.over (RB.over (RB.over (RB.over h3 (by omega) _ _) (by omega) _ _) (by omega) _ _) (by omega) _ _) (by omega) _ _
          · exact Gro.over (Gro.over (Gro.over (Gro.over (Gro.over HG3.out (by omega) _ _) (by omega) _ _) (by omega) _ _) (by omega) _ _) (by omega) _ _
end Go.Proofs.YthhlpjhkeendcaaGreatDoor
