
/- Stage 18: addresses, by the program. -/
import Derived.Test.YtmanfakdbmlfeaaDoorRCov
import Derived.Test.YtmanfakdbmlfeaaDoorShelf
namespace Go.Proofs.YtmanfakdbmlfeaaDoor
open Go.RowKit
set_option linter.unusedVariables false
set_option linter.unusedSimpArgs false
def bQ : ByteArray := ⟨#[113, 117, 101, 117, 101, 47]⟩
def bT : ByteArray := ⟨#[116, 111, 112, 105, 99, 47]⟩
def bX : ByteArray := ⟨#[116, 120, 110, 115]⟩
def rst (s : ByteArray) : ByteArray := s.extract 6 s.size
def isQ (s : ByteArray) : Bool := Lib.hasPrefix s.data.toList bQ.data.toList
def isT (s : ByteArray) : Bool := Lib.hasPrefix s.data.toList bT.data.toList
/-- an address: its kind, what stands behind it, the error -/
def adr (s : ByteArray) : Int × ByteArray × Int :=
  if isQ s && nam (rst s) then (1, rst s, 0) else if isT s && patB (pcs (rst s)) then (2, rst s, 0) else if s = bX then (3, bNone, 0) else (0, bNone, 82)
theorem trim_rst {s p : ByteArray} (hp : p.data.toList.length = 6) (h : Lib.hasPrefix s.data.toList p.data.toList = true) : (⟨(Lib.trimPrefix s.data.toList p.data.toList).toArray⟩ : ByteArray) = rst s := by
  unfold Lib.trimPrefix
  rw [if_pos h, hp]
  have : (rst s).data.toList = s.data.toList.drop 6 := by
    unfold rst
    rw [ext_data, List.take_of_length_le]
    have e : s.data.toList.length = s.size := Array.length_toList
    rw [List.length_drop]
    omega
  rw [← this]
theorem rst_size (s : ByteArray) : (rst s).size ≤ s.size := by unfold rst; rw [ByteArray.size_extract]; omega
theorem trim_size (s : ByteArray) (p : List UInt8) : (⟨(Lib.trimPrefix s.data.toList p).toArray⟩ : ByteArray).size ≤ s.size := by
  have e : s.data.toList.length = s.size := Array.length_toList
  unfold Lib.trimPrefix
  split
  · show (List.drop p.length s.data.toList).toArray.size ≤ s.size
    simp
  · show s.data.toList.toArray.size ≤ s.size
    simp
set_option maxHeartbeats 1000000 in
theorem clone_any (s : ByteArray) (hs : s.size ≤ 281474976710656) (w : World) : Calls Tryd.prog 34 #[.string s] w fun e w' => e = .returned (.string s) ∧ Below w.heap.size w w' := by
  go_enter Tryd.func34, Tryd.ntmps34
  go_wp2_with fail
  refine (Tryd.stringslite_Clone s w hs).mono ?_
  rintro e w' ⟨rfl, hb⟩
  go_wp2
  go_ret
  exact ⟨rfl, hb⟩
theorem nil_ny (w : World) : (binOp .neq 39 (.slice none 0 0) (.slice none 0 0)).run Tryd.prog w = .ok (.bool false) w := by
  simp only [binOp]
  simp [Op.equal, Op.maxDepth, Lib.run_equalIn_slice_nil w 9999 39 9 none 0 0 0 0 Tryd.underlying39]
theorem nil_nn (w : World) (a : Addr) (l c : Nat) : (binOp .neq 39 (.slice (some a) l c) (.slice none 0 0)).run Tryd.prog w = .ok (.bool true) w := by
  simp only [binOp]
  simp [Op.equal, Op.maxDepth, Lib.run_equalIn_slice_nil w 9999 39 9 (some a) l c 0 0 Tryd.underlying39]
theorem txn_eq (s : ByteArray) : (s.toList == [116, 120, 110, 115]) = decide (s = bX) := by have := str_eq s bX; rwa [show bX.toList = [116, 120, 110, 115] by rw [Lib.toList_data]; rfl] at this
/-- from the second test on -/
def adr2 (s : ByteArray) : Int × ByteArray × Int := if isT s && patB (pcs (rst s)) then (2, rst s, 0) else if s = bX then (3, bNone, 0) else (0, bNone, 82)
set_option maxHeartbeats 4000000 in
theorem Address_any (s : ByteArray) (hs : s.size ≤ 281474976710656) (w : World) : Calls Tryd.prog 13 #[.string s] w fun e w' => e = .returned (.tuple #[.int .i64 (adr s).1, .string (adr s).2.1, .int .i64 (adr s).2.2]) ∧ Below w.heap.size w w' := by
  have n1 := nil_ny
  have n2 := nil_nn
  have hrs := rst_size s
  by_cases hq : (isQ s && nam (rst s)) = true
  · have HA : Hid (adr s = (1, rst s, 0)) := by show adr s = _; unfold adr; rw [if_pos hq]
    rw [Bool.and_eq_true] at hq
    have HT : Hid ((⟨(Lib.trimPrefix s.data.toList bQ.data.toList).toArray⟩ : ByteArray) = rst s) := trim_rst (by rfl) hq.1
    have HQ : Hid (Lib.hasPrefix s.data.toList bQ.data.toList = true) := hq.1
    have HN := hide hq.2
    clear hq
    go_enter Tryd.func13, Tryd.ntmps13
    go_wp2_with fail
    refine (Tryd.strings_CutPrefix s bQ w).mono ?_
    rintro e w1 ⟨rfl, rfl⟩
    rw [HT.out, HQ.out]
    go_wp2_with fail
    refine (isName_any (rst s) (by omega) _).mono ?_
    rintro e w2 ⟨rfl, rfl⟩
    rw [HN.out]
    go_wp2_with fail
    refine (clone_any (rst s) (by omega) _).mono ?_
    rintro e w3 ⟨rfl, hb3⟩
    go_wp2
    go_ret3
    exact ⟨by rw [HA.out]; rfl, hb3⟩
  · have HA : Hid (adr s = adr2 s) := by show adr s = _; unfold adr; rw [if_neg hq]; rfl
    have HQ : Hid (isQ s = false ∨ (isQ s = true ∧ nam (rst s) = false)) := by
      show isQ s = false ∨ (isQ s = true ∧ nam (rst s) = false)
      cases h1 : isQ s
      · exact .inl rfl
      · rw [h1, Bool.true_and] at hq; exact .inr ⟨rfl, by simpa using hq⟩
    clear hq
    obtain ⟨tq, htq⟩ : ∃ t, t = (⟨(Lib.trimPrefix s.data.toList bQ.data.toList).toArray⟩ : ByteArray) := ⟨_, rfl⟩
    obtain ⟨tt, htt⟩ : ∃ t, t = (⟨(Lib.trimPrefix s.data.toList bT.data.toList).toArray⟩ : ByteArray) := ⟨_, rfl⟩
    have hsq : tq.size ≤ s.size := by rw [htq]; exact trim_size s _
    have hst : tt.size ≤ s.size := by rw [htt]; exact trim_size s _
    have HTQ : Hid (isQ s = true → tq = rst s) := fun h => htq.trans (trim_rst (by rfl) h)
    have HTT : Hid (isT s = true → tt = rst s) := fun h => htt.trans (trim_rst (by rfl) h)
    have HCQ : Hid (∀ w, Calls Tryd.prog 32 #[.string s, .string bQ] w fun e w' => e = .returned (.tuple #[.string tq, .bool (isQ s)]) ∧ w' = w) := fun w => by rw [htq]; exact Tryd.strings_CutPrefix s bQ w
    have HCT : Hid (∀ w, Calls Tryd.prog 32 #[.string s, .string bT] w fun e w' => e = .returned (.tuple #[.string tt, .bool (isT s)]) ∧ w' = w) := fun w => by rw [htt]; exact Tryd.strings_CutPrefix s bT w
    clear htq htt
    cases h1 : isQ s
    all_goals
      have H1 := hide h1
      clear h1
      go_enter Tryd.func13, Tryd.ntmps13
      go_wp2_with fail
      refine (HCQ.out w).mono ?_
      rintro e w1 ⟨rfl, rfl⟩
      rw [H1.out]
      go_wp2_with fail
      try (refine (isName_any tq (by omega) _).mono ?_
           rintro e w2 ⟨rfl, rfl⟩
           rw [HTQ.out H1.out, HQ.out.elim (fun h => by rw [H1.out] at h; cases h) (fun h => h.2)]
           go_wp2_with fail)
      refine (HCT.out _).mono ?_
      rintro e w2 ⟨rfl, rfl⟩
      cases h2 : isT s
      · have HA2 : Hid (adr2 s = if s = bX then (3, bNone, 0) else (0, bNone, 82)) := by show adr2 s = _; unfold adr2; rw [h2]; rfl
        clear h2
        by_cases h3 : s = bX
        · have e3 : (s.toList == [116, 120, 110, 115]) = true := by rw [txn_eq]; simpa using h3
          have HA3 : Hid (adr s = (3, bNone, 0)) := by show adr s = _; rw [HA.out, HA2.out, if_pos h3]
          clear h3
          go_wp2
          go_ret3
          exact ⟨by rw [HA3.out]; rfl, Below.refl _ _⟩
        · have e3 : (s.toList == [116, 120, 110, 115]) = false := by rw [txn_eq]; simpa using h3
          have HA3 : Hid (adr s = (0, bNone, 82)) := by show adr s = _; rw [HA.out, HA2.out, if_neg h3]
          clear h3
          go_wp2
          go_ret3
          exact ⟨by rw [HA3.out]; rfl, Below.refl _ _⟩
      · have H2 := hide h2
        clear h2
        go_wp2_with fail
        rw [HTT.out H2.out]
        refine (patternOf_any (rst s) (by omega) _).mono ?_
        rintro e w3 ⟨hb3, ⟨hk, rfl⟩ | ⟨hk, g, c, rfl, hg, hc, h9, hx⟩⟩
        · have HA2 : Hid (adr2 s = if s = bX then (3, bNone, 0) else (0, bNone, 82)) := by show adr2 s = _; unfold adr2; rw [H2.out, hk]; rfl
          clear hk
          by_cases h3 : s = bX
          · have e3 : (s.toList == [116, 120, 110, 115]) = true := by rw [txn_eq]; simpa using h3
            have HA3 : Hid (adr s = (3, bNone, 0)) := by show adr s = _; rw [HA.out, HA2.out, if_pos h3]
            clear h3
            go_wp2
            go_ret3
            exact ⟨by rw [HA3.out]; rfl, hb3⟩
          · have e3 : (s.toList == [116, 120, 110, 115]) = false := by rw [txn_eq]; simpa using h3
            have HA3 : Hid (adr s = (0, bNone, 82)) := by show adr s = _; rw [HA.out, HA2.out, if_neg h3]
            clear h3
            go_wp2
            go_ret3
            exact ⟨by rw [HA3.out]; rfl, hb3⟩
        · have HA2 : Hid (adr s = (2, rst s, 0)) := by show adr s = _; rw [HA.out]; unfold adr2; rw [H2.out, hk]; rfl
          clear hk hx
          go_wp2_with fail
          refine (clone_any (rst s) (by omega) _).mono ?_
          rintro e w4 ⟨rfl, hb4⟩
          go_wp2
          go_ret3
          exact ⟨by rw [HA2.out]; rfl, belOn hb3 hb3.size hb4⟩
end Go.Proofs.YtmanfakdbmlfeaaDoor
