
/- Stage 18: addresses, the document's; RouteReads: the walk. -/
import Derived.Test.YtmanfakdbmlfeaaDoorRRef3
import Derived.Test.YtmanfakdbmlfeaaDoorRAwk
namespace Go.Proofs.YtmanfakdbmlfeaaDoor
open Go.RowKit Go.Maps
set_option linter.unusedVariables false
set_option linter.unusedSimpArgs false
theorem pre6 (s p : ByteArray) (hp : p.data.toList.length = 6) : Lib.hasPrefix s.data.toList p.data.toList = ((s.extract 0 6).toList == p.data.toList) := by
  unfold Lib.hasPrefix
  rw [Bool.eq_iff_iff, List.isPrefixOf_iff_prefix, beq_iff_eq, Lib.toList_data, ext_data, List.prefix_iff_eq_take, hp]
  simp
  exact eq_comm
theorem isQ_eq (s : ByteArray) : ((s.extract 0 6).toList == [113, 117, 101, 117, 101, 47]) = isQ s := (pre6 s bQ rfl).symm
theorem isT_eq (s : ByteArray) : ((s.extract 0 6).toList == [116, 111, 112, 105, 99, 47]) = isT s := (pre6 s bT rfl).symm
theorem rst_none {s : ByteArray} (h : s.size ≤ 6) : rst s = bNone := by
  have : (rst s).size = 0 := by unfold rst; rw [ByteArray.size_extract]; omega
  rw [← bOf_data (rst s)]
  have e : (rst s).data.toList = [] := List.eq_nil_of_length_eq_zero (by rw [Array.length_toList]; exact this)
  rw [e]
  rfl
theorem adr_short {s : ByteArray} (h : s.size ≤ 6) (hx : s ≠ bX) : adr s = (0, bNone, 82) := by
  unfold adr
  have e1 : nam bNone = false := by decide +kernel
  have e2 : patB (pcs bNone) = false := by decide +kernel
  rw [rst_none h, e1, e2, Bool.and_false, Bool.and_false]
  simp [hx]
theorem adr_txn : adr bX = (3, bNone, 0) := by decide +kernel
theorem adr_long {s : ByteArray} (hx : s ≠ bX) : adr s = if isQ s && nam (rst s) then (1, rst s, 0) else if isT s && patB (pcs (rst s)) then (2, rst s, 0) else (0, bNone, 82) := by
  unfold adr
  rw [if_neg hx]
set_option maxHeartbeats 4000000 in
theorem rAddress_any (s : ByteArray) (hs : s.size ≤ 100000000) (w : World) : Calls Tryd.prog 14 #[.string s] w fun e w' => e = .returned (.tuple #[.int .i64 (adr s).1, .string (adr s).2.1, .int .i64 (adr s).2.2]) ∧ Below w.heap.size w w' := by
  have hmx : Tryd.prog.follows .mixedOrders = true := by kernel_rfl
  by_cases hx : s = bX
  · have e1 : (s.toList == [116, 120, 110, 115]) = true := by rw [txn_eq]; simpa using hx
    have HA : Hid (adr s = (3, bNone, 0)) := by rw [hx]; exact adr_txn
    clear hx
    go_enter Tryd.func14, Tryd.ntmps14
    go_wp2
    go_ret3
    exact ⟨by rw [HA.out]; rfl, Below.refl _ _⟩
  · have e1 : (s.toList == [116, 120, 110, 115]) = false := by rw [txn_eq]; simpa using hx
    by_cases h6 : 6 < s.size
    · have HL := hide (adr_long hx)
      have hrs : (rst s).size ≤ s.size := rst_size s
      have HRN := hide (rnamed_any (rst s) (by omega) w)
      have HRP := hide (rpattern_any (rst s) (by omega) w)
      have HQ := hide (isQ_eq s)
      have HT := hide (isT_eq s)
      have hz6 : (6 : Int) < (s.size : Int) := by omega
      unfold rst at HRN HRP
      clear hx
      go_enter Tryd.func14, Tryd.ntmps14
      go_wp2_with fail
      refine HRN.out.mono ?_
      rintro e w1 ⟨rfl, rfl⟩
      go_wp2_with fail
      refine HRP.out.mono ?_
      rintro e w2 ⟨rfl, hb2⟩
      rw [show s.extract 6 s.size = rst s from rfl]
      cases h1 : isQ s <;> cases h2 : isT s <;> cases h3 : nam (rst s) <;> cases h4 : patB (pcs (rst s))
      all_goals
        have q1 := HQ.out
        have q2 := HT.out
        have HA := HL.out
        rw [h1] at q1
        rw [h2] at q2
        rw [h1, h2, h3, h4] at HA
        simp only [Bool.and_true, Bool.and_false, Bool.false_eq_true, if_false, if_true, Bool.true_and, Bool.false_and] at HA
        have HA := hide HA
        clear h1 h2 h3 h4
        go_wp2_with fail
        try (go_region_held (fun W1 => True) (trivial) (fail); go_wp2)
        go_ret3
        exact ⟨by rw [HA.out]; rfl, by first | exact hb2 | exact hb2.drew⟩
    · have HA := hide (adr_short (by omega) hx)
      have hz6 : ¬ (6 : Int) < (s.size : Int) := by omega
      clear hx
      go_enter Tryd.func14, Tryd.ntmps14
      go_wp2
      go_ret3
      exact ⟨by rw [HA.out]; rfl, Below.refl _ _⟩
end Go.Proofs.YtmanfakdbmlfeaaDoor
