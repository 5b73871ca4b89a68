/- VFault0, VExtra, VRExtra -/
import Derived.Test.YtgldcchleoklcaaGreatDoorK11
import Derived.Test.YtgldcchleoklcaaGreatDoorK03
import Derived.WalkLawsBesides
import Derived.Handy
import Derived.Outline
import Derived.Deep.QuietTactic
import Derived.BigQuiet
namespace Go.Proofs.YtgldcchleoklcaaGreatDoor

open Go.RowKit
set_option linter.unusedVariables false

theorem bel_drewN {B : Nat} {w w1 : World} (h : Below B w w1) (n : Nat) : Below B w (w1.drewN n) := ⟨h.os, h.tape, h.output, h.size, h.block⟩

end Go.Proofs.YtgldcchleoklcaaGreatDoor
namespace Go.Proofs.YtgldcchleoklcaaGreatDoor

open Go.RowKit
set_option linter.unusedVariables false
set_option linter.unusedSimpArgs false

/-- has a value a field that its kind does not have? -/
def extraT (k n : Int) (s : ByteArray) (len : Nat) (e : Int) : Bool :=
  if k = 0 then decide (n ≠ 0) || (!s.toList.isEmpty || (decide (0 < len) || decide (e ≠ 0)))
  else if k = 14 ∨ k = 17 ∨ k = 18 ∨ k = 19 ∨ k = 20 then decide (n ≠ 0) || (decide (0 < len) || decide (e ≠ 0))
  else if k = 21 ∨ k = 22 ∨ k = 24 then decide (n ≠ 0) || (!s.toList.isEmpty || decide (e ≠ 0))
  else if k = 23 then decide (n ≠ 0) || !s.toList.isEmpty
  else !s.toList.isEmpty || (decide (0 < len) || decide (e ≠ 0))

set_option maxRecDepth 100000 in
set_option maxHeartbeats 4000000 in
theorem extra_any (k n : Int) (s : ByteArray) (a : Option Addr) (len c : Nat) (e : Int) (w : World) (hl : len ≤ 281474976710656) :
    Calls Tryz.prog 120 #[.agg #[.int .i64 k, .int .u64 n, .string s, .slice a len c, .int .i64 e]] w fun e' w' => e' = .returned (.bool (extraT k n s len e)) ∧ Below w.heap.size w w' := by
  by_cases h0 : k = 0
  · subst h0
    go_enter Tryz.func120, Tryz.ntmps120
    go_wp2
    go_quiet (fail)
    go_wp2
    all_goals
      go_ret
      refine ⟨?_, bel_drewN (bel1 (Below.refl _ _) (Nat.le_refl _) _) _⟩
      simp_all [extraT]
      try (first | omega | (by_cases he : e = 0 <;> simp_all <;> omega))
  by_cases h14 : k = 14
  · subst h14
    go_enter Tryz.func120, Tryz.ntmps120
    go_wp2
    go_quiet (fail)
    go_wp2
    all_goals
      go_ret
      refine ⟨?_, bel_drewN (bel1 (Below.refl _ _) (Nat.le_refl _) _) _⟩
      simp_all [extraT]
      try (first | omega | (by_cases he : e = 0 <;> simp_all <;> omega))
  by_cases h17 : k = 17
  · subst h17
    go_enter Tryz.func120, Tryz.ntmps120
    go_wp2
    go_quiet (fail)
    go_wp2
    all_goals
      go_ret
      refine ⟨?_, bel_drewN (bel1 (Below.refl _ _) (Nat.le_refl _) _) _⟩
      simp_all [extraT]
      try (first | omega | (by_cases he : e = 0 <;> simp_all <;> omega))
  by_cases h18 : k = 18
  · subst h18
    go_enter Tryz.func120, Tryz.ntmps120
    go_wp2
    go_quiet (fail)
    go_wp2
    all_goals
      go_ret
      refine ⟨?_, bel_drewN (bel1 (Below.refl _ _) (Nat.le_refl _) _) _⟩
      simp_all [extraT]
      try (first | omega | (by_cases he : e = 0 <;> simp_all <;> omega))
  by_cases h19 : k = 19
  · subst h19
    go_enter Tryz.func120, Tryz.ntmps120
    go_wp2
    go_quiet (fail)
    go_wp2
    all_goals
      go_ret
      refine ⟨?_, bel_drewN (bel1 (Below.refl _ _) (Nat.le_refl _) _) _⟩
      simp_all [extraT]
      try (first | omega | (by_cases he : e = 0 <;> simp_all <;> omega))
  by_cases h20 : k = 20
  · subst h20
    go_enter Tryz.func120, Tryz.ntmps120
    go_wp2
    go_quiet (fail)
    go_wp2
    all_goals
      go_ret
      refine ⟨?_, bel_drewN (bel1 (Below.refl _ _) (Nat.le_refl _) _) _⟩
      simp_all [extraT]
      try (first | omega | (by_cases he : e = 0 <;> simp_all <;> omega))
  by_cases h21 : k = 21
  · subst h21
    go_enter Tryz.func120, Tryz.ntmps120
    go_wp2
    go_quiet (fail)
    go_wp2
    all_goals
      go_ret
      refine ⟨?_, bel_drewN (bel1 (Below.refl _ _) (Nat.le_refl _) _) _⟩
      simp_all [extraT]
      try (first | omega | (by_cases he : e = 0 <;> simp_all <;> omega))
  by_cases h22 : k = 22
  · subst h22
    go_enter Tryz.func120, Tryz.ntmps120
    go_wp2
    go_quiet (fail)
    go_wp2
    all_goals
      go_ret
      refine ⟨?_, bel_drewN (bel1 (Below.refl _ _) (Nat.le_refl _) _) _⟩
      simp_all [extraT]
      try (first | omega | (by_cases he : e = 0 <;> simp_all <;> omega))
  by_cases h24 : k = 24
  · subst h24
    go_enter Tryz.func120, Tryz.ntmps120
    go_wp2
    go_quiet (fail)
    go_wp2
    all_goals
      go_ret
      refine ⟨?_, bel_drewN (bel1 (Below.refl _ _) (Nat.le_refl _) _) _⟩
      simp_all [extraT]
      try (first | omega | (by_cases he : e = 0 <;> simp_all <;> omega))
  by_cases h23 : k = 23
  · subst h23
    go_enter Tryz.func120, Tryz.ntmps120
    go_wp2
    go_quiet (fail)
    go_wp2
    all_goals
      go_ret
      refine ⟨?_, bel_drewN (bel1 (Below.refl _ _) (Nat.le_refl _) _) _⟩
      simp_all [extraT]
      try (first | omega | (by_cases he : e = 0 <;> simp_all <;> omega))
  go_enter Tryz.func120, Tryz.ntmps120
  go_wp2
  go_quiet (fail)
  go_wp2
  all_goals
    go_ret
    refine ⟨?_, bel_drewN (bel1 (Below.refl _ _) (Nat.le_refl _) _) _⟩
    simp_all [extraT]
    try (first | omega | (by_cases he : e = 0 <;> simp_all <;> omega))
end Go.Proofs.YtgldcchleoklcaaGreatDoor
namespace Go.Proofs.YtgldcchleoklcaaGreatDoor

open Go.RowKit
set_option linter.unusedVariables false
set_option linter.unusedSimpArgs false

/-- the document's way -/
def rextraT (k n : Int) (s : ByteArray) (len : Nat) (e : Int) : Bool :=
  (!(decide (1 ≤ k ∧ k ≤ 16 ∧ k ≠ 14)) && decide (n ≠ 0)) || ((!(decide (k = 14 ∨ (17 ≤ k ∧ k ≤ 20))) && !s.toList.isEmpty) || ((!(decide (21 ≤ k)) && decide (0 < len)) || (decide (k ≠ 23) && decide (e ≠ 0))))
theorem rextra_eq (k n : Int) (s : ByteArray) (len : Nat) (e : Int) (h0 : 0 ≤ k) (h1 : k ≤ 24) : rextraT k n s len e = extraT k n s len e := by
  have hk : k = 0 ∨ k = 1 ∨ k = 2 ∨ k = 3 ∨ k = 4 ∨ k = 5 ∨ k = 6 ∨ k = 7 ∨ k = 8 ∨ k = 9 ∨ k = 10 ∨ k = 11 ∨ k = 12 ∨ k = 13 ∨ k = 14 ∨ k = 15 ∨ k = 16 ∨ k = 17 ∨ k = 18 ∨ k = 19 ∨ k = 20 ∨ k = 21 ∨ k = 22 ∨ k = 23 ∨ k = 24 := by omega
  unfold rextraT extraT
  rcases hk with rfl | rfl | rfl | rfl | rfl | rfl | rfl | rfl | rfl | rfl | rfl | rfl | rfl | rfl | rfl | rfl | rfl | rfl | rfl | rfl | rfl | rfl | rfl | rfl | rfl <;> simp

set_option maxRecDepth 100000 in
set_option maxHeartbeats 4000000 in
theorem rextra_any (k n : Int) (s : ByteArray) (a : Option Addr) (len c : Nat) (e : Int) (w : World) (hl : len ≤ 281474976710656) :
    Calls Tryz.prog 140 #[.agg #[.int .i64 k, .int .u64 n, .string s, .slice a len c, .int .i64 e]] w fun e' w' => e' = .returned (.bool (rextraT k n s len e)) ∧ Below w.heap.size w w' := by
  by_cases hk : 0 ≤ k ∧ k ≤ 24
  · have hk' : k = 0 ∨ k = 1 ∨ k = 2 ∨ k = 3 ∨ k = 4 ∨ k = 5 ∨ k = 6 ∨ k = 7 ∨ k = 8 ∨ k = 9 ∨ k = 10 ∨ k = 11 ∨ k = 12 ∨ k = 13 ∨ k = 14 ∨ k = 15 ∨ k = 16 ∨ k = 17 ∨ k = 18 ∨ k = 19 ∨ k = 20 ∨ k = 21 ∨ k = 22 ∨ k = 23 ∨ k = 24 := by omega
    clear hk
    rcases hk' with rfl | rfl | rfl | rfl | rfl | rfl | rfl | rfl | rfl | rfl | rfl | rfl | rfl | rfl | rfl | rfl | rfl | rfl | rfl | rfl | rfl | rfl | rfl | rfl | rfl
    all_goals
      go_enter Tryz.func140, Tryz.ntmps140
      go_wp2
      all_goals
        go_ret
        refine ⟨?_, bel1 (Below.refl _ _) (Nat.le_refl _) _⟩
        refine congrArg (fun b => Ending.returned (Value.bool b)) ?_
        unfold rextraT
        first
          | (simp_all; done)
          | (simp_all; omega)
          | (rw [Bool.eq_iff_iff]; simp_all; done)
          | (rw [Bool.eq_iff_iff]; simp_all; omega)
  · by_cases hneg : k < 0
    · have f1 : ¬ 1 ≤ k := by omega
      have f2 : ¬ k = 14 := by omega
      have f3 : ¬ 17 ≤ k := by omega
      have f4 : ¬ 21 ≤ k := by omega
      have f5 : ¬ k = 23 := by omega
      clear hk
      go_enter Tryz.func140, Tryz.ntmps140
      go_wp2
      all_goals
        go_ret
        refine ⟨?_, bel1 (Below.refl _ _) (Nat.le_refl _) _⟩
        refine congrArg (fun b => Ending.returned (Value.bool b)) ?_
        unfold rextraT
        first
          | (simp_all; done)
          | (simp_all; omega)
          | (rw [Bool.eq_iff_iff]; simp_all; done)
          | (rw [Bool.eq_iff_iff]; simp_all; omega)
    · have f1 : 1 ≤ k := by omega
      have f0 : ¬ k ≤ 16 := by omega
      have f2 : ¬ k = 14 := by omega
      have f3 : 17 ≤ k := by omega
      have f6 : ¬ k ≤ 20 := by omega
      have f4 : 21 ≤ k := by omega
      have f5 : ¬ k = 23 := by omega
      clear hk hneg
      go_enter Tryz.func140, Tryz.ntmps140
      go_wp2
      all_goals
        go_ret
        refine ⟨?_, bel1 (Below.refl _ _) (Nat.le_refl _) _⟩
        refine congrArg (fun b => Ending.returned (Value.bool b)) ?_
        unfold rextraT
        first
          | (simp_all; done)
          | (simp_all; omega)
          | (rw [Bool.eq_iff_iff]; simp_all; done)
          | (rw [Bool.eq_iff_iff]; simp_all; omega)
end Go.Proofs.YtgldcchleoklcaaGreatDoor
