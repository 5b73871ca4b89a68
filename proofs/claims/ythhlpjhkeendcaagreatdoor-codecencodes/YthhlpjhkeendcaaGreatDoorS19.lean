/- VFault0, VExtra -/
import Derived.Test.YthhlpjhkeendcaaGreatDoorS18
import Derived.Test.YthhlpjhkeendcaaGreatDoorS01
import Derived.WalkLawsBesides
import Derived.Handy
import Derived.Outline
import Derived.Deep.QuietTactic
import Derived.BigQuiet
namespace Go.Proofs.YthhlpjhkeendcaaGreatDoor
open Go.RowKit
set_option linter.unusedVariables false
theorem bel_drewN {B : Nat} {w w1 : World} (h : Below B w w1) (n : Nat) : Below B w (w1.drewN n) := ⟨h.os, h.tape, h.output, h.size, h.block⟩
set_option linter.unusedSimpArgs false
def extraT (k n : Int) (s : ByteArray) (len : Nat) (e : Int) : Bool :=
  if k = 0 then decide (n ≠ 0) || (!s.toList.isEmpty || (decide (0 < len) || decide (e ≠ 0)))
  else if k = 14 ∨ k = 17 ∨ k = 18 ∨ k = 19 ∨ k = 20 then decide (n ≠ 0) || (decide (0 < len) || decide (e ≠ 0))
  else if k = 21 ∨ k = 22 ∨ k = 24 then decide (n ≠ 0) || (!s.toList.isEmpty || decide (e ≠ 0))
  else if k = 23 then decide (n ≠ 0) || !s.toList.isEmpty
  else !s.toList.isEmpty || (decide (0 < len) || decide (e ≠ 0))
set_option maxRecDepth 100000 in
set_option maxHeartbeats 4000000 in
theorem extra_any (k n : Int) (s : ByteArray) (a : Option Addr) (len c : Nat) (e : Int) (w : World) (hl : len ≤ 281474976710656) :
    Calls Tryz.prog 61 #[.agg #[.int .i64 k, .int .u64 n, .string s, .slice a len c, .int .i64 e]] w fun e' w' => e' = .returned (.bool (extraT k n s len e)) ∧ Below w.heap.size w w' := by
  by_cases h0 : k = 0
  · subst h0
    go_enter Tryz.func61, Tryz.ntmps61
    go_wp2
    go_quiet (fail)
    go_wp2
    all_goals
      go_ret
      refine ⟨?_, bel_drewN (bel1 (Below.refl _ _) (Nat.le_refl _) _) _⟩
      simp_all [extraT]
      try (first | omega | (by_cases he : e = 0 <;> simp_all <;> omega))
  by_cases h14 : k = 14
  · subst h14
    go_enter Tryz.func61, Tryz.ntmps61
    go_wp2
    go_quiet (fail)
    go_wp2
    all_goals
      go_ret
      refine ⟨?_, bel_drewN (bel1 (Below.refl _ _) (Nat.le_refl _) _) _⟩
      simp_all [extraT]
      try (first | omega | (by_cases he : e = 0 <;> simp_all <;> omega))
  by_cases h17 : k = 17
  · subst h17
    go_enter Tryz.func61, Tryz.ntmps61
    go_wp2
    go_quiet (fail)
    go_wp2
    all_goals
      go_ret
      refine ⟨?_, bel_drewN (bel1 (Below.refl _ _) (Nat.le_refl _) _) _⟩
      simp_all [extraT]
      try (first | omega | (by_cases he : e = 0 <;> simp_all <;> omega))
  by_cases h18 : k = 18
  · subst h18
    go_enter Tryz.func61, Tryz.ntmps61
    go_wp2
    go_quiet (fail)
    go_wp2
    all_goals
      go_ret
      refine ⟨?_, bel_drewN (bel1 (Below.refl _ _) (Nat.le_refl _) _) _⟩
      simp_all [extraT]
      try (first | omega | (by_cases he : e = 0 <;> simp_all <;> omega))
  by_cases h19 : k = 19
  · subst h19
    go_enter Tryz.func61, Tryz.ntmps61
    go_wp2
    go_quiet (fail)
    go_wp2
    all_goals
      go_ret
      refine ⟨?_, bel_drewN (bel1 (Below.refl _ _) (Nat.le_refl _) _) _⟩
      simp_all [extraT]
      try (first | omega | (by_cases he : e = 0 <;> simp_all <;> omega))
  by_cases h20 : k = 20
  · subst h20
    go_enter Tryz.func61, Tryz.ntmps61
    go_wp2
    go_quiet (fail)
    go_wp2
    all_goals
      go_ret
      refine ⟨?_, bel_drewN (bel1 (Below.refl _ _) (Nat.le_refl _) _) _⟩
      simp_all [extraT]
      try (first | omega | (by_cases he : e = 0 <;> simp_all <;> omega))
  by_cases h21 : k = 21
  · subst h21
    go_enter Tryz.func61, Tryz.ntmps61
    go_wp2
    go_quiet (fail)
    go_wp2
    all_goals
      go_ret
      refine ⟨?_, bel_drewN (bel1 (Below.refl _ _) (Nat.le_refl _) _) _⟩
      simp_all [extraT]
      try (first | omega | (by_cases he : e = 0 <;> simp_all <;> omega))
  by_cases h22 : k = 22
  · subst h22
    go_enter Tryz.func61, Tryz.ntmps61
    go_wp2
    go_quiet (fail)
    go_wp2
    all_goals
      go_ret
      refine ⟨?_, bel_drewN (bel1 (Below.refl _ _) (Nat.le_refl _) _) _⟩
      simp_all [extraT]
      try (first | omega | (by_cases he : e = 0 <;> simp_all <;> omega))
  by_cases h24 : k = 24
  · subst h24
    go_enter Tryz.func61, Tryz.ntmps61
    go_wp2
    go_quiet (fail)
    go_wp2
    all_goals
      go_ret
      refine ⟨?_, bel_drewN (bel1 (Below.refl _ _) (Nat.le_refl _) _) _⟩
      simp_all [extraT]
      try (first | omega | (by_cases he : e = 0 <;> simp_all <;> omega))
  by_cases h23 : k = 23
  · subst h23
    go_enter Tryz.func61, Tryz.ntmps61
    go_wp2
    go_quiet (fail)
    go_wp2
    all_goals
      go_ret
      refine ⟨?_, bel_drewN (bel1 (Below.refl _ _) (Nat.le_refl _) _) _⟩
      simp_all [extraT]
      try (first | omega | (by_cases he : e = 0 <;> simp_all <;> omega))
  go_enter Tryz.func61, Tryz.ntmps61
  go_wp2
  go_quiet (fail)
  go_wp2
  all_goals
    go_ret
    refine ⟨?_, bel_drewN (bel1 (Below.refl _ _) (Nat.le_refl _) _) _⟩
    simp_all [extraT]
    try (first | omega | (by_cases he : e = 0 <;> simp_all <;> omega))
end Go.Proofs.YthhlpjhkeendcaaGreatDoor
