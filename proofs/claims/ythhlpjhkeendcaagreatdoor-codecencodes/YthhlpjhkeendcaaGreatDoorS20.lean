/- VRExtra -/
import Derived.Test.YthhlpjhkeendcaaGreatDoorS19
namespace Go.Proofs.YthhlpjhkeendcaaGreatDoor
open Go.RowKit
set_option linter.unusedVariables false
set_option linter.unusedSimpArgs false
def rextraT (k n : Int) (s : ByteArray) (len : Nat) (e : Int) : Bool :=
  (!(decide (1 ≤ k ∧ k ≤ 16 ∧ k ≠ 14)) && decide (n ≠ 0)) || ((!(decide (k = 14 ∨ (17 ≤ k ∧ k ≤ 20))) && !s.toList.isEmpty) || ((!(decide (21 ≤ k)) && decide (0 < len)) || (decide (k ≠ 23) && decide (e ≠ 0))))
theorem rextra_eq (k n : Int) (s : ByteArray) (len : Nat) (e : Int) (h0 : 0 ≤ k) (h1 : k ≤ 24) : rextraT k n s len e = extraT k n s len e := by
  have hk : k = 0 ∨ k = 1 ∨ k = 2 ∨ k = 3 ∨ k = 4 ∨ k = 5 ∨ k = 6 ∨ k = 7 ∨ k = 8 ∨ k = 9 ∨ k = 10 ∨ k = 11 ∨ k = 12 ∨ k = 13 ∨ k = 14 ∨ k = 15 ∨ k = 16 ∨ k = 17 ∨ k = 18 ∨ k = 19 ∨ k = 20 ∨ k = 21 ∨ k = 22 ∨ k = 23 ∨ k = 24 := by omega
  unfold rextraT extraT
  rcases hk with rfl | rfl | rfl | rfl | rfl | rfl | rfl | rfl | rfl | rfl | rfl | rfl | rfl | rfl | rfl | rfl | rfl | rfl | rfl | rfl | rfl | rfl | rfl | rfl | rfl <;> simp
set_option maxRecDepth 100000 in
set_option maxHeartbeats 4000000 in
theorem rextra_any (k n : Int) (s : ByteArray) (a : Option Addr) (len c : Nat) (e : Int) (w : World) (hl : len ≤ 281474976710656) :
    Calls Tryz.prog 73 #[.agg #[.int .i64 k, .int .u64 n, .string s, .slice a len c, .int .i64 e]] w fun e' w' => e' = .returned (.bool (rextraT k n s len e)) ∧ Below w.heap.size w w' := by
  by_cases hk : 0 ≤ k ∧ k ≤ 24
  · have hk' : k = 0 ∨ k = 1 ∨ k = 2 ∨ k = 3 ∨ k = 4 ∨ k = 5 ∨ k = 6 ∨ k = 7 ∨ k = 8 ∨ k = 9 ∨ k = 10 ∨ k = 11 ∨ k = 12 ∨ k = 13 ∨ k = 14 ∨ k = 15 ∨ k = 16 ∨ k = 17 ∨ k = 18 ∨ k = 19 ∨ k = 20 ∨ k = 21 ∨ k = 22 ∨ k = 23 ∨ k = 24 := by omega
    clear hk
    rcases hk' with rfl | rfl | rfl | rfl | rfl | rfl | rfl | rfl | rfl | rfl | rfl | rfl | rfl | rfl | rfl | rfl | rfl | rfl | rfl | rfl | rfl | rfl | rfl | rfl | rfl
    all_goals
      go_enter Tryz.func73, Tryz.ntmps73
      go_wp2
      all_goals
        go_ret
        refine ⟨?_, bel1 (Below.refl _ _) (Nat.le_refl _) _⟩
        refine congrArg (fun b => Ending.returned (Value.bool b)) ?_
        unfold rextraT
        first
          | (simp_all; done)
          | (simp_all; omega)
          | (rw [Bool.eq_iff_iff]; simp_all; done)
          | (rw [Bool.eq_iff_iff]; simp_all; omega)
  · by_cases hneg : k < 0
    · have f1 : ¬ 1 ≤ k := by omega
      have f2 : ¬ k = 14 := by omega
      have f3 : ¬ 17 ≤ k := by omega
      have f4 : ¬ 21 ≤ k := by omega
      have f5 : ¬ k = 23 := by omega
      clear hk
      go_enter Tryz.func73, Tryz.ntmps73
      go_wp2
      all_goals
        go_ret
        refine ⟨?_, bel1 (Below.refl _ _) (Nat.le_refl _) _⟩
        refine congrArg (fun b => Ending.returned (Value.bool b)) ?_
        unfold rextraT
        first
          | (simp_all; done)
          | (simp_all; omega)
          | (rw [Bool.eq_iff_iff]; simp_all; done)
          | (rw [Bool.eq_iff_iff]; simp_all; omega)
    · have f1 : 1 ≤ k := by omega
      have f0 : ¬ k ≤ 16 := by omega
      have f2 : ¬ k = 14 := by omega
      have f3 : 17 ≤ k := by omega
      have f6 : ¬ k ≤ 20 := by omega
      have f4 : 21 ≤ k := by omega
      have f5 : ¬ k = 23 := by omega
      clear hk hneg
      go_enter Tryz.func73, Tryz.ntmps73
      go_wp2
      all_goals
        go_ret
        refine ⟨?_, bel1 (Below.refl _ _) (Nat.le_refl _) _⟩
        refine congrArg (fun b => Ending.returned (Value.bool b)) ?_
        unfold rextraT
        first
          | (simp_all; done)
          | (simp_all; omega)
          | (rw [Bool.eq_iff_iff]; simp_all; done)
          | (rw [Bool.eq_iff_iff]; simp_all; omega)
end Go.Proofs.YthhlpjhkeendcaaGreatDoor
