import Derived.Test.YtcadlhpgapdgdaaGreatDoorProg
import Derived.Test.YtcadlhpgapdgdaaGreatDoorJRdM9
import Derived.WalkLawsBesides
import Derived.Handy
import Derived.Outline
import Derived.Deep.OwnRows

/- octet.isWidth, Put: their contracts. -/
namespace Go.Proofs.YtcadlhpgapdgdaaGreatDoor
open Go.RowKit
set_option linter.unusedVariables false

theorem isWidth_yes (x : Int) (w : World) (h1 : 1 ≤ x) (h8 : x ≤ 8) :
    Calls Tryz.prog 190 #[.int .i64 x] w fun e w' => e = .returned (.bool true) ∧ w = w' := by
  go_enter Tryz.func190, Tryz.ntmps190
  go_wp2
  go_ret
  exact ⟨rfl, rfl⟩
theorem isWidth_no (x : Int) (w : World) (h : x < 1 ∨ 8 < x) :
    Calls Tryz.prog 190 #[.int .i64 x] w fun e w' => e = .returned (.bool false) ∧ w = w' := by
  rcases h with h | h
  · go_enter Tryz.func190, Tryz.ntmps190
    go_wp2
    go_ret
    exact ⟨rfl, rfl⟩
  · have h1 : 1 ≤ x := by omega
    have hd : decide (x ≤ 8) = false := by simp; omega
    go_enter Tryz.func190, Tryz.ntmps190
    go_wp2
    go_ret
    exact ⟨rfl, rfl⟩


theorem put_no (N : Int) (x : Int) (w : World) (h : x < 1 ∨ 8 < x) :
    Calls Tryz.prog 189 #[.int .u64 N, .int .i64 x] w fun e w' => e = .returned (.slice none 0 0) ∧ w = w' := by
  go_enter Tryz.func189, Tryz.ntmps189
  go_wp2_with (go_at_call 190; refine (isWidth_no _ _ h).mono ?_; rintro e w' ⟨rfl, rfl⟩)
  go_ret
  exact ⟨rfl, rfl⟩

/-- the k-th byte of a number, the lowest one is the 0-th -/
def dig (N k : Nat) : Nat := N / 256 ^ k % 256

theorem put_row {wr : World} {B N n j p M : Nat} (hrow : wr.rowIs B 5 n (fun i => .int .u8 (if n ≤ i + j then (dig N (n - 1 - i) : Int) else 0))) (hp : p + j + 1 = n) (hM : M = N / 256 ^ j) :
    (wr.setCell ⟨B, p, none⟩ (.int .u8 ((M : Int) % 256))).rowIs B 5 n (fun i => .int .u8 (if n ≤ i + (j + 1) then (dig N (n - 1 - i) : Int) else 0)) := by
  refine (hrow.set p _).congr fun i hi => ?_
  by_cases he : i = p
  · subst he
    rw [if_pos rfl, if_pos (by omega)]
    congr 1
    unfold dig
    rw [show n - 1 - i = j by omega, ← hM]
    omega
  · rw [if_neg he]
    by_cases h2 : n ≤ i + j
    · rw [if_pos h2, if_pos (by omega)]
    · rw [if_neg h2, if_neg (by omega)]
theorem div_step (N j : Nat) : N / 256 ^ j / 256 = N / 256 ^ (j + 1) := by rw [Nat.div_div_eq_div_mul, Nat.pow_succ]

set_option maxHeartbeats 1000000 in
theorem put_yes (N n : Nat) (w : World) (hN : N < 18446744073709551616) (h1 : 1 ≤ n) (h8 : n ≤ 8) :
    Calls Tryz.prog 189 #[.int .u64 (N : Int), .int .i64 (n : Int)] w fun e w' => e = .returned (.slice (some ⟨w.heap.size, 0, none⟩) n n) ∧
      w'.rowIs w.heap.size 5 n (fun i => .int .u8 ((dig N (n - 1 - i) : Nat) : Int)) ∧ w'.heap.size = w.heap.size + 1 ∧ Below w.heap.size w w' := by
  have hmk := run_make_row' (P := Tryz.prog) 23 5 (.int .u8 0) 1 Tryz.underlying23 Tryz.info5 rfl .i64 .i64 n (by omega) (by omega)
  go_enter Tryz.func189, Tryz.ntmps189
  go_wp2_with (go_at_call 190; refine (isWidth_yes _ _ (by omega) (by omega)).mono ?_; rintro e w' ⟨rfl, rfl⟩)
  go_loopw [0, 6] (fun m i wr => ∃ z : Int, ∃ j M : Nat, i = .int .i64 z ∧ m = .int .u64 (M : Int) ∧ M < 18446744073709551616 ∧ z + j + 1 = n ∧ -1 ≤ z ∧ Hid (M = N / 256 ^ j) ∧
      wr.rowIs w.heap.size 5 n (fun i => .int .u8 (if n ≤ i + j then (dig N (n - 1 - i) : Int) else 0)) ∧ wr.heap.size = w.heap.size + 1 ∧ Below w.heap.size w wr) (fun _ i _ => (intOf i + 1).toNat)
  case atStart =>
    refine ⟨_, 0, N, rfl, rfl, hN, by omega, by omega, by simp [Hid], ?_, by simp, (Below.refl _ _).alloc (Nat.le_refl _) _⟩
    exact (World.rowIs_made _ _ _ _).congr (fun i hi => by rw [if_neg (by omega)])
  case round =>
    obtain ⟨z, j, M, rfl, rfl, hM, hz, hz1, HM, hrow, hsz, hb⟩ := hrel
    by_cases hz0 : 0 ≤ z
    · obtain ⟨p, rfl⟩ := Int.eq_ofNat_of_zero_le hz0
      have hc := hrow.cell (show p < n by omega)
      have hf := hrow.frozen p
      generalize (if n ≤ p + j then (dig N (n - 1 - p) : Int) else 0) = old at hc
      have HR : Hid (wr.rowIs w.heap.size 5 n (fun i => .int .u8 (if n ≤ i + j then (dig N (n - 1 - i) : Int) else 0))) := hrow
      clear hrow
      go_wp2
      go_roundw
      case rel =>
        refine ⟨_, j + 1, M / 256, rfl, by go_num, by omega, by omega, by omega, ?_, put_row HR.out (by omega) HM.out, by simpa using hsz, hb.setCell (Nat.le_refl _) _⟩
        show M / 256 = N / 256 ^ (j + 1)
        rw [HM.out, div_step]
      case measure => simp [intOf]
    · have HR : Hid (wr.rowIs w.heap.size 5 n (fun i => .int .u8 (if n ≤ i + j then (dig N (n - 1 - i) : Int) else 0))) := hrow
      clear hrow
      go_wp2
      go_ret
      exact ⟨rfl, HR.out.congr (fun i hi => by rw [if_pos (by omega)]), hsz, hb⟩
end Go.Proofs.YtcadlhpgapdgdaaGreatDoor
