import Derived.Test.YtdcoafpenkofoaaGreatDoorProg
import Derived.Test.YtdcoafpenkofoaaGreatDoorJRdM9
import Derived.WalkLawsBesides
import Derived.Handy
import Derived.Outline
import Derived.Deep.OwnRows

/- octet.isWidth, Put: their contracts. -/
namespace Go.Proofs.YtdcoafpenkofoaaGreatDoor
open Go.RowKit
set_option linter.unusedVariables false

theorem isWidth_yes (x : Int) (w : World) (h1 : 1 ≤ x) (h8 : x ≤ 8) :
    Calls Tryz.prog 190 #[.int .i64 x] w fun e w' => e = .returned (.bool true) ∧ w = w' := by
  go_enter Tryz.func190, Tryz.ntmps190
  go_wp2
  go_ret
  exact ⟨rfl, rfl⟩
theorem isWidth_no (x : Int) (w : World) (h : x < 1 ∨ 8 < x) :
    Calls Tryz.prog 190 #[.int .i64 x] w fun e w' => e = .returned (.bool false) ∧ w = w' := by
  rcases h with h | h
  · go_enter Tryz.func190, Tryz.ntmps190
    go_wp2
    go_ret
    exact ⟨rfl, rfl⟩
  · have h1 : 1 ≤ x := by omega
    have hd : decide (x ≤ 8) = false := by simp; omega
    go_enter Tryz.func190, Tryz.ntmps190
    go_wp2
    go_ret
    exact ⟨rfl, rfl⟩


theorem put_no (N : Int) (x : Int) (w : World) (h : x < 1 ∨ 8 < x) :
    Calls Tryz.prog 189 #[.int .u64 N, .int .i64 x] w fun e w' => e = .returned (.slice none 0 0) ∧ w = w' := by
  go_enter Tryz.func189, Tryz.ntmps189
  go_wp2_with (go_at_call 190; refine (isWidth_no _ _ h).mono ?_; rintro e w' ⟨rfl, rfl⟩)
  go_ret
  exact ⟨rfl, rfl⟩

/-- the k-th byte of a number, the lowest one is the 0-th -/
def dig (N k : Nat) : Nat := N / 256 ^ k % 256

theorem put_row {wr : World} {B N n j p M : Nat} (hrow : wr.rowIs B 5 n (fun i => .int .u8 (if n ≤ i + j then (dig N (n - 1 - i) : Int) else 0))) (hp : p + j + 1 = n) (hM : M = N / 256 ^ j) :
    (wr.setCell ⟨B, p, none⟩ (.int .u8 ((M : Int) % 256))).rowIs B 5 n (fun i => .int .u8 (if n ≤ i + (j + 1) then (dig N (n - 1 - i) : Int) else 0)) := by
  refine (hrow.set p _).congr fun i hi => ?_
  by_cases he : i = p
  · subst he
    rw [if_pos rfl, if_pos (by omega)]
    congr 1
    unfold dig
    rw [show n - 1 - i = j by omega, ← hM]
    omega
  · rw [if_neg he]
    by_cases h2 : n ≤ i + j
    · rw [if_pos h2, if_pos (by omega)]
    · rw [if_neg h2, if_neg (by omega)]
theorem div_step (N j : Nat) : N / 256 ^ j / 256 = N / 256 ^ (j + 1) := by rw [Nat.div_div_eq_div_mul, Nat.pow_succ]

set_option maxHeartbeats 1000000 in
theorem put_yes (N n : Nat) (w : World) (hN : N < 18446744073709551616) (h1 : 1 ≤ n) (h8 : n ≤ 8) :
    Calls Tryz.prog 189 #[.int .u64 (N : Int), .int .i64 (n : Int)] w fun e w' => e = .returned (.slice (some ⟨w.heap.size, 0, none⟩) n n) ∧
      w'.rowIs w.heap.size 5 n (fun i => .int .u8 ((dig N (n - 1 - i) : Nat) : Int)) ∧ w'.heap.size = w.heap.size + 1 ∧ Below w.heap.size w w' := by
  have hmk := run_make_row' (P := Tryz.prog) 23 5 (.int .u8 0) 1 Tryz.underlying23 Tryz.info5 rfl .i64 .i64 n (by omega) (by omega)
  go_enter Tryz.func189, Tryz.ntmps189
  go_wp2_with (go_at_call 190; refine (isWidth_yes _ _ (by omega) (by omega)).mono ?_; rintro e w' ⟨rfl, rfl⟩)
  go_loopw [0, 6] (fun m i wr => ∃ z : Int, ∃ j M : Nat, i = .int .i64 z ∧ m = .int .u64 (M : Int) ∧ M < 18446744073709551616 ∧ z + j + 1 = n ∧ -1 ≤ z ∧ Hid (M = N / 256 ^ j) ∧
      wr.rowIs w.heap.size 5 n (fun i => .int .u8 (if n ≤ i + j then (dig N (n - 1 - i) : Int) else 0)) ∧ wr.heap.size = w.heap.size + 1 ∧ Below w.heap.size w wr) (fun _ i _ => (intOf i + 1).toNat)
  case atStart =>
    refine ⟨_, 0, N, rfl, rfl, hN, by omega, by omega, by simp [Hid], ?_, by simp, (Below.refl _ _).alloc (Nat.le_refl _) _⟩
    exact (World.rowIs_made _ _ _ _).congr (fun i hi => by rw [if_neg (by omega)])
  case round =>
    obtain ⟨z, j, M, rfl, rfl, hM, hz, hz1, HM, hrow, hsz, hb⟩ := hrel
    by_cases hz0 : 0 ≤ z
    · obtain ⟨p, rfl⟩ := Int.eq_ofNat_of_zero_le hz0
      have hc := hrow.cell (show p < n by omega)
      have hf := hrow.frozen p
      generalize (if n ≤ p + j then (dig N (n - 1 - p) : Int) else 0) = old at hc
      have HR : Hid (wr.rowIs w.heap.size 5 n (fun i => .int .u8 (if n ≤ i + j then (dig N (n - 1 - i) : Int) else 0))) := hrow
      clear hrow
      go_wp2
      go_roundw
      case rel =>
        refine ⟨_, j + 1, M / 256, rfl, by go_num, by omega, by omega, by omega, ?_, put_row HR.out (by omega) HM.out, by simpa using hsz, hb.setCell (Nat.le_refl _) _⟩
        show M / 256 = N / 256 ^ (j + 1)
        rw [HM.out, div_step]
      case measure => simp [intOf]
    · have HR : Hid (wr.rowIs w.heap.size 5 n (fun i => .int .u8 (if n ≤ i + j then (dig N (n - 1 - i) : Int) else 0))) := hrow
      clear hrow
      go_wp2
      go_ret
      exact ⟨rfl, HR.out.congr (fun i hi => by rw [if_pos (by omega)]), hsz, hb⟩
end Go.Proofs.YtdcoafpenkofoaaGreatDoor


/- octet.Get's contract. -/
namespace Go.Proofs.YtdcoafpenkofoaaGreatDoor
open Go.RowKit
set_option linter.unusedVariables false

theorem get_width (a : Option Addr) (n cap : Nat) (i x : Int) (w : World) (h : x < 1 ∨ 8 < x) :
    Calls Tryz.prog 183 #[.slice a n cap, .int .i64 i, .int .i64 x] w fun e w' => e = .returned (.tuple #[.int .u64 0, .int .i64 1]) ∧ w = w' := by
  go_enter Tryz.func183, Tryz.ntmps183
  go_wp2_with (go_at_call 190; refine (isWidth_no _ _ h).mono ?_; rintro e w' ⟨rfl, rfl⟩)
  go_ret2
  exact ⟨rfl, rfl⟩
theorem get_place (a : Option Addr) (n cap : Nat) (i x : Int) (w : World) (h1 : 1 ≤ x) (h8 : x ≤ 8) (h : i < 0 ∨ n < i) :
    Calls Tryz.prog 183 #[.slice a n cap, .int .i64 i, .int .i64 x] w fun e w' => e = .returned (.tuple #[.int .u64 0, .int .i64 1]) ∧ w = w' := by
  rcases h with h | h
  · go_enter Tryz.func183, Tryz.ntmps183
    go_wp2_with (go_at_call 190; refine (isWidth_yes _ _ h1 h8).mono ?_; rintro e w' ⟨rfl, rfl⟩)
    go_ret2
    exact ⟨rfl, rfl⟩
  · have h0 : ¬ i < 0 := by omega
    go_enter Tryz.func183, Tryz.ntmps183
    go_wp2_with (go_at_call 190; refine (isWidth_yes _ _ h1 h8).mono ?_; rintro e w' ⟨rfl, rfl⟩)
    go_ret2
    exact ⟨rfl, rfl⟩
theorem get_short (a : Option Addr) (n cap : Nat) (i x : Int) (w : World) (h1 : 1 ≤ x) (h8 : x ≤ 8) (h0 : 0 ≤ i) (hi : i ≤ n) (hn : n ≤ 281474976710656) (hs : n - i < x) :
    Calls Tryz.prog 183 #[.slice a n cap, .int .i64 i, .int .i64 x] w fun e w' => e = .returned (.tuple #[.int .u64 0, .int .i64 10]) ∧ w = w' := by
  go_enter Tryz.func183, Tryz.ntmps183
  go_wp2_with (go_at_call 190; refine (isWidth_yes _ _ h1 h8).mono ?_; rintro e w' ⟨rfl, rfl⟩)
  go_ret2
  exact ⟨rfl, rfl⟩

theorem or_join (m c : Nat) (hm : m < 72057594037927936) (hc : c < 256) : bits .or .u64 ((m : Int) * 256) (c : Int) = ((m * 256 + c : Nat) : Int) := by
  rw [show (m : Int) * 256 = ((m * 256 : Nat) : Int) by omega, Go.u64_or_nat _ _ (by omega) (by omega), Go.nat_join 8 (m * 256) c (by omega) (by omega)]

set_option maxHeartbeats 1000000 in
theorem get_yes (a : Option Addr) (n cap i k : Nat) (l : List Nat) (w : World) (h1 : 1 ≤ k) (h8 : k ≤ 8) (hik : i + k ≤ n) (hcap : n ≤ cap) (hn : n ≤ 281474976710656) (hrd : Rd w a n l) :
    Calls Tryz.prog 183 #[.slice a n cap, .int .i64 (i : Int), .int .i64 (k : Int)] w fun e w' => e = .returned (.tuple #[.int .u64 ((getN ((l.drop i).take k) : Nat) : Int), .int .i64 0]) ∧ w = w' := by
  obtain ⟨b, off, rfl, hlt, hc⟩ := hrd.2.2 (by omega)
  have hlen := hrd.1
  have HB : Hid (∀ c ∈ (l.drop i).take k, c < 256) := fun c hc => hrd.2.1 c (List.mem_of_mem_drop (List.mem_of_mem_take hc))
  have HC : Hid (∀ j, j < k → w.cell? ⟨b, off + i + j, none⟩ = some (.int .u8 ((((l.drop i).take k).getD j 0 : Nat) : Int))) := fun j hj => by
    have := hc (i + j) (by omega)
    rw [show off + i + j = off + (i + j) by omega, this]
    simp [List.getD_eq_getElem?_getD, List.getElem?_drop, hj]
  have hlen2 : ((l.drop i).take k).length = k := by simp; omega
  clear hc hrd hlen
  generalize (l.drop i).take k = t at *
  go_enter Tryz.func183, Tryz.ntmps183
  go_wp2_with (go_at_call 190; refine (isWidth_yes _ _ (by omega) (by omega)).mono ?_; rintro e w' ⟨rfl, rfl⟩)
  go_loop [8, 37] (fun m i => ∃ j : Nat, j ≤ k ∧ i = .int .i64 j ∧ m = .int .u64 ((getN (t.take j) : Nat) : Int)) (fun _ i => k - (intOf i).toNat)
  case atStart => exact ⟨0, Nat.zero_le _, rfl, rfl⟩
  case round =>
    obtain ⟨j, hj, rfl, rfl⟩ := hrel
    by_cases hjk : j < k
    · have hc := HC.out j hjk
      have hm : getN (t.take j) < 72057594037927936 := by
        have h1 := getN_lt (t.take j) (fun c hc => HB.out c (List.mem_of_mem_take hc))
        have h2 : 256 ^ (t.take j).length ≤ 256 ^ 7 := Nat.pow_le_pow_right (by omega) (by rw [List.length_take]; omega)
        have h3 : (256 : Nat) ^ 7 = 72057594037927936 := by decide
        omega
      have hcl : t.getD j 0 < 256 := by
        rw [List.getD_eq_getElem?_getD, List.getElem?_eq_getElem (by omega)]
        exact HB.out _ (List.getElem_mem _)
      have HS : Hid (getN (t.take (j + 1)) = getN (t.take j) * 256 + t.getD j 0) := by
        rw [take_snocN _ _ (by omega), getN_snoc]; exact rfl
      have he := or_join (getN (t.take j)) (t.getD j 0) hm hcl
      generalize getN (t.take j) = m at *
      generalize t.getD j 0 = y at *
      go_wp2
      go_round
      case rel => exact ⟨j + 1, by omega, by go_num, by rw [HS.out]; go_num⟩
      case measure => simp [intOf]; omega
    · have hjk' : j = k := by omega
      subst hjk'
      have HF : Hid (t.take j = t) := List.take_of_length_le (by omega)
      go_wp2
      go_ret2
      rw [HF.out]
      exact ⟨rfl, rfl⟩
end Go.Proofs.YtdcoafpenkofoaaGreatDoor
