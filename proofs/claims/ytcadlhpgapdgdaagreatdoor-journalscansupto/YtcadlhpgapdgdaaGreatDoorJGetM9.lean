import Derived.Test.YtcadlhpgapdgdaaGreatDoorJPutM9

/- octet.Get's contract. -/
namespace Go.Proofs.YtcadlhpgapdgdaaGreatDoor
open Go.RowKit
set_option linter.unusedVariables false

theorem get_width (a : Option Addr) (n cap : Nat) (i x : Int) (w : World) (h : x < 1 ∨ 8 < x) :
    Calls Tryz.prog 183 #[.slice a n cap, .int .i64 i, .int .i64 x] w fun e w' => e = .returned (.tuple #[.int .u64 0, .int .i64 1]) ∧ w = w' := by
  go_enter Tryz.func183, Tryz.ntmps183
  go_wp2_with (go_at_call 190; refine (isWidth_no _ _ h).mono ?_; rintro e w' ⟨rfl, rfl⟩)
  go_ret2
  exact ⟨rfl, rfl⟩
theorem get_place (a : Option Addr) (n cap : Nat) (i x : Int) (w : World) (h1 : 1 ≤ x) (h8 : x ≤ 8) (h : i < 0 ∨ n < i) :
    Calls Tryz.prog 183 #[.slice a n cap, .int .i64 i, .int .i64 x] w fun e w' => e = .returned (.tuple #[.int .u64 0, .int .i64 1]) ∧ w = w' := by
  rcases h with h | h
  · go_enter Tryz.func183, Tryz.ntmps183
    go_wp2_with (go_at_call 190; refine (isWidth_yes _ _ h1 h8).mono ?_; rintro e w' ⟨rfl, rfl⟩)
    go_ret2
    exact ⟨rfl, rfl⟩
  · have h0 : ¬ i < 0 := by omega
    go_enter Tryz.func183, Tryz.ntmps183
    go_wp2_with (go_at_call 190; refine (isWidth_yes _ _ h1 h8).mono ?_; rintro e w' ⟨rfl, rfl⟩)
    go_ret2
    exact ⟨rfl, rfl⟩
theorem get_short (a : Option Addr) (n cap : Nat) (i x : Int) (w : World) (h1 : 1 ≤ x) (h8 : x ≤ 8) (h0 : 0 ≤ i) (hi : i ≤ n) (hn : n ≤ 281474976710656) (hs : n - i < x) :
    Calls Tryz.prog 183 #[.slice a n cap, .int .i64 i, .int .i64 x] w fun e w' => e = .returned (.tuple #[.int .u64 0, .int .i64 10]) ∧ w = w' := by
  go_enter Tryz.func183, Tryz.ntmps183
  go_wp2_with (go_at_call 190; refine (isWidth_yes _ _ h1 h8).mono ?_; rintro e w' ⟨rfl, rfl⟩)
  go_ret2
  exact ⟨rfl, rfl⟩

theorem or_join (m c : Nat) (hm : m < 72057594037927936) (hc : c < 256) : bits .or .u64 ((m : Int) * 256) (c : Int) = ((m * 256 + c : Nat) : Int) := by
  rw [show (m : Int) * 256 = ((m * 256 : Nat) : Int) by omega, Go.u64_or_nat _ _ (by omega) (by omega), Go.nat_join 8 (m * 256) c (by omega) (by omega)]

set_option maxHeartbeats 1000000 in
theorem get_yes (a : Option Addr) (n cap i k : Nat) (l : List Nat) (w : World) (h1 : 1 ≤ k) (h8 : k ≤ 8) (hik : i + k ≤ n) (hcap : n ≤ cap) (hn : n ≤ 281474976710656) (hrd : Rd w a n l) :
    Calls Tryz.prog 183 #[.slice a n cap, .int .i64 (i : Int), .int .i64 (k : Int)] w fun e w' => e = .returned (.tuple #[.int .u64 ((getN ((l.drop i).take k) : Nat) : Int), .int .i64 0]) ∧ w = w' := by
  obtain ⟨b, off, rfl, hlt, hc⟩ := hrd.2.2 (by omega)
  have hlen := hrd.1
  have HB : Hid (∀ c ∈ (l.drop i).take k, c < 256) := fun c hc => hrd.2.1 c (List.mem_of_mem_drop (List.mem_of_mem_take hc))
  have HC : Hid (∀ j, j < k → w.cell? ⟨b, off + i + j, none⟩ = some (.int .u8 ((((l.drop i).take k).getD j 0 : Nat) : Int))) := fun j hj => by
    have := hc (i + j) (by omega)
    rw [show off + i + j = off + (i + j) by omega, this]
    simp [List.getD_eq_getElem?_getD, List.getElem?_drop, hj]
  have hlen2 : ((l.drop i).take k).length = k := by simp; omega
  clear hc hrd hlen
  generalize (l.drop i).take k = t at *
  go_enter Tryz.func183, Tryz.ntmps183
  go_wp2_with (go_at_call 190; refine (isWidth_yes _ _ (by omega) (by omega)).mono ?_; rintro e w' ⟨rfl, rfl⟩)
  go_loop [8, 37] (fun m i => ∃ j : Nat, j ≤ k ∧ i = .int .i64 j ∧ m = .int .u64 ((getN (t.take j) : Nat) : Int)) (fun _ i => k - (intOf i).toNat)
  case atStart => exact ⟨0, Nat.zero_le _, rfl, rfl⟩
  case round =>
    obtain ⟨j, hj, rfl, rfl⟩ := hrel
    by_cases hjk : j < k
    · have hc := HC.out j hjk
      have hm : getN (t.take j) < 72057594037927936 := by
        have h1 := getN_lt (t.take j) (fun c hc => HB.out c (List.mem_of_mem_take hc))
        have h2 : 256 ^ (t.take j).length ≤ 256 ^ 7 := Nat.pow_le_pow_right (by omega) (by rw [List.length_take]; omega)
        have h3 : (256 : Nat) ^ 7 = 72057594037927936 := by decide
        omega
      have hcl : t.getD j 0 < 256 := by
        rw [List.getD_eq_getElem?_getD, List.getElem?_eq_getElem (by omega)]
        exact HB.out _ (List.getElem_mem _)
      have HS : Hid (getN (t.take (j + 1)) = getN (t.take j) * 256 + t.getD j 0) := by
        rw [take_snocN _ _ (by omega), getN_snoc]; exact rfl
      have he := or_join (getN (t.take j)) (t.getD j 0) hm hcl
      generalize getN (t.take j) = m at *
      generalize t.getD j 0 = y at *
      go_wp2
      go_round
      case rel => exact ⟨j + 1, by omega, by go_num, by rw [HS.out]; go_num⟩
      case measure => simp [intOf]; omega
    · have hjk' : j = k := by omega
      subst hjk'
      have HF : Hid (t.take j = t) := List.take_of_length_le (by omega)
      go_wp2
      go_ret2
      rw [HF.out]
      exact ⟨rfl, rfl⟩
end Go.Proofs.YtcadlhpgapdgdaaGreatDoor
