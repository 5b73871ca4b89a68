/- The document's check sum: longshoreref01's Step and Sum. -/
import Derived.Test.YtjgdebifomkkcabDoorSum
namespace Go.Proofs.YtjgdebifomkkcabDoor
open Go.RowKit
set_option linter.unusedVariables false

theorem bsN_succ (k x : Nat) : Oc.bsN (k + 1) x = Oc.bs (Oc.bsN k x) := by rw [Oc.bsN_add]; rfl
set_option maxHeartbeats 1000000 in
theorem step_any (R c : Nat) (w : World) (hR : R < 4294967296) (hc : c < 256) :
    Calls Tryd.prog 24 #[.int .u32 (R : Int), .int .u8 (c : Int)] w fun e w' => e = .returned (.int .u32 ((Oc.stp R c : Nat) : Int)) ∧ w = w' := by
  rw [Oc.stp_eq]
  have hx : R ^^^ c < 4294967296 := Nat.xor_lt_two_pow (n := 32) hR (by omega)
  have e1 := Go.u32_xor_nat R c hR (by omega)
  generalize R ^^^ c = x at *
  go_enter Tryd.func24, Tryd.ntmps24
  go_wp2
  go_loop [5, 6] (fun r i => ∃ k : Nat, k ≤ 8 ∧ i = .int .i64 k ∧ r = .int .u32 ((Oc.bsN k x : Nat) : Int)) (fun _ i => 8 - (intOf i).toNat)
  case atStart => exact ⟨0, by omega, rfl, rfl⟩
  case round =>
    obtain ⟨k, hk, rfl, rfl⟩ := hrel
    by_cases hk8 : k < 8
    · have hy := Oc.bsN_lt k x hx
      have HS := hide (bsN_succ k x)
      generalize Oc.bsN k x = y at *
      by_cases ho : y % 2 = 1
      · have HB : Hid (Oc.bs y = y / 2 ^^^ Oc.poly) := by show _ = _; unfold Oc.bs; rw [if_pos ho]
        have ho' : ((y : Int) % 2 == 1) = true := by simp; omega
        have e3 : bits .xor .u32 ((y : Int) / 2) 3988292384 = ((y / 2 ^^^ Oc.poly : Nat) : Int) := by
          rw [show (y : Int) / 2 = ((y / 2 : Nat) : Int) by omega]
          exact Go.u32_xor_nat (y / 2) 3988292384 (by omega) (by decide)
        clear ho
        go_wp2
        go_round
        case rel => exact ⟨k + 1, by omega, by go_num, by rw [HS.out, HB.out]⟩
        case measure => simp [intOf]; omega
      · have HB : Hid (Oc.bs y = y / 2) := by show _ = _; unfold Oc.bs; rw [if_neg ho]
        have ho' : ((y : Int) % 2 == 1) = false := by simp; omega
        clear ho
        go_wp2
        go_round
        case rel => exact ⟨k + 1, by omega, by go_num, by rw [HS.out, HB.out]; go_num⟩
        case measure => simp [intOf]; omega
    · have hk' : k = 8 := by omega
      subst hk'
      go_wp2
      go_ret
      exact ⟨rfl, rfl⟩

set_option maxHeartbeats 1000000 in
theorem refsum_any (pb po n cap : Nat) (ls : List (List Nat)) (w : World) (hn : n ≤ 140737488355328) (hl : ls.length = n)
    (hp : ∀ k, k < n → ∃ x m c, w.cell? ⟨pb, po + k, none⟩ = some (.slice x m c) ∧ m ≤ 140737488355328 ∧ Rd w x m (ls.getD k [])) :
    Calls Tryd.prog 17 #[.slice (some ⟨pb, po, none⟩) n cap] w fun e w' => e = .returned (.int .u32 ((4294967295 ^^^ Oc.crc 4294967295 ls.flatten : Nat) : Int)) ∧ w = w' := by
  go_enter Tryd.func17, Tryd.ntmps17
  have HP := hide hp
  have hfl : ∀ k, k < ls.length → ∀ c ∈ ls.getD k [], c < 256 := fun k hk => by
    obtain ⟨_, _, _, _, _, h⟩ := hp k (by omega)
    exact h.2.1
  have HL : Hid (∀ k, ∀ c ∈ (ls.take k).flatten, c < 256) := fun k => flat_lt hfl k
  clear hp hfl
  go_wp2
  go_loop [3, 4] (fun r i => ∃ k : Nat, k ≤ n ∧ i = .int .i64 k ∧ r = .int .u32 ((Oc.crc 4294967295 (ls.take k).flatten : Nat) : Int)) (fun _ i => n - (intOf i).toNat)
  case atStart => exact ⟨0, Nat.zero_le _, rfl, rfl⟩
  case round =>
    obtain ⟨k, hk, rfl, rfl⟩ := hrel
    by_cases hkn : k < n
    · obtain ⟨x, m, c, hcell, hm, hrd⟩ := HP.out k hkn
      have hR : Oc.crc 4294967295 (ls.take k).flatten < 4294967296 := Oc.crc_lt _ _ (by omega) (HL.out k)
      have HS := hide (crc_flat_snoc 4294967295 ls k (by omega))
      generalize Oc.crc 4294967295 (ls.take k).flatten = R at *
      generalize ls.getD k [] = l at *
      have HR := hide hrd
      clear hrd
      go_wp2
      go_loop [3, 5] (fun r i => ∃ j : Nat, j ≤ m ∧ i = .int .i64 j ∧ r = .int .u32 ((Oc.crc R (l.take j) : Nat) : Int)) (fun _ i => m - (intOf i).toNat)
      case atStart => exact ⟨0, Nat.zero_le _, rfl, rfl⟩
      case round =>
        obtain ⟨j, hj, rfl, rfl⟩ := hrel
        by_cases hjm : j < m
        · obtain ⟨b, off, rfl, hblt, hc0⟩ := HR.out.2.2 (by omega)
          have hc := hc0 j hjm
          have hcl := HR.out.lt j hjm
          have hq : Oc.crc R (l.take j) < 4294967296 := Oc.crc_lt _ _ hR (take_lt HR.out.2.1 j)
          have HS2 : Hid (Oc.crc R (l.take (j + 1)) = Oc.stp (Oc.crc R (l.take j)) (l.getD j 0)) := by rw [take_snocN _ _ (by rw [HR.out.1]; exact hjm), Oc.crc_snoc]; exact rfl
          generalize l.getD j 0 = y at *
          generalize Oc.crc R (l.take j) = q at *
          clear hc0
          have HC := hide (step_any q y w hq hcl)
          go_wp2_with (go_at_call 24; refine HC.out.mono ?_; rintro e w1 ⟨rfl, rfl⟩)
          go_round
          case rel => exact ⟨j + 1, by omega, by go_num, by rw [HS2.out]⟩
          case measure => simp [intOf]; omega
        · have hjm' : j = m := by omega
          subst hjm'
          have HF : Hid (l.take j = l) := List.take_of_length_le (by rw [HR.out.1]; omega)
          go_wp2
          go_round
          case rel => exact ⟨k + 1, by omega, by go_num, by rw [HS.out, HF.out]⟩
          case measure => simp [intOf]; omega
    · have hkn' : k = n := by omega
      subst hkn'
      have HF : Hid (ls.take k = ls) := List.take_of_length_le (by omega)
      have hq : Oc.crc 4294967295 ls.flatten < 4294967296 := Oc.crc_lt _ _ (by omega) (by have := HL.out k; rwa [HF.out] at this)
      go_wp2
      go_ret
      rw [HF.out]
      generalize Oc.crc 4294967295 ls.flatten = q at *
      refine ⟨ret_int ?_, rfl⟩
      rw [Nat.xor_comm]
      exact Go.u32_xor_nat q 4294967295 hq (by omega)
theorem refsum_none (a : Option Addr) (cap : Nat) (w : World) :
    Calls Tryd.prog 17 #[.slice a 0 cap] w fun e w' => e = .returned (.int .u32 0) ∧ w = w' := by
  go_enter Tryd.func17, Tryd.ntmps17
  go_wp2
  refine wp_loop_rounds 1 ?_
  rw [rounds_succ]
  go_wp2
  go_ret
  exact ⟨rfl, rfl⟩
end Go.Proofs.YtjgdebifomkkcabDoor
