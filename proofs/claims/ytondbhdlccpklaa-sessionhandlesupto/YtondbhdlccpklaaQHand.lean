
/- Stage 13: Handle, note, Deliver, Arrive. -/
import Derived.Test.YtondbhdlccpklaaQMap
import Derived.Deep.RegionHeld
namespace Go.Proofs.Ytondbhdlccpklaa
open Go.RowKit Go.Maps
set_option linter.unusedVariables false
set_option linter.unusedSimpArgs false

theorem wf_nat {n : Nat} (h : n ≤ 281474976710656) : wf64 (n : Int) := wf_of (by omega) (by omega)
theorem wf_word {n : Int} (h : 0 ≤ n ∧ n ≤ 4294967295) : wf64 n := wf_of (by omega) (by omega)
set_option maxRecDepth 100000 in
theorem handle_down (g : Nat) (s : Sn) (w : World) (hS : SB w g s) (hp : s.peer = false) :
    Calls Try.prog 27 #[.pointer (some ⟨g, 0, none⟩)] w fun e w' => e = .returned (.tuple #[.int .i64 0, .int .i64 4]) ∧ w' = w := by
  obtain ⟨s0, s1, s2, s3, s4, s5, s6, s7, s8, s9, s10, s11, s12, s13, s14, s15, s16⟩ := hS.facts
  have hl := hS.lt
  rw [hp] at s0
  clear hS hp
  go_enter Try.func27, Try.ntmps27
  go_wp2
  go_ret2
  exact ⟨rfl, rfl⟩
set_option maxRecDepth 100000 in
theorem handle_yes (g : Nat) (s : Sn) (H : List (Int × Int)) (h : Nat) (w : World) (hS : SB w g s) (hT : TbI w s.bh H) (hp : s.peer = true) (hl : H.length < maxLen) (h64 : h < 64) (hrh : (h : Int) ≤ s.rh) (hall : ∀ j : Nat, j < h → hasK H j = true) (hfree : hasK H h = false) :
    Calls Try.prog 27 #[.pointer (some ⟨g, 0, none⟩)] w fun e w' => e = .returned (.tuple #[.int .i64 h, .int .i64 0]) ∧ TbI w' s.bh ((h, -1) :: H) ∧ Kp (fun q => q = s.bh) w w' := by
  obtain ⟨s0, s1, s2, s3, s4, s5, s6, s7, s8, s9, s10, s11, s12, s13, s14, s15, s16⟩ := hS.facts
  have hlg := hS.lt
  rw [hp] at s0
  have HT := hide hT
  have HL := hide hl
  have HA := hide hall
  have HF := hide hfree
  clear hS hp hT hl hall hfree
  go_enter Try.func27, Try.ntmps27
  go_wp2
  go_loopw [4] (fun i wr => ∃ j : Nat, i = .int .i64 j ∧ j ≤ h ∧ wr = w) (fun i _ => h - (intOf i).toNat)
  case atStart => exact ⟨0, rfl, by omega, rfl⟩
  case round =>
    obtain ⟨j, rfl, hj, rfl⟩ := hrel
    have hj64 : (j : Int) < 64 := by omega
    have hjr : (j : Int) ≤ s.rh := by omega
    have HC := hide (hasI_any s.bh H j wr HT.out (wf_nat (by omega)))
    by_cases hjh : j < h
    · rw [HA.out j hjh] at HC
      go_wp2_with (go_at_call 54; refine HC.out.mono ?_; rintro e1 w1 ⟨rfl, rfl⟩)
      go_roundw
      case rel => exact ⟨j + 1, by go_num, by omega, by trivial⟩
      case measure => simp [intOf]; omega
    · obtain rfl : j = h := by omega
      rw [HF.out] at HC
      go_wp2_with (first | (go_at_call 54; refine HC.out.mono ?_; rintro e1 w1 ⟨rfl, rfl⟩) | (at_mapUpdate; refine put_I rfl _ _ _ rfl s.bh rfl j (-1) rfl rfl H HT.out (wf_nat (by omega)) HL.out ?_; intro w2 T2 K2 z2))
      go_ret2
      rw [filter_none (any_not.1 HF.out)] at T2
      exact ⟨rfl, T2, K2⟩
set_option maxRecDepth 100000 in
theorem handle_full (g : Nat) (s : Sn) (H : List (Int × Int)) (w : World) (hS : SB w g s) (hT : TbI w s.bh H) (hp : s.peer = true) (hr0 : 0 ≤ s.rh) (hall : ∀ j : Nat, j < 64 → (j : Int) ≤ s.rh → hasK H j = true) :
    Calls Try.prog 27 #[.pointer (some ⟨g, 0, none⟩)] w fun e w' => e = .returned (.tuple #[.int .i64 0, .int .i64 132]) ∧ w' = w := by
  obtain ⟨s0, s1, s2, s3, s4, s5, s6, s7, s8, s9, s10, s11, s12, s13, s14, s15, s16⟩ := hS.facts
  have hlg := hS.lt
  rw [hp] at s0
  have HT := hide hT
  have HA := hide hall
  clear hS hp hT hall
  go_enter Try.func27, Try.ntmps27
  go_wp2
  go_loopw [4] (fun i wr => ∃ j : Nat, i = .int .i64 j ∧ j ≤ 64 ∧ wr = w) (fun i _ => 64 - (intOf i).toNat)
  case atStart => exact ⟨0, rfl, by omega, rfl⟩
  case round =>
    obtain ⟨j, rfl, hj, rfl⟩ := hrel
    have HC := hide (hasI_any s.bh H j wr HT.out (wf_nat (by omega)))
    by_cases hj64 : (j : Int) < 64
    · by_cases hjr : (j : Int) ≤ s.rh
      · rw [HA.out j (by omega) hjr] at HC
        go_wp2_with (go_at_call 54; refine HC.out.mono ?_; rintro e1 w1 ⟨rfl, rfl⟩)
        go_roundw
        case rel => exact ⟨j + 1, by go_num, by omega, by trivial⟩
        case measure => simp [intOf]; omega
      · go_wp2
        go_ret2
        exact ⟨rfl, rfl⟩
    · go_wp2
      go_ret2
      exact ⟨rfl, rfl⟩
end Go.Proofs.Ytondbhdlccpklaa
