
/- Stage 17: names. -/
import Derived.Test.YtnbhifakfehefaaKBase
namespace Go.Proofs.Ytnbhifakfehefaa
open Go.RowKit
set_option linter.unusedVariables false
set_option linter.unusedSimpArgs false
/-- a byte of a name -/
def nb (c : Nat) : Bool := decide (97 ≤ c ∧ c ≤ 122) || decide (48 ≤ c ∧ c ≤ 57) || decide (c = 45) || decide (c = 46) || decide (c = 95)
def nameOk (s : ByteArray) : Bool := decide (1 ≤ s.size ∧ s.size ≤ 64) && (List.range s.size).all fun j => nb (s.get! j).toNat
set_option maxHeartbeats 2000000 in
theorem isOfName_any (c : Nat) (hc : c < 256) (w : World) : Calls Try.prog 38 #[.int .u8 (c : Int)] w fun e w' => e = .returned (.bool (nb c)) ∧ w' = w := by
  have hh : ∀ b : Bool, nb c = b → Hid (nb c = b) := fun b h => h
  rcases (show (97 ≤ c ∧ c ≤ 122) ∨ (¬ 97 ≤ c) ∨ (97 ≤ c ∧ ¬ c ≤ 122) by omega) with ⟨h1, h2⟩ | h1 | ⟨h1, h2⟩
  · have HN := hh true (by unfold nb; simp [h1, h2])
    go_enter Try.func38, Try.ntmps38
    go_wp2
    go_ret
    exact ⟨by rw [HN.out]; first | rfl | (simp; omega), rfl⟩
  all_goals
    rcases (show (48 ≤ c ∧ c ≤ 57) ∨ (¬ 48 ≤ c) ∨ (48 ≤ c ∧ ¬ c ≤ 57) by omega) with ⟨h3, h4⟩ | h3 | ⟨h3, h4⟩
    · try omega
      try (
      have HN := hh true (by unfold nb; simp [h3, h4])
      go_enter Try.func38, Try.ntmps38
      go_wp2
      go_ret
      exact ⟨by rw [HN.out]; first | rfl | (simp; omega), rfl⟩)
    all_goals
      rcases (show c = 45 ∨ c = 46 ∨ c = 95 ∨ (c ≠ 45 ∧ c ≠ 46 ∧ c ≠ 95) by omega) with h5 | h5 | h5 | ⟨h5, h6, h7⟩
      · first | omega | (subst h5; go_enter Try.func38, Try.ntmps38; go_wp2; go_ret; exact ⟨rfl, rfl⟩)
      · first | omega | (subst h5; go_enter Try.func38, Try.ntmps38; go_wp2; go_ret; exact ⟨rfl, rfl⟩)
      · first | omega | (subst h5; go_enter Try.func38, Try.ntmps38; go_wp2; go_ret; exact ⟨rfl, rfl⟩)
      · first | omega | (
        have HN := hh false (by unfold nb; simp; omega)
        have b5 : ((c : Int) == 45) = false := by rw [beq_eq_false_iff_ne]; omega
        have b6 : ((c : Int) == 46) = false := by rw [beq_eq_false_iff_ne]; omega
        have b7 : ((c : Int) == 95) = false := by rw [beq_eq_false_iff_ne]; omega
        go_enter Try.func38, Try.ntmps38
        go_wp2
        go_ret
        exact ⟨by rw [HN.out]; first | rfl | (simp; omega), rfl⟩)
theorem get_at (t : ByteArray) (j : Nat) (h : j < t.size) : (t.get! j).toNat = t[j].toNat := by
  have : t.get! j = t[j] := by
    simp only [ByteArray.get!]
    exact getElem!_pos t.data j h
  rw [this]
theorem nameOk_no (s : ByteArray) (j : Nat) (h : j < s.size) (hn : nb (s.get! j).toNat = false) : nameOk s = false := by
  unfold nameOk
  rw [Bool.and_eq_false_iff]
  right
  rw [List.all_eq_false]
  exact ⟨j, List.mem_range.2 h, by simp [hn]⟩
theorem nameOk_yes (s : ByteArray) (h1 : 1 ≤ s.size) (h2 : s.size ≤ 64) (h : ∀ j, j < s.size → nb (s.get! j).toNat = true) : nameOk s = true := by
  unfold nameOk
  simp only [Bool.and_eq_true, decide_eq_true_eq, List.all_eq_true, List.mem_range]
  exact ⟨⟨h1, h2⟩, h⟩
set_option maxHeartbeats 2000000 in
theorem isName_any (s : ByteArray) (hs : s.size ≤ 281474976710656) (w : World) : Calls Try.prog 21 #[.string s] w fun e w' => e = .returned (.bool (nameOk s)) ∧ w' = w := by
  by_cases h1 : 1 ≤ s.size
  · by_cases h2 : s.size ≤ 64
    · have HY : Hid ((∀ j, j < s.size → nb (s.get! j).toNat = true) → nameOk s = true) := nameOk_yes s h1 h2
      have HN : Hid (∀ j, j < s.size → nb (s.get! j).toNat = false → nameOk s = false) := nameOk_no s
      go_enter Try.func21, Try.ntmps21
      go_wp2
      go_loop [14] (fun i => ∃ k : Nat, k ≤ s.size ∧ i = .int .i64 k ∧ Hid (∀ j, j < k → nb (s.get! j).toNat = true)) (fun i => s.size - (intOf i).toNat)
      case atStart => exact ⟨0, Nat.zero_le _, rfl, fun j hj => by omega⟩
      case round =>
        obtain ⟨k, hk, rfl, HK⟩ := hrel
        by_cases hkn : k < s.size
        · have hg := get_at s k hkn
          have hlt : s[k].toNat < 256 := UInt8.toNat_lt _
          go_wp2_with fail
          refine (isOfName_any s[k].toNat hlt w).mono ?_
          rintro e w' ⟨rfl, rfl⟩
          cases hb : nb s[k].toNat
          · have HF := hide (HN.out k hkn (by rw [hg]; exact hb))
            clear hb
            go_wp2
            go_ret
            exact ⟨by rw [HF.out]; rfl, rfl⟩
          · have HB := hide hb
            clear hb
            go_wp2
            go_round
            case rel => exact ⟨k + 1, by omega, by go_num, fun j hj => by
              by_cases e : j = k
              · subst e; rw [hg]; exact HB.out
              · exact HK.out j (by omega)⟩
            case measure => simp [intOf]; omega
        · go_wp2
          go_ret
          exact ⟨by rw [HY.out (fun j hj => HK.out j (by omega))]; rfl, rfl⟩
    · have e : nameOk s = false := by unfold nameOk; simp; omega
      rw [e]
      go_enter Try.func21, Try.ntmps21
      go_wp2
      go_ret
      exact ⟨rfl, rfl⟩
  · have e : nameOk s = false := by unfold nameOk; simp; omega
    rw [e]
    go_enter Try.func21, Try.ntmps21
    go_wp2
    go_ret
    exact ⟨rfl, rfl⟩
set_option maxHeartbeats 4000000 in
theorem refName_any (s : ByteArray) (hs : s.size ≤ 281474976710656) (w : World) : Calls Try.prog 40 #[.string s] w fun e w' => e = .returned (.bool (nameOk s)) ∧ w' = w := by
  by_cases h1 : 1 ≤ s.size
  · by_cases h2 : s.size ≤ 64
    · have HY : Hid ((∀ j, j < s.size → nb (s.get! j).toNat = true) → nameOk s = true) := nameOk_yes s h1 h2
      have HN : Hid (∀ j, j < s.size → nb (s.get! j).toNat = false → nameOk s = false) := nameOk_no s
      go_enter Try.func40, Try.ntmps40
      go_wp2
      go_loop [3] (fun i => ∃ k : Nat, k ≤ s.size ∧ i = .int .i64 k ∧ Hid (∀ j, j < k → nb (s.get! j).toNat = true)) (fun i => s.size - (intOf i).toNat)
      case atStart => exact ⟨0, Nat.zero_le _, rfl, fun j hj => by omega⟩
      case round =>
        obtain ⟨k, hk, rfl, HK⟩ := hrel
        by_cases hkn : k < s.size
        · have hg := get_at s k hkn
          have hlt : s[k].toNat < 256 := UInt8.toNat_lt _
          rcases (show (97 ≤ s[k].toNat ∧ s[k].toNat ≤ 122) ∨ (¬ 97 ≤ s[k].toNat) ∨ (97 ≤ s[k].toNat ∧ ¬ s[k].toNat ≤ 122) by omega) with ⟨h1, h2⟩ | h1 | ⟨h1, h2⟩
          · have HB : Hid (nb s[k].toNat = true) := by show nb s[k].toNat = true; unfold nb; simp; omega
            go_wp2
            go_round
            case rel => exact ⟨k + 1, by omega, by go_num, fun j hj => by
              by_cases e : j = k
              · subst e; rw [hg]; exact HB.out
              · exact HK.out j (by omega)⟩
            case measure => simp [intOf]; omega
          · rcases (show (48 ≤ s[k].toNat ∧ s[k].toNat ≤ 57) ∨ (¬ 48 ≤ s[k].toNat) ∨ (48 ≤ s[k].toNat ∧ ¬ s[k].toNat ≤ 57) by omega) with ⟨h3, h4⟩ | h3 | ⟨h3, h4⟩
            · have HB : Hid (nb s[k].toNat = true) := by show nb s[k].toNat = true; unfold nb; simp; omega
              go_wp2
              go_round
              case rel => exact ⟨k + 1, by omega, by go_num, fun j hj => by
                by_cases e : j = k
                · subst e; rw [hg]; exact HB.out
                · exact HK.out j (by omega)⟩
              case measure => simp [intOf]; omega
            · rcases (show s[k].toNat = 45 ∨ s[k].toNat = 46 ∨ s[k].toNat = 95 ∨ (s[k].toNat ≠ 45 ∧ s[k].toNat ≠ 46 ∧ s[k].toNat ≠ 95) by omega) with h5 | h5 | h5 | ⟨h5, h6, h7⟩
              · have b45 : ((s[k].toNat : Int) == 45) = true := by rw [beq_iff_eq]; omega
                have b46 : ((s[k].toNat : Int) == 46) = false := by rw [beq_eq_false_iff_ne]; omega
                have b95 : ((s[k].toNat : Int) == 95) = false := by rw [beq_eq_false_iff_ne]; omega
                have H5 := hide h5
                clear h5
                have HB : Hid (nb s[k].toNat = true) := by show nb s[k].toNat = true; have := H5.out; unfold nb; simp; omega
                go_wp2
                go_round
                case rel => exact ⟨k + 1, by omega, by go_num, fun j hj => by
                  by_cases e : j = k
                  · subst e; rw [hg]; exact HB.out
                  · exact HK.out j (by omega)⟩
                case measure => simp [intOf]; omega
              · have b45 : ((s[k].toNat : Int) == 45) = false := by rw [beq_eq_false_iff_ne]; omega
                have b46 : ((s[k].toNat : Int) == 46) = true := by rw [beq_iff_eq]; omega
                have b95 : ((s[k].toNat : Int) == 95) = false := by rw [beq_eq_false_iff_ne]; omega
                have H5 := hide h5
                clear h5
                have HB : Hid (nb s[k].toNat = true) := by show nb s[k].toNat = true; have := H5.out; unfold nb; simp; omega
                go_wp2
                go_round
                case rel => exact ⟨k + 1, by omega, by go_num, fun j hj => by
                  by_cases e : j = k
                  · subst e; rw [hg]; exact HB.out
                  · exact HK.out j (by omega)⟩
                case measure => simp [intOf]; omega
              · omega
              · have b45 : ((s[k].toNat : Int) == 45) = false := by rw [beq_eq_false_iff_ne]; omega
                have b46 : ((s[k].toNat : Int) == 46) = false := by rw [beq_eq_false_iff_ne]; omega
                have b95 : ((s[k].toNat : Int) == 95) = false := by rw [beq_eq_false_iff_ne]; omega
                have HF : Hid (nameOk s = false) := HN.out k hkn (by rw [hg]; unfold nb; simp; omega)
                go_wp2
                go_ret
                all_goals first | exact ⟨by rw [HF.out]; rfl, rfl⟩ | (exfalso; simp at *; omega)
            · rcases (show s[k].toNat = 45 ∨ s[k].toNat = 46 ∨ s[k].toNat = 95 ∨ (s[k].toNat ≠ 45 ∧ s[k].toNat ≠ 46 ∧ s[k].toNat ≠ 95) by omega) with h5 | h5 | h5 | ⟨h5, h6, h7⟩
              · omega
              · omega
              · have b45 : ((s[k].toNat : Int) == 45) = false := by rw [beq_eq_false_iff_ne]; omega
                have b46 : ((s[k].toNat : Int) == 46) = false := by rw [beq_eq_false_iff_ne]; omega
                have b95 : ((s[k].toNat : Int) == 95) = true := by rw [beq_iff_eq]; omega
                have H5 := hide h5
                clear h5
                have HB : Hid (nb s[k].toNat = true) := by show nb s[k].toNat = true; have := H5.out; unfold nb; simp; omega
                go_wp2
                go_round
                case rel => exact ⟨k + 1, by omega, by go_num, fun j hj => by
                  by_cases e : j = k
                  · subst e; rw [hg]; exact HB.out
                  · exact HK.out j (by omega)⟩
                case measure => simp [intOf]; omega
              · have b45 : ((s[k].toNat : Int) == 45) = false := by rw [beq_eq_false_iff_ne]; omega
                have b46 : ((s[k].toNat : Int) == 46) = false := by rw [beq_eq_false_iff_ne]; omega
                have b95 : ((s[k].toNat : Int) == 95) = false := by rw [beq_eq_false_iff_ne]; omega
                have HF : Hid (nameOk s = false) := HN.out k hkn (by rw [hg]; unfold nb; simp; omega)
                go_wp2
                go_ret
                all_goals first | exact ⟨by rw [HF.out]; rfl, rfl⟩ | (exfalso; simp at *; omega)
          · rcases (show (48 ≤ s[k].toNat ∧ s[k].toNat ≤ 57) ∨ (¬ 48 ≤ s[k].toNat) ∨ (48 ≤ s[k].toNat ∧ ¬ s[k].toNat ≤ 57) by omega) with ⟨h3, h4⟩ | h3 | ⟨h3, h4⟩
            · omega
            · omega
            · rcases (show s[k].toNat = 45 ∨ s[k].toNat = 46 ∨ s[k].toNat = 95 ∨ (s[k].toNat ≠ 45 ∧ s[k].toNat ≠ 46 ∧ s[k].toNat ≠ 95) by omega) with h5 | h5 | h5 | ⟨h5, h6, h7⟩
              · omega
              · omega
              · omega
              · have b45 : ((s[k].toNat : Int) == 45) = false := by rw [beq_eq_false_iff_ne]; omega
                have b46 : ((s[k].toNat : Int) == 46) = false := by rw [beq_eq_false_iff_ne]; omega
                have b95 : ((s[k].toNat : Int) == 95) = false := by rw [beq_eq_false_iff_ne]; omega
                have HF : Hid (nameOk s = false) := HN.out k hkn (by rw [hg]; unfold nb; simp; omega)
                go_wp2
                go_ret
                all_goals first | exact ⟨by rw [HF.out]; rfl, rfl⟩ | (exfalso; simp at *; omega)
        · go_wp2
          go_ret
          exact ⟨by rw [HY.out (fun j hj => HK.out j (by omega))]; rfl, rfl⟩
    · have e : nameOk s = false := by unfold nameOk; simp; omega
      rw [e]
      go_enter Try.func40, Try.ntmps40
      go_wp2
      go_ret
      exact ⟨rfl, rfl⟩
  · have e : nameOk s = false := by unfold nameOk; simp; omega
    rw [e]
    go_enter Try.func40, Try.ntmps40
    go_wp2
    go_ret
    exact ⟨rfl, rfl⟩
end Go.Proofs.Ytnbhifakfehefaa
