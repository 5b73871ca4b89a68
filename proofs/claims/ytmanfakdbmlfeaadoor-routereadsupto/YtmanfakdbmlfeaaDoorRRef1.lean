
/- Stage 18: the document's words, names, pieces. -/
import Derived.Test.YtmanfakdbmlfeaaDoorRWay
namespace Go.Proofs.YtmanfakdbmlfeaaDoor
open Go.RowKit
set_option linter.unusedVariables false
set_option linter.unusedSimpArgs false
set_option maxHeartbeats 2000000 in
theorem rword_any (s : ByteArray) (hs : s.size ≤ 281474976710656) (w : World) : Calls Tryd.prog 46 #[.string s] w fun e w' => e = .returned (.bool (wd s)) ∧ w' = w := by
  have HN : Hid (∀ j, j < s.size → lb (s.get! j).toNat = false → wd s = false) := fun j h1 h2 => by rw [wd_mad]; exact mad_no s j h1 h2
  have HY : Hid ((∀ j, j < s.size → lb (s.get! j).toNat = true) → wd s = (decide (1 ≤ s.size) && decide (s.size ≤ 32))) := fun h => by
    rw [wd_mad]
    unfold mad
    rw [show ((List.range s.size).all fun j => lb (s.get! j).toNat) = true from List.all_eq_true.2 (fun j hj => h j (List.mem_range.1 hj)), Bool.and_true]
  go_enter Tryd.func46, Tryd.ntmps46
  go_wp2
  go_loop [3] (fun i => ∃ k : Nat, k ≤ s.size ∧ i = .int .i64 k ∧ Hid (∀ j, j < k → lb (s.get! j).toNat = true)) (fun i => s.size - (intOf i).toNat)
  case atStart => exact ⟨0, Nat.zero_le _, rfl, fun j hj => by omega⟩
  case round =>
    obtain ⟨k, hk, rfl, HK⟩ := hrel
    by_cases hkn : k < s.size
    · have hg := get_at s k hkn
      have hlt : s[k].toNat < 256 := UInt8.toNat_lt _
      go_wp2_with fail
      refine (letter_any s[k].toNat hlt w).mono ?_
      rintro e w' ⟨rfl, rfl⟩
      cases hb : lb s[k].toNat
      · have HF := hide (HN.out k hkn (by rw [hg]; exact hb))
        clear hb
        go_wp2
        go_ret
        exact ⟨by rw [HF.out]; rfl, rfl⟩
      · have HB := hide hb
        clear hb
        go_wp2
        go_round
        case rel => exact ⟨k + 1, by omega, by go_num, fun j hj => by
          by_cases e : j = k
          · subst e; rw [hg]; exact HB.out
          · exact HK.out j (by omega)⟩
        case measure => simp [intOf]; omega
    · have HF := hide (HY.out (fun j hj => HK.out j (by omega)))
      by_cases h1 : 1 ≤ s.size
      · by_cases h2 : s.size ≤ 32
        · have HG : Hid (wd s = true) := by show wd s = true; rw [HF.out]; simp [h1, h2]
          go_wp2
          go_ret
          exact ⟨by rw [HG.out]; first | rfl | (simp; omega), rfl⟩
        · have HG : Hid (wd s = false) := by show wd s = false; rw [HF.out]; simp [h2]
          go_wp2
          go_ret
          exact ⟨by rw [HG.out]; first | rfl | (simp; omega), rfl⟩
      · have HG : Hid (wd s = false) := by show wd s = false; rw [HF.out]; simp [h1]
        go_wp2
        go_ret
        exact ⟨by rw [HG.out]; first | rfl | (simp; omega), rfl⟩
set_option maxHeartbeats 4000000 in
theorem rnamed_any (s : ByteArray) (hs : s.size ≤ 281474976710656) (w : World) : Calls Tryd.prog 35 #[.string s] w fun e w' => e = .returned (.bool (nam s)) ∧ w' = w := by
  have HN : Hid (∀ j, j < s.size → nb (s.get! j).toNat = false → nam s = false) := fun j h1 h2 => by rw [nam_mad]; exact mad_no s j h1 h2
  have HY : Hid ((∀ j, j < s.size → nb (s.get! j).toNat = true) → nam s = (decide (1 ≤ s.size) && decide (s.size ≤ 64))) := fun h => by
    rw [nam_mad]
    unfold mad
    rw [show ((List.range s.size).all fun j => nb (s.get! j).toNat) = true from List.all_eq_true.2 (fun j hj => h j (List.mem_range.1 hj)), Bool.and_true]
  go_enter Tryd.func35, Tryd.ntmps35
  go_wp2
  go_loop [3] (fun i => ∃ k : Nat, k ≤ s.size ∧ i = .int .i64 k ∧ Hid (∀ j, j < k → nb (s.get! j).toNat = true)) (fun i => s.size - (intOf i).toNat)
  case atStart => exact ⟨0, Nat.zero_le _, rfl, fun j hj => by omega⟩
  case round =>
    obtain ⟨k, hk, rfl, HK⟩ := hrel
    by_cases hkn : k < s.size
    · have hg := get_at s k hkn
      have hlt : s[k].toNat < 256 := UInt8.toNat_lt _
      go_wp2_with fail
      refine (letter_any s[k].toNat hlt w).mono ?_
      rintro e w' ⟨rfl, rfl⟩
      cases hb : lb s[k].toNat
      · rcases (show s[k].toNat = 46 ∨ s[k].toNat = 95 ∨ (s[k].toNat ≠ 46 ∧ s[k].toNat ≠ 95) by omega) with h5 | h5 | ⟨h5, h6⟩
        · have b46 : ((s[k].toNat : Int) == 46) = true := by rw [beq_iff_eq]; omega
          have n46 : ((s[k].toNat : Int) != 46) = false := by rw [bne, b46]; rfl
          have b95 : ((s[k].toNat : Int) == 95) = false := by rw [beq_eq_false_iff_ne]; omega
          have n95 : ((s[k].toNat : Int) != 95) = true := by rw [bne, b95]; rfl
          have HB : Hid (nb s[k].toNat = true) := by show nb s[k].toNat = true; rw [h5]; rfl
          clear hb h5
          go_wp2
          go_round
          case rel => exact ⟨k + 1, by omega, by go_num, fun j hj => by
            by_cases e : j = k
            · subst e; rw [hg]; exact HB.out
            · exact HK.out j (by omega)⟩
          case measure => simp [intOf]; omega
        · have b46 : ((s[k].toNat : Int) == 46) = false := by rw [beq_eq_false_iff_ne]; omega
          have n46 : ((s[k].toNat : Int) != 46) = true := by rw [bne, b46]; rfl
          have b95 : ((s[k].toNat : Int) == 95) = true := by rw [beq_iff_eq]; omega
          have n95 : ((s[k].toNat : Int) != 95) = false := by rw [bne, b95]; rfl
          have HB : Hid (nb s[k].toNat = true) := by show nb s[k].toNat = true; rw [h5]; rfl
          clear hb h5
          go_wp2
          go_round
          case rel => exact ⟨k + 1, by omega, by go_num, fun j hj => by
            by_cases e : j = k
            · subst e; rw [hg]; exact HB.out
            · exact HK.out j (by omega)⟩
          case measure => simp [intOf]; omega
        · have b46 : ((s[k].toNat : Int) == 46) = false := by rw [beq_eq_false_iff_ne]; omega
          have n46 : ((s[k].toNat : Int) != 46) = true := by rw [bne, b46]; rfl
          have b95 : ((s[k].toNat : Int) == 95) = false := by rw [beq_eq_false_iff_ne]; omega
          have n95 : ((s[k].toNat : Int) != 95) = true := by rw [bne, b95]; rfl
          have HF := hide (HN.out k hkn (by rw [hg]; unfold nb; rw [hb]; simp [h5, h6]))
          clear hb
          go_wp2
          go_ret
          exact ⟨by rw [HF.out]; rfl, rfl⟩
      · have HB : Hid (nb s[k].toNat = true) := by show nb s[k].toNat = true; unfold nb; rw [hb]; rfl
        clear hb
        go_wp2
        go_round
        case rel => exact ⟨k + 1, by omega, by go_num, fun j hj => by
          by_cases e : j = k
          · subst e; rw [hg]; exact HB.out
          · exact HK.out j (by omega)⟩
        case measure => simp [intOf]; omega
    · have HF := hide (HY.out (fun j hj => HK.out j (by omega)))
      by_cases h1 : 1 ≤ s.size
      · by_cases h2 : s.size ≤ 64
        · have HG : Hid (nam s = true) := by show nam s = true; rw [HF.out]; simp [h1, h2]
          go_wp2
          go_ret
          exact ⟨by rw [HG.out]; first | rfl | (simp; omega), rfl⟩
        · have HG : Hid (nam s = false) := by show nam s = false; rw [HF.out]; simp [h2]
          go_wp2
          go_ret
          exact ⟨by rw [HG.out]; first | rfl | (simp; omega), rfl⟩
      · have HG : Hid (nam s = false) := by show nam s = false; rw [HF.out]; simp [h1]
        go_wp2
        go_ret
        exact ⟨by rw [HG.out]; first | rfl | (simp; omega), rfl⟩
end Go.Proofs.YtmanfakdbmlfeaaDoor
