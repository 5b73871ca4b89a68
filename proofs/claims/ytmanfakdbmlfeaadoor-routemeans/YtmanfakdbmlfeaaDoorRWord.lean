
/- Stage 18: bytes, words, names. -/
import Derived.Test.YtmanfakdbmlfeaaDoorRBase
import Derived.Test.YtmanfakdbmlfeaaDoorRLack
namespace Go.Proofs.YtmanfakdbmlfeaaDoor
open Go.RowKit
set_option linter.unusedVariables false
set_option linter.unusedSimpArgs false
set_option maxHeartbeats 2000000 in
theorem isOfWord_any (c : Nat) (hc : c < 256) (w : World) : Calls Tryd.prog 59 #[.int .u8 (c : Int)] w fun e w' => e = .returned (.bool (lb c)) ∧ w' = w := by
  have hh : ∀ b : Bool, lb c = b → Hid (lb c = b) := fun b h => h
  rcases (show (97 ≤ c ∧ c ≤ 122) ∨ (¬ 97 ≤ c) ∨ (97 ≤ c ∧ ¬ c ≤ 122) by omega) with ⟨h1, h2⟩ | h1 | ⟨h1, h2⟩
  · have HN := hh true (by unfold lb; simp [h1, h2])
    go_enter Tryd.func59, Tryd.ntmps59
    go_wp2
    go_ret
    exact ⟨by rw [HN.out]; first | rfl | (simp; omega), rfl⟩
  all_goals
    rcases (show (48 ≤ c ∧ c ≤ 57) ∨ (¬ 48 ≤ c) ∨ (48 ≤ c ∧ ¬ c ≤ 57) by omega) with ⟨h3, h4⟩ | h3 | ⟨h3, h4⟩
    · try omega
      try (
      have HN := hh true (by unfold lb; simp [h3, h4])
      go_enter Tryd.func59, Tryd.ntmps59
      go_wp2
      go_ret
      exact ⟨by rw [HN.out]; first | rfl | (simp; omega), rfl⟩)
    all_goals
      rcases (show c = 45 ∨ (c ≠ 45) by omega) with h5 | h5
      · first | omega | (subst h5; go_enter Tryd.func59, Tryd.ntmps59; go_wp2; go_ret; exact ⟨rfl, rfl⟩)
      · first | omega | (
        have HN := hh false (by unfold lb; simp; omega)
        have b5 : ((c : Int) == 45) = false := by rw [beq_eq_false_iff_ne]; omega
        go_enter Tryd.func59, Tryd.ntmps59
        go_wp2
        go_ret
        exact ⟨by rw [HN.out]; first | rfl | (simp; omega), rfl⟩)
set_option maxHeartbeats 2000000 in
theorem isOfName_any (c : Nat) (hc : c < 256) (w : World) : Calls Tryd.prog 50 #[.int .u8 (c : Int)] w fun e w' => e = .returned (.bool (nb c)) ∧ w' = w := by
  cases hl : lb c
  · rcases (show c = 46 ∨ c = 95 ∨ (c ≠ 46 ∧ c ≠ 95) by omega) with h5 | h5 | ⟨h5, h6⟩
    · subst h5
      go_enter Tryd.func50, Tryd.ntmps50
      go_wp2_with fail
      refine (isOfWord_any 46 hc w).mono ?_
      rintro e w' ⟨rfl, rfl⟩
      rw [hl]
      go_wp2
      go_ret
      exact ⟨rfl, rfl⟩
    · subst h5
      go_enter Tryd.func50, Tryd.ntmps50
      go_wp2_with fail
      refine (isOfWord_any 95 hc w).mono ?_
      rintro e w' ⟨rfl, rfl⟩
      rw [hl]
      go_wp2
      go_ret
      exact ⟨rfl, rfl⟩
    · have HN : Hid (nb c = false) := by show nb c = false; unfold nb; rw [hl]; simp; omega
      have b5 : ((c : Int) == 46) = false := by rw [beq_eq_false_iff_ne]; omega
      have b6 : ((c : Int) == 95) = false := by rw [beq_eq_false_iff_ne]; omega
      have HL := hide hl
      clear hl
      go_enter Tryd.func50, Tryd.ntmps50
      go_wp2_with fail
      refine (isOfWord_any c hc w).mono ?_
      rintro e w' ⟨rfl, rfl⟩
      rw [HL.out]
      go_wp2
      go_ret
      exact ⟨by rw [HN.out]; rfl, rfl⟩
  · have HN : Hid (nb c = true) := by show nb c = true; unfold nb; rw [hl]; rfl
    have HL := hide hl
    clear hl
    go_enter Tryd.func50, Tryd.ntmps50
    go_wp2_with fail
    refine (isOfWord_any c hc w).mono ?_
    rintro e w' ⟨rfl, rfl⟩
    rw [HL.out]
    go_wp2
    go_ret
    exact ⟨by rw [HN.out]; rfl, rfl⟩
set_option maxHeartbeats 2000000 in
theorem letter_any (c : Nat) (hc : c < 256) (w : World) : Calls Tryd.prog 52 #[.int .u8 (c : Int)] w fun e w' => e = .returned (.bool (lb c)) ∧ w' = w := by
  have hh : ∀ b : Bool, lb c = b → Hid (lb c = b) := fun b h => h
  rcases (show (97 ≤ c ∧ c ≤ 122) ∨ (¬ 97 ≤ c) ∨ (97 ≤ c ∧ ¬ c ≤ 122) by omega) with ⟨h1, h2⟩ | h1 | ⟨h1, h2⟩
  · have HN := hh true (by unfold lb; simp [h1, h2])
    go_enter Tryd.func52, Tryd.ntmps52
    go_wp2
    go_ret
    exact ⟨by rw [HN.out]; first | rfl | (simp; omega), rfl⟩
  all_goals
    rcases (show (48 ≤ c ∧ c ≤ 57) ∨ (¬ 48 ≤ c) ∨ (48 ≤ c ∧ ¬ c ≤ 57) by omega) with ⟨h3, h4⟩ | h3 | ⟨h3, h4⟩
    · try omega
      try (
      have HN := hh true (by unfold lb; simp [h3, h4])
      go_enter Tryd.func52, Tryd.ntmps52
      go_wp2
      go_ret
      exact ⟨by rw [HN.out]; first | rfl | (simp; omega), rfl⟩)
    all_goals
      rcases (show c = 45 ∨ (c ≠ 45) by omega) with h5 | h5
      · first | omega | (subst h5; go_enter Tryd.func52, Tryd.ntmps52; go_wp2; go_ret; exact ⟨rfl, rfl⟩)
      · first | omega | (
        have HN := hh false (by unfold lb; simp; omega)
        have b5 : ((c : Int) == 45) = false := by rw [beq_eq_false_iff_ne]; omega
        go_enter Tryd.func52, Tryd.ntmps52
        go_wp2
        go_ret
        exact ⟨by rw [HN.out]; first | rfl | (simp; omega), rfl⟩)
/-- all bytes, by their places -/
theorem all_at (f : Nat → Bool) (s : ByteArray) : (s.data.toList.all fun c => f c.toNat) = (List.range s.size).all fun j => f (s.get! j).toNat := by
  rw [Bool.eq_iff_iff, List.all_eq_true, List.all_eq_true]
  have hsz : s.data.toList.length = s.size := Array.length_toList
  have hg : ∀ j (h : j < s.size), s.data.toList[j]'(by omega) = s.get! j := fun j h => by
    simp only [ByteArray.get!]
    rw [getElem!_pos s.data j h]
    simp
  constructor
  · intro h j hj
    rw [List.mem_range] at hj
    rw [← hg j hj]
    exact h _ (List.getElem_mem _)
  · intro h c hc
    obtain ⟨j, hj, rfl⟩ := List.mem_iff_getElem.1 hc
    rw [hg j (by omega)]
    exact h j (List.mem_range.2 (by omega))
/-- made of so many bytes of one sort -/
def mad (f : Nat → Bool) (m : Nat) (s : ByteArray) : Bool := decide (1 ≤ s.size) && decide (s.size ≤ m) && (List.range s.size).all fun j => f (s.get! j).toNat
theorem wd_mad (s : ByteArray) : wd s = mad lb 32 s := by unfold wd mad ltr; rw [all_at lb s]
theorem nam_mad (s : ByteArray) : nam s = mad nb 64 s := by unfold nam mad nltr; rw [all_at nb s]
theorem mad_no {f : Nat → Bool} {m : Nat} (s : ByteArray) (j : Nat) (h : j < s.size) (hn : f (s.get! j).toNat = false) : mad f m s = false := by
  unfold mad
  rw [Bool.and_eq_false_iff]
  right
  rw [List.all_eq_false]
  exact ⟨j, List.mem_range.2 h, by simp [hn]⟩
theorem mad_yes {f : Nat → Bool} {m : Nat} (s : ByteArray) (h1 : 1 ≤ s.size) (h2 : s.size ≤ m) (h : ∀ j, j < s.size → f (s.get! j).toNat = true) : mad f m s = true := by
  unfold mad
  simp only [Bool.and_eq_true, decide_eq_true_eq, List.all_eq_true, List.mem_range]
  exact ⟨⟨h1, h2⟩, h⟩
set_option maxHeartbeats 2000000 in
theorem made_word (s : ByteArray) (hs : s.size ≤ 281474976710656) (w : World) : Calls Tryd.prog 49 #[.string s, .int .i64 32, .func (.func 59) #[] #[]] w fun e w' => e = .returned (.bool (mad lb 32 s)) ∧ w' = w := by
  by_cases h1 : 1 ≤ s.size
  · by_cases h2 : s.size ≤ 32
    · have HY : Hid ((∀ j, j < s.size → lb (s.get! j).toNat = true) → mad lb 32 s = true) := mad_yes s h1 h2
      have HN : Hid (∀ j, j < s.size → lb (s.get! j).toNat = false → mad lb 32 s = false) := mad_no s
      go_enter Tryd.func49, Tryd.ntmps49
      go_wp2
      go_loop [19] (fun i => ∃ k : Nat, k ≤ s.size ∧ i = .int .i64 k ∧ Hid (∀ j, j < k → lb (s.get! j).toNat = true)) (fun i => s.size - (intOf i).toNat)
      case atStart => exact ⟨0, Nat.zero_le _, rfl, fun j hj => by omega⟩
      case round =>
        obtain ⟨k, hk, rfl, HK⟩ := hrel
        by_cases hkn : k < s.size
        · have hg := get_at s k hkn
          have hlt : s[k].toNat < 256 := UInt8.toNat_lt _
          go_wp2_with fail
          refine (isOfWord_any s[k].toNat hlt w).mono ?_
          rintro e w' ⟨rfl, rfl⟩
          cases hb : lb s[k].toNat
          · have HF := hide (HN.out k hkn (by rw [hg]; exact hb))
            clear hb
            go_wp2
            go_ret
            exact ⟨by rw [HF.out]; rfl, rfl⟩
          · have HB := hide hb
            clear hb
            go_wp2
            go_round
            case rel => exact ⟨k + 1, by omega, by go_num, fun j hj => by
              by_cases e : j = k
              · subst e; rw [hg]; exact HB.out
              · exact HK.out j (by omega)⟩
            case measure => simp [intOf]; omega
        · go_wp2
          go_ret
          exact ⟨by rw [HY.out (fun j hj => HK.out j (by omega))]; rfl, rfl⟩
    · have e : mad lb 32 s = false := by unfold mad; simp; omega
      rw [e]
      go_enter Tryd.func49, Tryd.ntmps49
      go_wp2
      go_ret
      exact ⟨rfl, rfl⟩
  · have e : mad lb 32 s = false := by unfold mad; simp; omega
    rw [e]
    go_enter Tryd.func49, Tryd.ntmps49
    go_wp2
    go_ret
    exact ⟨rfl, rfl⟩
set_option maxHeartbeats 2000000 in
theorem made_name (s : ByteArray) (hs : s.size ≤ 281474976710656) (w : World) : Calls Tryd.prog 49 #[.string s, .int .i64 64, .func (.func 50) #[] #[]] w fun e w' => e = .returned (.bool (mad nb 64 s)) ∧ w' = w := by
  by_cases h1 : 1 ≤ s.size
  · by_cases h2 : s.size ≤ 64
    · have HY : Hid ((∀ j, j < s.size → nb (s.get! j).toNat = true) → mad nb 64 s = true) := mad_yes s h1 h2
      have HN : Hid (∀ j, j < s.size → nb (s.get! j).toNat = false → mad nb 64 s = false) := mad_no s
      go_enter Tryd.func49, Tryd.ntmps49
      go_wp2
      go_loop [19] (fun i => ∃ k : Nat, k ≤ s.size ∧ i = .int .i64 k ∧ Hid (∀ j, j < k → nb (s.get! j).toNat = true)) (fun i => s.size - (intOf i).toNat)
      case atStart => exact ⟨0, Nat.zero_le _, rfl, fun j hj => by omega⟩
      case round =>
        obtain ⟨k, hk, rfl, HK⟩ := hrel
        by_cases hkn : k < s.size
        · have hg := get_at s k hkn
          have hlt : s[k].toNat < 256 := UInt8.toNat_lt _
          go_wp2_with fail
          refine (isOfName_any s[k].toNat hlt w).mono ?_
          rintro e w' ⟨rfl, rfl⟩
          cases hb : nb s[k].toNat
          · have HF := hide (HN.out k hkn (by rw [hg]; exact hb))
            clear hb
            go_wp2
            go_ret
            exact ⟨by rw [HF.out]; rfl, rfl⟩
          · have HB := hide hb
            clear hb
            go_wp2
            go_round
            case rel => exact ⟨k + 1, by omega, by go_num, fun j hj => by
              by_cases e : j = k
              · subst e; rw [hg]; exact HB.out
              · exact HK.out j (by omega)⟩
            case measure => simp [intOf]; omega
        · go_wp2
          go_ret
          exact ⟨by rw [HY.out (fun j hj => HK.out j (by omega))]; rfl, rfl⟩
    · have e : mad nb 64 s = false := by unfold mad; simp; omega
      rw [e]
      go_enter Tryd.func49, Tryd.ntmps49
      go_wp2
      go_ret
      exact ⟨rfl, rfl⟩
  · have e : mad nb 64 s = false := by unfold mad; simp; omega
    rw [e]
    go_enter Tryd.func49, Tryd.ntmps49
    go_wp2
    go_ret
    exact ⟨rfl, rfl⟩
set_option maxHeartbeats 1000000 in
theorem isWord_any (s : ByteArray) (hs : s.size ≤ 281474976710656) (w : World) : Calls Tryd.prog 43 #[.string s] w fun e w' => e = .returned (.bool (wd s)) ∧ w' = w := by
  have HM : Hid (wd s = mad lb 32 s) := wd_mad s
  go_enter Tryd.func43, Tryd.ntmps43
  go_wp2_with fail
  refine (made_word s hs w).mono ?_
  rintro e w' ⟨rfl, rfl⟩
  go_wp2
  go_ret
  exact ⟨by rw [HM.out]; rfl, rfl⟩
set_option maxHeartbeats 1000000 in
theorem isName_any (s : ByteArray) (hs : s.size ≤ 281474976710656) (w : World) : Calls Tryd.prog 33 #[.string s] w fun e w' => e = .returned (.bool (nam s)) ∧ w' = w := by
  have HM : Hid (nam s = mad nb 64 s) := nam_mad s
  go_enter Tryd.func33, Tryd.ntmps33
  go_wp2_with fail
  refine (made_name s hs w).mono ?_
  rintro e w' ⟨rfl, rfl⟩
  go_wp2
  go_ret
  exact ⟨by rw [HM.out]; rfl, rfl⟩
end Go.Proofs.YtmanfakdbmlfeaaDoor
