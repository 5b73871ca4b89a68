/- The two ways to tell a character agree; longshoreref01's Utf8 and Ascii. -/
import Derived.Test.YtjgdebifomkkcaaDoorRef8
namespace Go.Proofs.YtjgdebifomkkcaaDoor
open Go.RowKit
set_option linter.unusedVariables false

theorem tl0 (s : ByteArray) (i : Nat) : tlB s i 0 = true := rfl
theorem tl1 (s : ByteArray) (i : Nat) : tlB s i 1 = wi s i 128 191 := by simp [tlB]
theorem tl2 (s : ByteArray) (i : Nat) : tlB s i 2 = (wi s i 128 191 && wi s (i + 1) 128 191) := by
  unfold tlB
  rw [show List.range 2 = [0, 1] from rfl]
  simp
/-- the same, over plain numbers -/
def chN (n b0 b1 b2 b3 : Nat) : Nat :=
  if b0 ≤ 127 then 1
  else if (194 ≤ b0 ∧ b0 ≤ 223) ∧ (1 < n ∧ 128 ≤ b1 ∧ b1 ≤ 191) then 2
  else if ((b0 = 224 ∧ (1 < n ∧ 160 ≤ b1 ∧ b1 ≤ 191)) ∨ ((225 ≤ b0 ∧ b0 ≤ 236) ∧ (1 < n ∧ 128 ≤ b1 ∧ b1 ≤ 191)) ∨ (b0 = 237 ∧ (1 < n ∧ 128 ≤ b1 ∧ b1 ≤ 159)) ∨ ((238 ≤ b0 ∧ b0 ≤ 239) ∧ (1 < n ∧ 128 ≤ b1 ∧ b1 ≤ 191))) ∧ (2 < n ∧ 128 ≤ b2 ∧ b2 ≤ 191) then 3
  else if ((b0 = 240 ∧ (1 < n ∧ 144 ≤ b1 ∧ b1 ≤ 191)) ∨ ((241 ≤ b0 ∧ b0 ≤ 243) ∧ (1 < n ∧ 128 ≤ b1 ∧ b1 ≤ 191)) ∨ (b0 = 244 ∧ (1 < n ∧ 128 ≤ b1 ∧ b1 ≤ 143))) ∧ (2 < n ∧ 128 ≤ b2 ∧ b2 ≤ 191) ∧ (3 < n ∧ 128 ≤ b3 ∧ b3 ≤ 191) then 4 else 0
set_option maxRecDepth 100000 in
set_option maxHeartbeats 4000000 in
theorem chN_dec (n b0 b1 b2 b3 : Nat) (hn : 1 ≤ n) (h0 : b0 < 256) (h1 : b1 < 256) (h2 : b2 < 256) (h3 : b3 < 256) :
    chN n b0 b1 b2 b3 = if (Lib.decodeN n b0 b1 b2 b3).1 = 65533 ∧ (Lib.decodeN n b0 b1 b2 b3).2 = 1 then 0 else (Lib.decodeN n b0 b1 b2 b3).2 := by
  unfold chN Lib.decodeN
  by_cases c0 : b0 < 128
  · simp only [c0, if_true]
    rw [if_pos (by omega), if_neg (by omega)]
  · rw [if_neg c0, if_neg (by omega)]
    by_cases c1 : b0 / 32 = 6 ∧ (1 < n ∧ b1 / 64 = 2)
    · rw [if_pos c1]
      by_cases d1 : b0 % 32 * 64 + b1 % 64 ≥ 128
      · rw [if_pos d1, if_pos (by omega), if_neg (by simp)]
      · rw [if_neg d1, if_neg (by omega), if_neg (by omega), if_neg (by omega), if_pos (by simp)]
    · rw [if_neg c1, if_neg (by omega)]
      by_cases c2 : b0 / 16 = 14 ∧ (1 < n ∧ b1 / 64 = 2) ∧ (2 < n ∧ b2 / 64 = 2)
      · rw [if_pos c2]
        by_cases d2 : b0 % 16 * 4096 + b1 % 64 * 64 + b2 % 64 ≥ 2048 ∧ (b0 % 16 * 4096 + b1 % 64 * 64 + b2 % 64 < 55296 ∨ (57344 ≤ b0 % 16 * 4096 + b1 % 64 * 64 + b2 % 64 ∧ b0 % 16 * 4096 + b1 % 64 * 64 + b2 % 64 ≤ 1114111))
        · rw [if_pos d2, if_pos (by omega), if_neg (by simp)]
        · rw [if_neg d2, if_neg (by omega), if_neg (by omega), if_pos (by simp)]
      · rw [if_neg c2, if_neg (by omega)]
        by_cases c3 : b0 / 8 = 30 ∧ (1 < n ∧ b1 / 64 = 2) ∧ (2 < n ∧ b2 / 64 = 2) ∧ (3 < n ∧ b3 / 64 = 2)
        · rw [if_pos c3]
          by_cases d3 : b0 % 8 * 262144 + b1 % 64 * 4096 + b2 % 64 * 64 + b3 % 64 ≥ 65536 ∧ (b0 % 8 * 262144 + b1 % 64 * 4096 + b2 % 64 * 64 + b3 % 64 < 55296 ∨ (57344 ≤ b0 % 8 * 262144 + b1 % 64 * 4096 + b2 % 64 * 64 + b3 % 64 ∧ b0 % 8 * 262144 + b1 % 64 * 4096 + b2 % 64 * 64 + b3 % 64 ≤ 1114111))
          · rw [if_pos d3, if_pos (by omega), if_neg (by simp)]
          · rw [if_neg d3, if_neg (by omega), if_pos (by simp)]
        · rw [if_neg c3, if_neg (by omega), if_pos (by simp)]

theorem ite4 {A B C D A' B' C' D' : Prop} {_ : Decidable A} {_ : Decidable B} {_ : Decidable C} {_ : Decidable D} {_ : Decidable A'} {_ : Decidable B'} {_ : Decidable C'} {_ : Decidable D'}
    (hA : A ↔ A') (hB : B ↔ B') (hC : C ↔ C') (hD : D ↔ D') :
    (if A then (1 : Int) else if B then 2 else if C then 3 else if D then 4 else 0) = ((if A' then 1 else if B' then 2 else if C' then 3 else if D' then 4 else 0 : Nat) : Int) := by
  by_cases a : A'
  · rw [if_pos (hA.2 a), if_pos a]; rfl
  · rw [if_neg (fun h => a (hA.1 h)), if_neg a]
    by_cases b : B'
    · rw [if_pos (hB.2 b), if_pos b]; rfl
    · rw [if_neg (fun h => b (hB.1 h)), if_neg b]
      by_cases c : C'
      · rw [if_pos (hC.2 c), if_pos c]; rfl
      · rw [if_neg (fun h => c (hC.1 h)), if_neg c]
        by_cases d : D'
        · rw [if_pos (hD.2 d), if_pos d]; rfl
        · rw [if_neg (fun h => d (hD.1 h)), if_neg d]; rfl
set_option maxRecDepth 100000 in
set_option maxHeartbeats 4000000 in
theorem chZ_eq (s : ByteArray) (i : Nat) (h : i < s.size) : chZ s i = ((chN (s.size - i) (s.get! i).toNat (s.get! (i + 1)).toNat (s.get! (i + 2)).toNat (s.get! (i + 3)).toNat : Nat) : Int) := by
  unfold chZ chN prB
  simp only [tl0, tl1, tl2, Bool.and_true, Nat.add_assoc, Nat.reduceAdd, wi, Bool.and_eq_true, Bool.or_eq_true, decide_eq_true_eq]
  simp only [gb]
  exact ite4 (by omega) (by omega) (by omega) (by omega)
theorem char_eq (s : ByteArray) (i : Nat) (h : i < s.size) : chZ s i = ((if (dec s i).1 = 65533 ∧ (dec s i).2 = 1 then 0 else (dec s i).2 : Nat) : Int) := by
  rw [chZ_eq s i h, chN_dec _ _ _ _ _ (by omega) (UInt8.toNat_lt _) (UInt8.toNat_lt _) (UInt8.toNat_lt _) (UInt8.toNat_lt _)]
  rfl

set_option maxRecDepth 100000 in
set_option maxHeartbeats 400000 in
theorem refUtf8_any (s : ByteArray) (w : World) (hs : s.size ≤ 281474976710656) :
    Calls Tryd.prog 19 #[.string s] w fun e w' => e = .returned (.int .i64 (utfZ s 0)) ∧ w = w' := by
  go_enter Tryd.func19, Tryd.ntmps19
  go_wp2
  go_loop [3] (fun i => ∃ k : Nat, k ≤ s.size ∧ i = .int .i64 k ∧ Hid (utfZ s k = utfZ s 0)) (fun i => s.size - (intOf i).toNat)
  case atStart => exact ⟨0, Nat.zero_le _, rfl, rfl⟩
  case round =>
    obtain ⟨k, hk, rfl, HU⟩ := hrel
    by_cases hks : k < s.size
    · have hc := char_any s k w hs (by omega)
      rw [char_eq s k hks] at hc
      have hle := dec_le s k hks
      by_cases hbad : (dec s k).1 = 65533 ∧ (dec s k).2 = 1
      · have HB := utfZ_bad s k hks hbad
        rw [HU.out] at HB
        have HB' : Hid (utfZ s 0 = k) := HB
        rw [if_pos hbad] at hc
        have HC := hide hc
        clear HB hc hbad hle
        go_wp2_with (go_at_call 30; refine HC.out.mono ?_; rintro e w1 ⟨rfl, rfl⟩)
        go_ret
        exact ⟨ret_int (by rw [HB'.out]), rfl⟩
      · have HG := utfZ_good s k hks hbad
        rw [HU.out] at HG
        have HG' : Hid (utfZ s 0 = utfZ s (k + (dec s k).2)) := HG
        rw [if_neg hbad] at hc
        have HC := hide hc
        clear HG hc hbad
        generalize (dec s k).2 = d2 at *
        go_wp2_with (go_at_call 30; refine HC.out.mono ?_; rintro e w1 ⟨rfl, rfl⟩)
        go_round
        case rel => exact ⟨k + d2, by omega, by go_num, HG'.out.symm⟩
        case measure => simp [intOf]; omega
    · have HE : Hid (utfZ s 0 = -1) := by rw [← HU.out]; exact utfZ_end s k hks
      go_wp2
      go_ret
      exact ⟨ret_int (by rw [HE.out]), rfl⟩

set_option maxRecDepth 100000 in
set_option maxHeartbeats 400000 in
theorem refAscii_any (s : ByteArray) (w : World) (hs : s.size ≤ 281474976710656) :
    Calls Tryd.prog 21 #[.string s] w fun e w' => ∃ z, e = .returned (.int .i64 z) ∧ Asc s z ∧ w = w' := by
  go_enter Tryd.func21, Tryd.ntmps21
  go_wp2
  go_loop [3] (fun i => ∃ k : Nat, k ≤ s.size ∧ i = .int .i64 k ∧ Hid (∀ j (_ : j < k) (_ : j < s.size), s[j].toNat < 128)) (fun i => s.size - (intOf i).toNat)
  case atStart => exact ⟨0, Nat.zero_le _, rfl, fun j h => absurd h (Nat.not_lt_zero _)⟩
  case round =>
    obtain ⟨k, hk, rfl, HA⟩ := hrel
    by_cases hks : k < s.size
    · go_wp2
      · have hb : (127 : Int) < (s[k].toNat : Int) := by assumption
        go_ret
        exact ⟨_, rfl, .inr ⟨k, hks, rfl, by omega, fun j h => HA.out j h (by omega)⟩, rfl⟩
      · have hb : (s[k].toNat : Int) ≤ (127 : Int) := by assumption
        go_round
        case rel =>
          refine ⟨k + 1, by omega, by go_num, fun j h1 h2 => ?_⟩
          by_cases h3 : j < k
          · exact HA.out j h3 h2
          · obtain rfl : j = k := by omega
            omega
        case measure => simp [intOf]; omega
    · go_wp2
      go_ret
      exact ⟨_, rfl, .inl ⟨rfl, fun j h => HA.out j (by omega) h⟩, rfl⟩
end Go.Proofs.YtjgdebifomkkcaaDoor
