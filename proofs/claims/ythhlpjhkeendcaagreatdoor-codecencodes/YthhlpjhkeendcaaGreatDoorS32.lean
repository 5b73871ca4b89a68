/- VSpell -/
import Derived.Test.YthhlpjhkeendcaaGreatDoorS23
import Derived.Test.YthhlpjhkeendcaaGreatDoorS27
import Derived.Test.YthhlpjhkeendcaaGreatDoorS31
namespace Go.Proofs.YthhlpjhkeendcaaGreatDoor
open Go.RowKit
set_option linter.unusedVariables false
set_option linter.unusedSimpArgs false
def chN (n b0 b1 b2 b3 : Nat) : Nat :=
  if b0 ≤ 127 then 1
  else if (194 ≤ b0 ∧ b0 ≤ 223) ∧ (1 < n ∧ 128 ≤ b1 ∧ b1 ≤ 191) then 2
  else if ((b0 = 224 ∧ (1 < n ∧ 160 ≤ b1 ∧ b1 ≤ 191)) ∨ ((225 ≤ b0 ∧ b0 ≤ 236) ∧ (1 < n ∧ 128 ≤ b1 ∧ b1 ≤ 191)) ∨ (b0 = 237 ∧ (1 < n ∧ 128 ≤ b1 ∧ b1 ≤ 159)) ∨ ((238 ≤ b0 ∧ b0 ≤ 239) ∧ (1 < n ∧ 128 ≤ b1 ∧ b1 ≤ 191))) ∧ (2 < n ∧ 128 ≤ b2 ∧ b2 ≤ 191) then 3
  else if ((b0 = 240 ∧ (1 < n ∧ 144 ≤ b1 ∧ b1 ≤ 191)) ∨ ((241 ≤ b0 ∧ b0 ≤ 243) ∧ (1 < n ∧ 128 ≤ b1 ∧ b1 ≤ 191)) ∨ (b0 = 244 ∧ (1 < n ∧ 128 ≤ b1 ∧ b1 ≤ 143))) ∧ (2 < n ∧ 128 ≤ b2 ∧ b2 ≤ 191) ∧ (3 < n ∧ 128 ≤ b3 ∧ b3 ≤ 191) then 4 else 0
set_option maxRecDepth 100000 in
set_option maxHeartbeats 4000000 in
theorem chN_dec (n b0 b1 b2 b3 : Nat) (hn : 1 ≤ n) (h0 : b0 < 256) (h1 : b1 < 256) (h2 : b2 < 256) (h3 : b3 < 256) :
    chN n b0 b1 b2 b3 = if (Lib.decodeN n b0 b1 b2 b3).1 = 65533 ∧ (Lib.decodeN n b0 b1 b2 b3).2 = 1 then 0 else (Lib.decodeN n b0 b1 b2 b3).2 := by
  unfold chN Lib.decodeN
  by_cases c0 : b0 < 128
  · simp only [c0, if_true]
    rw [if_pos (by omega), if_neg (by omega)]
  · rw [if_neg c0, if_neg (by omega)]
    by_cases c1 : b0 / 32 = 6 ∧ (1 < n ∧ b1 / 64 = 2)
    · rw [if_pos c1]
      by_cases d1 : b0 % 32 * 64 + b1 % 64 ≥ 128
      · rw [if_pos d1, if_pos (by omega), if_neg (by simp)]
      · rw [if_neg d1, if_neg (by omega), if_neg (by omega), if_neg (by omega), if_pos (by simp)]
    · rw [if_neg c1, if_neg (by omega)]
      by_cases c2 : b0 / 16 = 14 ∧ (1 < n ∧ b1 / 64 = 2) ∧ (2 < n ∧ b2 / 64 = 2)
      · rw [if_pos c2]
        by_cases d2 : b0 % 16 * 4096 + b1 % 64 * 64 + b2 % 64 ≥ 2048 ∧ (b0 % 16 * 4096 + b1 % 64 * 64 + b2 % 64 < 55296 ∨ (57344 ≤ b0 % 16 * 4096 + b1 % 64 * 64 + b2 % 64 ∧ b0 % 16 * 4096 + b1 % 64 * 64 + b2 % 64 ≤ 1114111))
        · rw [if_pos d2, if_pos (by omega), if_neg (by simp)]
        · rw [if_neg d2, if_neg (by omega), if_neg (by omega), if_pos (by simp)]
      · rw [if_neg c2, if_neg (by omega)]
        by_cases c3 : b0 / 8 = 30 ∧ (1 < n ∧ b1 / 64 = 2) ∧ (2 < n ∧ b2 / 64 = 2) ∧ (3 < n ∧ b3 / 64 = 2)
        · rw [if_pos c3]
          by_cases d3 : b0 % 8 * 262144 + b1 % 64 * 4096 + b2 % 64 * 64 + b3 % 64 ≥ 65536 ∧ (b0 % 8 * 262144 + b1 % 64 * 4096 + b2 % 64 * 64 + b3 % 64 < 55296 ∨ (57344 ≤ b0 % 8 * 262144 + b1 % 64 * 4096 + b2 % 64 * 64 + b3 % 64 ∧ b0 % 8 * 262144 + b1 % 64 * 4096 + b2 % 64 * 64 + b3 % 64 ≤ 1114111))
          · rw [if_pos d3, if_pos (by omega), if_neg (by simp)]
          · rw [if_neg d3, if_neg (by omega), if_pos (by simp)]
        · rw [if_neg c3, if_neg (by omega), if_pos (by simp)]
theorem get_at (t : ByteArray) (j : Nat) (h : j < t.size) : (t.get! j).toNat = t[j].toNat := by
  have : t.get! j = t[j] := by
    simp only [ByteArray.get!]
    exact getElem!_pos t.data j h
  rw [this]
theorem lt256 (b : UInt8) : b.toNat < 256 := UInt8.toNat_lt b
set_option maxRecDepth 100000 in
set_option maxHeartbeats 4000000 in
theorem rletter_any (t : ByteArray) (w : World) (h1 : 1 ≤ t.size) (hs : t.size ≤ 281474976710656) :
    Calls Tryz.prog 106 #[.string t] w fun e w' => e = .returned (.int .i64 (chN t.size (t.get! 0).toNat (t.get! 1).toNat (t.get! 2).toNat (t.get! 3).toNat : Nat)) ∧ w' = w := by
  have h0 : 0 < t.size := by omega
  have hb0 := lt256 t[0]
  rw [get_at t 0 h0]
  by_cases c0 : t[0].toNat < 128
  · have HR : Hid (chN t.size t[0].toNat (t.get! 1).toNat (t.get! 2).toNat (t.get! 3).toNat = 1) := by
      show chN t.size t[0].toNat (t.get! 1).toNat (t.get! 2).toNat (t.get! 3).toNat = 1
      unfold chN
      rw [if_pos (by omega)]
    go_enter Tryz.func106, Tryz.ntmps106
    go_wp2
    go_ret
    exact ⟨by rw [HR.out]; rfl, rfl⟩
  by_cases c2 : 194 ≤ t[0].toNat ∧ t[0].toNat < 224
  · obtain ⟨cl2, ch2⟩ := c2
    by_cases hl : t.size < 2
    · go_enter Tryz.func106, Tryz.ntmps106
      go_wp2
      go_ret
      refine ⟨?_, rfl⟩
      first
        | (rw [show chN _ _ _ _ _ = 0 by unfold chN; rw [if_neg (by omega), if_neg (by omega), if_neg (by omega), if_neg (by omega)]]; rfl)
        | (rw [show chN _ _ _ _ _ = 2 by unfold chN; rw [if_neg (by omega), if_pos (by omega)]]; rfl)
        | (rw [show chN _ _ _ _ _ = 3 by unfold chN; rw [if_neg (by omega), if_neg (by omega), if_pos (by omega)]]; rfl)
        | (rw [show chN _ _ _ _ _ = 4 by unfold chN; rw [if_neg (by omega), if_neg (by omega), if_neg (by omega), if_pos (by omega)]]; rfl)
    · have hl1 : 1 < t.size := by omega
      rw [get_at t 1 hl1]
      have hb1 := lt256 t[1]
      go_enter Tryz.func106, Tryz.ntmps106
      go_wp2_with fail
      have HC := hide (And.intro c0 (And.intro cl2 ch2))
      rename_i x1 x2 x3 x4 kk aa
      clear x1 x2 x3 x4 c0 cl2 ch2 hl
      go_loopw [5, 7] (fun p i wr => wr = w ∧ ∃ j : Nat, i = .int .i64 j ∧ ((j = 1 ∧ p = .int .i64 ((t[0].toNat : Int) - 192)) ∨ (j = 2 ∧ (128 ≤ t[1].toNat ∧ t[1].toNat ≤ 191) ∧ p = .int .i64 (64 * ((t[0].toNat : Int) - 192) + (t[1].toNat : Int) - 128)))) (fun _ i _ => 2 - (intOf i).toNat)
      case atStart => exact ⟨rfl, 1, rfl, .inl ⟨rfl, rfl⟩⟩
      case round =>
        obtain ⟨rfl, j, rfl, hj⟩ := hrel
        rcases hj with ⟨rfl, rfl⟩ | ⟨rfl, ⟨va1, vb1⟩, rfl⟩
        · by_cases va1 : 128 ≤ t[1].toNat
          · by_cases vb1 : t[1].toNat ≤ 191
            · go_wp2
              go_roundw
              case rel => exact ⟨trivial, 2, by go_num, .inr (⟨rfl, ⟨va1, vb1⟩, by go_num⟩)⟩
              case measure => simp [intOf]
            · go_wp2
              go_ret
              obtain ⟨c0, clx, chx⟩ := HC.out
              refine ⟨?_, rfl⟩
              first
                | (rw [show chN _ _ _ _ _ = 0 by unfold chN; rw [if_neg (by omega), if_neg (by omega), if_neg (by omega), if_neg (by omega)]]; rfl)
                | (rw [show chN _ _ _ _ _ = 2 by unfold chN; rw [if_neg (by omega), if_pos (by omega)]]; rfl)
                | (rw [show chN _ _ _ _ _ = 3 by unfold chN; rw [if_neg (by omega), if_neg (by omega), if_pos (by omega)]]; rfl)
                | (rw [show chN _ _ _ _ _ = 4 by unfold chN; rw [if_neg (by omega), if_neg (by omega), if_neg (by omega), if_pos (by omega)]]; rfl)
          · go_wp2
            go_ret
            obtain ⟨c0, clx, chx⟩ := HC.out
            refine ⟨?_, rfl⟩
            first
              | (rw [show chN _ _ _ _ _ = 0 by unfold chN; rw [if_neg (by omega), if_neg (by omega), if_neg (by omega), if_neg (by omega)]]; rfl)
              | (rw [show chN _ _ _ _ _ = 2 by unfold chN; rw [if_neg (by omega), if_pos (by omega)]]; rfl)
              | (rw [show chN _ _ _ _ _ = 3 by unfold chN; rw [if_neg (by omega), if_neg (by omega), if_pos (by omega)]]; rfl)
              | (rw [show chN _ _ _ _ _ = 4 by unfold chN; rw [if_neg (by omega), if_neg (by omega), if_neg (by omega), if_pos (by omega)]]; rfl)
        · go_wp2
          all_goals
            go_ret
            obtain ⟨c0, clx, chx⟩ := HC.out
            refine ⟨?_, rfl⟩
            first
              | (rw [show chN _ _ _ _ _ = 0 by unfold chN; rw [if_neg (by omega), if_neg (by omega), if_neg (by omega), if_neg (by omega)]]; rfl)
              | (rw [show chN _ _ _ _ _ = 2 by unfold chN; rw [if_neg (by omega), if_pos (by omega)]]; rfl)
              | (rw [show chN _ _ _ _ _ = 3 by unfold chN; rw [if_neg (by omega), if_neg (by omega), if_pos (by omega)]]; rfl)
              | (rw [show chN _ _ _ _ _ = 4 by unfold chN; rw [if_neg (by omega), if_neg (by omega), if_neg (by omega), if_pos (by omega)]]; rfl)
  by_cases c3 : 224 ≤ t[0].toNat ∧ t[0].toNat < 240
  · obtain ⟨cl3, ch3⟩ := c3
    by_cases hl : t.size < 3
    · go_enter Tryz.func106, Tryz.ntmps106
      go_wp2
      go_ret
      refine ⟨?_, rfl⟩
      first
        | (rw [show chN _ _ _ _ _ = 0 by unfold chN; rw [if_neg (by omega), if_neg (by omega), if_neg (by omega), if_neg (by omega)]]; rfl)
        | (rw [show chN _ _ _ _ _ = 2 by unfold chN; rw [if_neg (by omega), if_pos (by omega)]]; rfl)
        | (rw [show chN _ _ _ _ _ = 3 by unfold chN; rw [if_neg (by omega), if_neg (by omega), if_pos (by omega)]]; rfl)
        | (rw [show chN _ _ _ _ _ = 4 by unfold chN; rw [if_neg (by omega), if_neg (by omega), if_neg (by omega), if_pos (by omega)]]; rfl)
    · have hl1 : 1 < t.size := by omega
      have hl2 : 2 < t.size := by omega
      rw [get_at t 1 hl1]
      have hb1 := lt256 t[1]
      rw [get_at t 2 hl2]
      have hb2 := lt256 t[2]
      go_enter Tryz.func106, Tryz.ntmps106
      go_wp2_with fail
      have HC := hide (And.intro c0 (And.intro cl3 ch3))
      rename_i x1 x2 x3 x4 x5 kk aa
      clear x1 x2 x3 x4 x5 c0 cl3 ch3 hl c2
      go_loopw [5, 7] (fun p i wr => wr = w ∧ ∃ j : Nat, i = .int .i64 j ∧ ((j = 1 ∧ p = .int .i64 ((t[0].toNat : Int) - 224)) ∨ (j = 2 ∧ (128 ≤ t[1].toNat ∧ t[1].toNat ≤ 191) ∧ p = .int .i64 (64 * ((t[0].toNat : Int) - 224) + (t[1].toNat : Int) - 128)) ∨ (j = 3 ∧ (128 ≤ t[1].toNat ∧ t[1].toNat ≤ 191) ∧ (128 ≤ t[2].toNat ∧ t[2].toNat ≤ 191) ∧ p = .int .i64 (64 * (64 * ((t[0].toNat : Int) - 224) + (t[1].toNat : Int) - 128) + (t[2].toNat : Int) - 128)))) (fun _ i _ => 3 - (intOf i).toNat)
      case atStart => exact ⟨rfl, 1, rfl, .inl ⟨rfl, rfl⟩⟩
      case round =>
        obtain ⟨rfl, j, rfl, hj⟩ := hrel
        rcases hj with ⟨rfl, rfl⟩ | ⟨rfl, ⟨va1, vb1⟩, rfl⟩ | ⟨rfl, ⟨va1, vb1⟩, ⟨va2, vb2⟩, rfl⟩
        · by_cases va1 : 128 ≤ t[1].toNat
          · by_cases vb1 : t[1].toNat ≤ 191
            · go_wp2
              go_roundw
              case rel => exact ⟨trivial, 2, by go_num, .inr (.inl ⟨rfl, ⟨va1, vb1⟩, by go_num⟩)⟩
              case measure => simp [intOf]
            · go_wp2
              go_ret
              obtain ⟨c0, clx, chx⟩ := HC.out
              refine ⟨?_, rfl⟩
              first
                | (rw [show chN _ _ _ _ _ = 0 by unfold chN; rw [if_neg (by omega), if_neg (by omega), if_neg (by omega), if_neg (by omega)]]; rfl)
                | (rw [show chN _ _ _ _ _ = 2 by unfold chN; rw [if_neg (by omega), if_pos (by omega)]]; rfl)
                | (rw [show chN _ _ _ _ _ = 3 by unfold chN; rw [if_neg (by omega), if_neg (by omega), if_pos (by omega)]]; rfl)
                | (rw [show chN _ _ _ _ _ = 4 by unfold chN; rw [if_neg (by omega), if_neg (by omega), if_neg (by omega), if_pos (by omega)]]; rfl)
          · go_wp2
            go_ret
            obtain ⟨c0, clx, chx⟩ := HC.out
            refine ⟨?_, rfl⟩
            first
              | (rw [show chN _ _ _ _ _ = 0 by unfold chN; rw [if_neg (by omega), if_neg (by omega), if_neg (by omega), if_neg (by omega)]]; rfl)
              | (rw [show chN _ _ _ _ _ = 2 by unfold chN; rw [if_neg (by omega), if_pos (by omega)]]; rfl)
              | (rw [show chN _ _ _ _ _ = 3 by unfold chN; rw [if_neg (by omega), if_neg (by omega), if_pos (by omega)]]; rfl)
              | (rw [show chN _ _ _ _ _ = 4 by unfold chN; rw [if_neg (by omega), if_neg (by omega), if_neg (by omega), if_pos (by omega)]]; rfl)
        · by_cases va2 : 128 ≤ t[2].toNat
          · by_cases vb2 : t[2].toNat ≤ 191
            · go_wp2
              go_roundw
              case rel => exact ⟨trivial, 3, by go_num, .inr (.inr (⟨rfl, ⟨va1, vb1⟩, ⟨va2, vb2⟩, by go_num⟩))⟩
              case measure => simp [intOf]
            · go_wp2
              go_ret
              obtain ⟨c0, clx, chx⟩ := HC.out
              refine ⟨?_, rfl⟩
              first
                | (rw [show chN _ _ _ _ _ = 0 by unfold chN; rw [if_neg (by omega), if_neg (by omega), if_neg (by omega), if_neg (by omega)]]; rfl)
                | (rw [show chN _ _ _ _ _ = 2 by unfold chN; rw [if_neg (by omega), if_pos (by omega)]]; rfl)
                | (rw [show chN _ _ _ _ _ = 3 by unfold chN; rw [if_neg (by omega), if_neg (by omega), if_pos (by omega)]]; rfl)
                | (rw [show chN _ _ _ _ _ = 4 by unfold chN; rw [if_neg (by omega), if_neg (by omega), if_neg (by omega), if_pos (by omega)]]; rfl)
          · go_wp2
            go_ret
            obtain ⟨c0, clx, chx⟩ := HC.out
            refine ⟨?_, rfl⟩
            first
              | (rw [show chN _ _ _ _ _ = 0 by unfold chN; rw [if_neg (by omega), if_neg (by omega), if_neg (by omega), if_neg (by omega)]]; rfl)
              | (rw [show chN _ _ _ _ _ = 2 by unfold chN; rw [if_neg (by omega), if_pos (by omega)]]; rfl)
              | (rw [show chN _ _ _ _ _ = 3 by unfold chN; rw [if_neg (by omega), if_neg (by omega), if_pos (by omega)]]; rfl)
              | (rw [show chN _ _ _ _ _ = 4 by unfold chN; rw [if_neg (by omega), if_neg (by omega), if_neg (by omega), if_pos (by omega)]]; rfl)
        · go_wp2
          all_goals
            go_ret
            obtain ⟨c0, clx, chx⟩ := HC.out
            refine ⟨?_, rfl⟩
            first
              | (rw [show chN _ _ _ _ _ = 0 by unfold chN; rw [if_neg (by omega), if_neg (by omega), if_neg (by omega), if_neg (by omega)]]; rfl)
              | (rw [show chN _ _ _ _ _ = 2 by unfold chN; rw [if_neg (by omega), if_pos (by omega)]]; rfl)
              | (rw [show chN _ _ _ _ _ = 3 by unfold chN; rw [if_neg (by omega), if_neg (by omega), if_pos (by omega)]]; rfl)
              | (rw [show chN _ _ _ _ _ = 4 by unfold chN; rw [if_neg (by omega), if_neg (by omega), if_neg (by omega), if_pos (by omega)]]; rfl)
  by_cases c4 : 240 ≤ t[0].toNat ∧ t[0].toNat < 245
  · obtain ⟨cl4, ch4⟩ := c4
    by_cases hl : t.size < 4
    · go_enter Tryz.func106, Tryz.ntmps106
      go_wp2
      go_ret
      refine ⟨?_, rfl⟩
      first
        | (rw [show chN _ _ _ _ _ = 0 by unfold chN; rw [if_neg (by omega), if_neg (by omega), if_neg (by omega), if_neg (by omega)]]; rfl)
        | (rw [show chN _ _ _ _ _ = 2 by unfold chN; rw [if_neg (by omega), if_pos (by omega)]]; rfl)
        | (rw [show chN _ _ _ _ _ = 3 by unfold chN; rw [if_neg (by omega), if_neg (by omega), if_pos (by omega)]]; rfl)
        | (rw [show chN _ _ _ _ _ = 4 by unfold chN; rw [if_neg (by omega), if_neg (by omega), if_neg (by omega), if_pos (by omega)]]; rfl)
    · have hl1 : 1 < t.size := by omega
      have hl2 : 2 < t.size := by omega
      have hl3 : 3 < t.size := by omega
      rw [get_at t 1 hl1]
      have hb1 := lt256 t[1]
      rw [get_at t 2 hl2]
      have hb2 := lt256 t[2]
      rw [get_at t 3 hl3]
      have hb3 := lt256 t[3]
      go_enter Tryz.func106, Tryz.ntmps106
      go_wp2_with fail
      have HC := hide (And.intro c0 (And.intro cl4 ch4))
      rename_i x1 x2 x3 x4 x5 x6 kk aa
      clear x1 x2 x3 x4 x5 x6 c0 cl4 ch4 hl c2 c3
      go_loopw [5, 7] (fun p i wr => wr = w ∧ ∃ j : Nat, i = .int .i64 j ∧ ((j = 1 ∧ p = .int .i64 ((t[0].toNat : Int) - 240)) ∨ (j = 2 ∧ (128 ≤ t[1].toNat ∧ t[1].toNat ≤ 191) ∧ p = .int .i64 (64 * ((t[0].toNat : Int) - 240) + (t[1].toNat : Int) - 128)) ∨ (j = 3 ∧ (128 ≤ t[1].toNat ∧ t[1].toNat ≤ 191) ∧ (128 ≤ t[2].toNat ∧ t[2].toNat ≤ 191) ∧ p = .int .i64 (64 * (64 * ((t[0].toNat : Int) - 240) + (t[1].toNat : Int) - 128) + (t[2].toNat : Int) - 128)) ∨ (j = 4 ∧ (128 ≤ t[1].toNat ∧ t[1].toNat ≤ 191) ∧ (128 ≤ t[2].toNat ∧ t[2].toNat ≤ 191) ∧ (128 ≤ t[3].toNat ∧ t[3].toNat ≤ 191) ∧ p = .int .i64 (64 * (64 * (64 * ((t[0].toNat : Int) - 240) + (t[1].toNat : Int) - 128) + (t[2].toNat : Int) - 128) + (t[3].toNat : Int) - 128)))) (fun _ i _ => 4 - (intOf i).toNat)
      case atStart => exact ⟨rfl, 1, rfl, .inl ⟨rfl, rfl⟩⟩
      case round =>
        obtain ⟨rfl, j, rfl, hj⟩ := hrel
        rcases hj with ⟨rfl, rfl⟩ | ⟨rfl, ⟨va1, vb1⟩, rfl⟩ | ⟨rfl, ⟨va1, vb1⟩, ⟨va2, vb2⟩, rfl⟩ | ⟨rfl, ⟨va1, vb1⟩, ⟨va2, vb2⟩, ⟨va3, vb3⟩, rfl⟩
        · by_cases va1 : 128 ≤ t[1].toNat
          · by_cases vb1 : t[1].toNat ≤ 191
            · go_wp2
              go_roundw
              case rel => exact ⟨trivial, 2, by go_num, .inr (.inl ⟨rfl, ⟨va1, vb1⟩, by go_num⟩)⟩
              case measure => simp [intOf]
            · go_wp2
              go_ret
              obtain ⟨c0, clx, chx⟩ := HC.out
              refine ⟨?_, rfl⟩
              first
                | (rw [show chN _ _ _ _ _ = 0 by unfold chN; rw [if_neg (by omega), if_neg (by omega), if_neg (by omega), if_neg (by omega)]]; rfl)
                | (rw [show chN _ _ _ _ _ = 2 by unfold chN; rw [if_neg (by omega), if_pos (by omega)]]; rfl)
                | (rw [show chN _ _ _ _ _ = 3 by unfold chN; rw [if_neg (by omega), if_neg (by omega), if_pos (by omega)]]; rfl)
                | (rw [show chN _ _ _ _ _ = 4 by unfold chN; rw [if_neg (by omega), if_neg (by omega), if_neg (by omega), if_pos (by omega)]]; rfl)
          · go_wp2
            go_ret
            obtain ⟨c0, clx, chx⟩ := HC.out
            refine ⟨?_, rfl⟩
            first
              | (rw [show chN _ _ _ _ _ = 0 by unfold chN; rw [if_neg (by omega), if_neg (by omega), if_neg (by omega), if_neg (by omega)]]; rfl)
              | (rw [show chN _ _ _ _ _ = 2 by unfold chN; rw [if_neg (by omega), if_pos (by omega)]]; rfl)
              | (rw [show chN _ _ _ _ _ = 3 by unfold chN; rw [if_neg (by omega), if_neg (by omega), if_pos (by omega)]]; rfl)
              | (rw [show chN _ _ _ _ _ = 4 by unfold chN; rw [if_neg (by omega), if_neg (by omega), if_neg (by omega), if_pos (by omega)]]; rfl)
        · by_cases va2 : 128 ≤ t[2].toNat
          · by_cases vb2 : t[2].toNat ≤ 191
            · go_wp2
              go_roundw
              case rel => exact ⟨trivial, 3, by go_num, .inr (.inr (.inl ⟨rfl, ⟨va1, vb1⟩, ⟨va2, vb2⟩, by go_num⟩))⟩
              case measure => simp [intOf]
            · go_wp2
              go_ret
              obtain ⟨c0, clx, chx⟩ := HC.out
              refine ⟨?_, rfl⟩
              first
                | (rw [show chN _ _ _ _ _ = 0 by unfold chN; rw [if_neg (by omega), if_neg (by omega), if_neg (by omega), if_neg (by omega)]]; rfl)
                | (rw [show chN _ _ _ _ _ = 2 by unfold chN; rw [if_neg (by omega), if_pos (by omega)]]; rfl)
                | (rw [show chN _ _ _ _ _ = 3 by unfold chN; rw [if_neg (by omega), if_neg (by omega), if_pos (by omega)]]; rfl)
                | (rw [show chN _ _ _ _ _ = 4 by unfold chN; rw [if_neg (by omega), if_neg (by omega), if_neg (by omega), if_pos (by omega)]]; rfl)
          · go_wp2
            go_ret
            obtain ⟨c0, clx, chx⟩ := HC.out
            refine ⟨?_, rfl⟩
            first
              | (rw [show chN _ _ _ _ _ = 0 by unfold chN; rw [if_neg (by omega), if_neg (by omega), if_neg (by omega), if_neg (by omega)]]; rfl)
              | (rw [show chN _ _ _ _ _ = 2 by unfold chN; rw [if_neg (by omega), if_pos (by omega)]]; rfl)
              | (rw [show chN _ _ _ _ _ = 3 by unfold chN; rw [if_neg (by omega), if_neg (by omega), if_pos (by omega)]]; rfl)
              | (rw [show chN _ _ _ _ _ = 4 by unfold chN; rw [if_neg (by omega), if_neg (by omega), if_neg (by omega), if_pos (by omega)]]; rfl)
        · by_cases va3 : 128 ≤ t[3].toNat
          · by_cases vb3 : t[3].toNat ≤ 191
            · go_wp2
              go_roundw
              case rel => exact ⟨trivial, 4, by go_num, .inr (.inr (.inr (⟨rfl, ⟨va1, vb1⟩, ⟨va2, vb2⟩, ⟨va3, vb3⟩, by go_num⟩)))⟩
              case measure => simp [intOf]
            · go_wp2
              go_ret
              obtain ⟨c0, clx, chx⟩ := HC.out
              refine ⟨?_, rfl⟩
              first
                | (rw [show chN _ _ _ _ _ = 0 by unfold chN; rw [if_neg (by omega), if_neg (by omega), if_neg (by omega), if_neg (by omega)]]; rfl)
                | (rw [show chN _ _ _ _ _ = 2 by unfold chN; rw [if_neg (by omega), if_pos (by omega)]]; rfl)
                | (rw [show chN _ _ _ _ _ = 3 by unfold chN; rw [if_neg (by omega), if_neg (by omega), if_pos (by omega)]]; rfl)
                | (rw [show chN _ _ _ _ _ = 4 by unfold chN; rw [if_neg (by omega), if_neg (by omega), if_neg (by omega), if_pos (by omega)]]; rfl)
          · go_wp2
            go_ret
            obtain ⟨c0, clx, chx⟩ := HC.out
            refine ⟨?_, rfl⟩
            first
              | (rw [show chN _ _ _ _ _ = 0 by unfold chN; rw [if_neg (by omega), if_neg (by omega), if_neg (by omega), if_neg (by omega)]]; rfl)
              | (rw [show chN _ _ _ _ _ = 2 by unfold chN; rw [if_neg (by omega), if_pos (by omega)]]; rfl)
              | (rw [show chN _ _ _ _ _ = 3 by unfold chN; rw [if_neg (by omega), if_neg (by omega), if_pos (by omega)]]; rfl)
              | (rw [show chN _ _ _ _ _ = 4 by unfold chN; rw [if_neg (by omega), if_neg (by omega), if_neg (by omega), if_pos (by omega)]]; rfl)
        · go_wp2
          all_goals
            go_ret
            obtain ⟨c0, clx, chx⟩ := HC.out
            refine ⟨?_, rfl⟩
            first
              | (rw [show chN _ _ _ _ _ = 0 by unfold chN; rw [if_neg (by omega), if_neg (by omega), if_neg (by omega), if_neg (by omega)]]; rfl)
              | (rw [show chN _ _ _ _ _ = 2 by unfold chN; rw [if_neg (by omega), if_pos (by omega)]]; rfl)
              | (rw [show chN _ _ _ _ _ = 3 by unfold chN; rw [if_neg (by omega), if_neg (by omega), if_pos (by omega)]]; rfl)
              | (rw [show chN _ _ _ _ _ = 4 by unfold chN; rw [if_neg (by omega), if_neg (by omega), if_neg (by omega), if_pos (by omega)]]; rfl)
  go_enter Tryz.func106, Tryz.ntmps106
  go_wp2
  all_goals
    go_ret
    refine ⟨?_, rfl⟩
    first
      | (rw [show chN _ _ _ _ _ = 0 by unfold chN; rw [if_neg (by omega), if_neg (by omega), if_neg (by omega), if_neg (by omega)]]; rfl)
      | (rw [show chN _ _ _ _ _ = 2 by unfold chN; rw [if_neg (by omega), if_pos (by omega)]]; rfl)
      | (rw [show chN _ _ _ _ _ = 3 by unfold chN; rw [if_neg (by omega), if_neg (by omega), if_pos (by omega)]]; rfl)
      | (rw [show chN _ _ _ _ _ = 4 by unfold chN; rw [if_neg (by omega), if_neg (by omega), if_neg (by omega), if_pos (by omega)]]; rfl)
set_option maxRecDepth 100000 in
set_option maxHeartbeats 400000 in
theorem rplain_any (s : ByteArray) (w : World) (hs : s.size ≤ 281474976710656) :
    Calls Tryz.prog 96 #[.string s] w fun e w' => e = .returned (.bool (ascB s)) ∧ w = w' := by
  have HI : Hid (ascB s = true ↔ ∀ j (_ : j < s.size), s[j].toNat < 128) := by
    show ascB s = true ↔ _
    have hg : ∀ j (hj : j < s.size), s.get! j = s[j] := fun j hj => by
      simp only [ByteArray.get!]
      exact getElem!_pos s.data j hj
    unfold ascB
    simp only [List.all_eq_true, List.mem_range, decide_eq_true_eq]
    exact ⟨fun h j hj => by have := h j hj; rwa [hg j hj] at this, fun h j hj => by rw [hg j hj]; exact h j hj⟩
  go_enter Tryz.func96, Tryz.ntmps96
  go_wp2
  go_loop [3] (fun i => ∃ k : Nat, k ≤ s.size ∧ i = .int .i64 k ∧ Hid (∀ j (_ : j < k) (_ : j < s.size), s[j].toNat < 128)) (fun i => s.size - (intOf i).toNat)
  case atStart => exact ⟨0, Nat.zero_le _, rfl, fun j h => absurd h (Nat.not_lt_zero _)⟩
  case round =>
    obtain ⟨k, hk, rfl, HA⟩ := hrel
    by_cases hks : k < s.size
    · by_cases hb : s[k].toNat < 128
      · go_wp2
        go_round
        case rel =>
          refine ⟨k + 1, by omega, by go_num, fun j h1 h2 => ?_⟩
          by_cases h3 : j < k
          · exact HA.out j h3 h2
          · obtain rfl : j = k := by omega
            exact hb
        case measure => simp [intOf]; omega
      · have HF : Hid (ascB s = false) := by
          show ascB s = false
          cases h : ascB s with
          | false => rfl
          | true => exact absurd (HI.out.1 h k hks) hb
        go_wp2
        go_ret
        exact ⟨by rw [HF.out]; rfl, rfl⟩
    · have HT : Hid (ascB s = true) := HI.out.2 (fun j h => HA.out j (by omega) h)
      go_wp2
      go_ret
      exact ⟨by rw [HT.out]; rfl, rfl⟩
theorem letter_at (s : ByteArray) (i : Nat) (h : i < s.size) (w : World) (hs : s.size ≤ 281474976710656) :
    Calls Tryz.prog 106 #[.string (s.extract i s.size)] w fun e w' => e = .returned (.int .i64 ((if (dec s i).1 = 65533 ∧ (dec s i).2 = 1 then 0 else (dec s i).2 : Nat) : Int)) ∧ w' = w := by
  have hsz : (s.extract i s.size).size = s.size - i := by simp
  have q := rletter_any (s.extract i s.size) w (by omega) (by omega)
  have e : chN (s.extract i s.size).size ((s.extract i s.size).get! 0).toNat ((s.extract i s.size).get! 1).toNat ((s.extract i s.size).get! 2).toNat ((s.extract i s.size).get! 3).toNat = if (dec s i).1 = 65533 ∧ (dec s i).2 = 1 then 0 else (dec s i).2 := by
    rw [chN_dec _ _ _ _ _ (by omega) (UInt8.toNat_lt _) (UInt8.toNat_lt _) (UInt8.toNat_lt _) (UInt8.toNat_lt _)]
    have e2 : Lib.decodeN (s.extract i s.size).size ((s.extract i s.size).get! 0).toNat ((s.extract i s.size).get! 1).toNat ((s.extract i s.size).get! 2).toNat ((s.extract i s.size).get! 3).toNat = dec s i := by
      have p1 := Lib.decode_at (s.extract i s.size) 0
      have p2 := Lib.decode_at s i
      have p3 := Lib.tail_decode s i 0
      rw [Nat.add_zero] at p3
      exact (p1.symm.trans p3).trans p2
    rw [e2]
  rw [e] at q
  exact q
set_option maxRecDepth 100000 in
set_option maxHeartbeats 1000000 in
theorem rtext_any (s : ByteArray) (w : World) (hs : s.size ≤ 281474976710656) :
    Calls Tryz.prog 95 #[.string s] w fun e w' => e = .returned (.bool (decide (utfZ s 0 < 0))) ∧ w' = w := by
  go_enter Tryz.func95, Tryz.ntmps95
  go_wp2
  go_loopw [3] (fun i wr => ∃ k : Nat, k ≤ s.size ∧ i = .int .i64 k ∧ Hid (utfZ s k = utfZ s 0) ∧ wr = w) (fun i _ => s.size - (intOf i).toNat)
  case atStart => exact ⟨0, Nat.zero_le _, rfl, rfl, rfl⟩
  case round =>
    obtain ⟨k, hk, rfl, HU, rfl⟩ := hrel
    by_cases hks : k < s.size
    · have hc := letter_at s k hks wr hs
      have hle := dec_le s k hks
      by_cases hbad : (dec s k).1 = 65533 ∧ (dec s k).2 = 1
      · rw [if_pos hbad] at hc
        have HB : Hid (utfZ s 0 = k) := by rw [← HU.out]; exact utfZ_bad s k hks hbad
        have HC := hide hc
        clear hc hbad hle
        go_wp2_with (go_at_call 106; refine HC.out.mono ?_; rintro e w1 ⟨rfl, rfl⟩)
        go_ret
        refine ⟨?_, rfl⟩
        rw [HB.out, decide_eq_false (by omega)]
        rfl
      · rw [if_neg hbad] at hc
        have HG : Hid (utfZ s 0 = utfZ s (k + (dec s k).2)) := by rw [← HU.out]; exact utfZ_good s k hks hbad
        have HC := hide hc
        clear hc hbad
        generalize (dec s k).2 = d2 at *
        have e2 : ((d2 : Int) == 0) = false := by simp; omega
        go_wp2_with (go_at_call 106; refine HC.out.mono ?_; rintro e w1 ⟨rfl, rfl⟩)
        go_roundw
        case rel => exact ⟨k + d2, by omega, by go_num, HG.out.symm, trivial⟩
        case measure => simp [intOf]; omega
    · have HE : Hid (utfZ s 0 = -1) := by rw [← HU.out]; exact utfZ_end s k hks
      go_wp2
      go_ret
      refine ⟨?_, rfl⟩
      rw [HE.out, decide_eq_true (by omega)]
      rfl
set_option maxRecDepth 100000 in
set_option maxHeartbeats 4000000 in
theorem spelled_any : SpellOk := by
  intro k n s a len c e w hs
  have hb := fun (o : Obj) => bel1 (Below.refl w.heap.size w) (Nat.le_refl _) o
  have HU := hide (fun W => rtext_any s W hs)
  have HA := hide (fun W => rplain_any s W hs)
  by_cases h14 : k = 14
  · subst h14
    have h16 : (((s.size : Nat) : Int) == 16) = decide (s.size = 16) := by rw [Bool.eq_iff_iff]; simp; omega
    go_enter Tryz.func75, Tryz.ntmps75
    go_wp2
    go_ret
    exact ⟨by simp [textT]; try exact h16, hb _⟩
  by_cases h17 : k = 17
  · subst h17
    have h16 : (((s.size : Nat) : Int) == 16) = decide (s.size = 16) := by rw [Bool.eq_iff_iff]; simp; omega
    go_enter Tryz.func75, Tryz.ntmps75
    go_wp2
    go_ret
    exact ⟨by simp [textT]; try exact h16, hb _⟩
  by_cases h19 : k = 19
  · subst h19
    go_enter Tryz.func75, Tryz.ntmps75
    go_wp2_with (go_at_call 95; refine (HU.out _).mono ?_; rintro e1 w1 ⟨rfl, rfl⟩)
    go_ret
    exact ⟨by simp [textT], hb _⟩
  by_cases h20 : k = 20
  · subst h20
    go_enter Tryz.func75, Tryz.ntmps75
    go_wp2_with (go_at_call 96; refine (HA.out _).mono ?_; rintro e1 w1 ⟨rfl, rfl⟩)
    go_ret
    exact ⟨by simp [textT], hb _⟩
  go_enter Tryz.func75, Tryz.ntmps75
  go_wp2
  go_ret
  exact ⟨by simp [textT, *], hb _⟩
end Go.Proofs.YthhlpjhkeendcaaGreatDoor
