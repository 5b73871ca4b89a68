/- VUtf -/
import Derived.Test.YthhlpjhkeendcaaGreatDoorS01
import Derived.Test.YthhlpjhkeendcaaGreatDoorShelf
import Derived.Test.YthhlpjhkeendcaaGreatDoorProg
import Derived.WalkLawsBesides
import Derived.Handy
import Derived.Outline
import Derived.Lib.RuneCountTail
namespace Go.Proofs.YthhlpjhkeendcaaGreatDoor
open Go.RowKit
set_option linter.unusedVariables false
def Asc (s : ByteArray) (z : Int) : Prop :=
  (z = -1 ∧ ∀ j (_ : j < s.size), s[j].toNat < 128) ∨ ∃ i, ∃ _ : i < s.size, z = (i : Int) ∧ 128 ≤ s[i].toNat ∧ ∀ j (_ : j < i), s[j].toNat < 128
set_option maxRecDepth 100000 in
set_option maxHeartbeats 400000 in
theorem ascii_any (s : ByteArray) (w : World) (hs : s.size ≤ 281474976710656) :
    Calls Tryz.prog 85 #[.string s] w fun e w' => ∃ z, e = .returned (.int .i64 z) ∧ Asc s z ∧ w = w' := by
  go_enter Tryz.func85, Tryz.ntmps85
  go_wp2
  go_loop [3] (fun i => ∃ k : Nat, k ≤ s.size ∧ i = .int .i64 k ∧ Hid (∀ j (_ : j < k) (_ : j < s.size), s[j].toNat < 128)) (fun i => s.size - (intOf i).toNat)
  case atStart => exact ⟨0, Nat.zero_le _, rfl, fun j h => absurd h (Nat.not_lt_zero _)⟩
  case round =>
    obtain ⟨k, hk, rfl, HA⟩ := hrel
    by_cases hks : k < s.size
    · go_wp2
      · have hb : (128 : Int) ≤ (s[k].toNat : Int) := by assumption
        go_ret
        exact ⟨_, rfl, .inr ⟨k, hks, rfl, by omega, fun j h => HA.out j h (by omega)⟩, rfl⟩
      · have hb : (s[k].toNat : Int) < (128 : Int) := by assumption
        go_round
        case rel =>
          refine ⟨k + 1, by omega, by go_num, fun j h1 h2 => ?_⟩
          by_cases h3 : j < k
          · exact HA.out j h3 h2
          · obtain rfl : j = k := by omega
            omega
        case measure => simp [intOf]; omega
    · go_wp2
      go_ret
      exact ⟨_, rfl, .inl ⟨rfl, fun j h => HA.out j (by omega) h⟩, rfl⟩
def dec (s : ByteArray) (i : Nat) : Nat × Nat := Lib.decodeN (s.size - i) (s.get! i).toNat (s.get! (i + 1)).toNat (s.get! (i + 2)).toNat (s.get! (i + 3)).toNat
theorem dec_go (s : ByteArray) (i : Nat) (h : i < s.size) : Lib.decodeGo (s.extract i s.size) = dec s i := by
  have h0 : (s.extract i s.size).size ≠ 0 := by simp; omega
  unfold Lib.decodeGo dec
  rw [if_neg h0, Lib.tail_decode, Lib.decode_at, Nat.add_zero]
theorem decodeN_le (n a b c d : Nat) (hn : 1 ≤ n) : 1 ≤ (Lib.decodeN n a b c d).2 ∧ (Lib.decodeN n a b c d).2 ≤ n := by
  unfold Lib.decodeN
  repeat' split
  all_goals (constructor <;> simp only <;> omega)
theorem dec_le (s : ByteArray) (i : Nat) (h : i < s.size) : 1 ≤ (dec s i).2 ∧ (dec s i).2 ≤ s.size - i := decodeN_le _ _ _ _ _ (by omega)
def utfF (s : ByteArray) : Nat → Nat → Int
  | 0, _ => -1
  | f + 1, i => if i < s.size then (if (dec s i).1 = 65533 ∧ (dec s i).2 = 1 then (i : Int) else utfF s f (i + (dec s i).2)) else -1
theorem utfF_end (s : ByteArray) (f i : Nat) (h : ¬ i < s.size) : utfF s f i = -1 := by
  cases f with
  | zero => rfl
  | succ f => simp only [utfF]; rw [if_neg h]
theorem utfF_more (s : ByteArray) (f : Nat) : ∀ g i, s.size - i ≤ f → s.size - i ≤ g → utfF s f i = utfF s g i := by
  induction f with
  | zero => intro g i h _; rw [utfF_end s 0 i (by omega), utfF_end s g i (by omega)]
  | succ f ih =>
    intro g i h hg
    by_cases hi : i < s.size
    · cases g with
      | zero => omega
      | succ g =>
        simp only [utfF]
        rw [if_pos hi, if_pos hi]
        by_cases hb : (dec s i).1 = 65533 ∧ (dec s i).2 = 1
        · rw [if_pos hb, if_pos hb]
        · have := dec_le s i hi
          rw [if_neg hb, if_neg hb, ih g _ (by omega) (by omega)]
    · rw [utfF_end s _ i hi, utfF_end s _ i hi]
def utfZ (s : ByteArray) (i : Nat) : Int := utfF s s.size i
theorem utfZ_bad (s : ByteArray) (i : Nat) (h : i < s.size) (hb : (dec s i).1 = 65533 ∧ (dec s i).2 = 1) : utfZ s i = i := by
  unfold utfZ
  rw [utfF_more s s.size (s.size - 1 + 1) i (by omega) (by omega)]
  simp only [utfF]
  rw [if_pos h, if_pos hb]
theorem utfZ_good (s : ByteArray) (i : Nat) (h : i < s.size) (hb : ¬ ((dec s i).1 = 65533 ∧ (dec s i).2 = 1)) : utfZ s i = utfZ s (i + (dec s i).2) := by
  have hd := dec_le s i h
  unfold utfZ
  rw [utfF_more s s.size (s.size - 1 + 1) i (by omega) (by omega)]
  simp only [utfF]
  rw [if_pos h, if_neg hb]
  exact utfF_more s _ _ _ (by omega) (by omega)
theorem utfZ_end (s : ByteArray) (i : Nat) (h : ¬ i < s.size) : utfZ s i = -1 := utfF_end s _ i h
theorem tabs_below {w w' : World} (h : Lib.Utf8Tabs 1 2 w) (hb : Below w.heap.size w w') : Lib.Utf8Tabs 1 2 w' := by
  obtain ⟨h1, h2⟩ := h
  have l0 := block_lt_of_cell (h1 0 (by omega))
  have l1 := block_lt_of_cell (h2 0 (by omega)).1
  exact ⟨fun c hc => (hb.cell (p := ⟨1, c, none⟩) l0).trans (h1 c hc),
    fun i hi => ⟨(hb.cell (p := ⟨2, 2 * i, none⟩) l1).trans (h2 i hi).1, (hb.cell (p := ⟨2, 2 * i + 1, none⟩) l1).trans (h2 i hi).2⟩⟩
set_option maxRecDepth 100000 in
set_option maxHeartbeats 400000 in
theorem utf8_any (s : ByteArray) (w : World) (hs : s.size ≤ 281474976710656) (hT : Lib.Utf8Tabs 1 2 w) :
    Calls Tryz.prog 84 #[.string s] w fun e w' => e = .returned (.int .i64 (utfZ s 0)) ∧ Below w.heap.size w w' := by
  have HT : Hid (Lib.Utf8Tabs 1 2 w) := hT
  clear hT
  go_enter Tryz.func84, Tryz.ntmps84
  go_wp2
  go_loopw [3] (fun i wr => ∃ k : Nat, k ≤ s.size ∧ i = .int .i64 k ∧ Hid (utfZ s k = utfZ s 0) ∧ Below w.heap.size w wr) (fun i _ => s.size - (intOf i).toNat)
  case atStart => exact ⟨0, Nat.zero_le _, rfl, rfl, Below.refl _ _⟩
  case round =>
    obtain ⟨k, hk, rfl, HU, hb⟩ := hrel
    by_cases hks : k < s.size
    · have hc := Tryz.utf8_DecodeRuneInString (s.extract k s.size) wr (tabs_below HT.out hb)
      rw [dec_go s k hks] at hc
      have hle := dec_le s k hks
      by_cases hbad : (dec s k).1 = 65533 ∧ (dec s k).2 = 1
      · have HB := utfZ_bad s k hks hbad
        rw [HU.out] at HB
        have HB' : Hid (utfZ s 0 = k) := HB
        rw [hbad.1, hbad.2] at hc
        have HC := hide hc
        clear HB hc hbad hle
        go_wp2_with (go_at_call 98; refine HC.out.mono ?_; rintro e w1 ⟨rfl, hb1⟩)
        go_ret
        exact ⟨ret_int (by rw [HB'.out]), hb.trans (hb1.mono hb.size)⟩
      · have HG := utfZ_good s k hks hbad
        rw [HU.out] at HG
        have HG' : Hid (utfZ s 0 = utfZ s (k + (dec s k).2)) := HG
        have HC := hide hc
        clear HG hc
        generalize (dec s k).1 = d1 at *
        generalize (dec s k).2 = d2 at *
        by_cases h1 : d1 = 65533
        · have e1 : ((d1 : Int) == 65533) = true := by simp; omega
          have e2 : ((d2 : Int) == 1) = false := by simp; omega
          clear hbad
          go_wp2_with (go_at_call 98; refine HC.out.mono ?_; rintro e w1 ⟨rfl, hb1⟩)
          go_roundw
          case rel => exact ⟨k + d2, by omega, by go_num, HG'.out.symm, hb.trans (hb1.mono hb.size)⟩
          case measure => simp [intOf]; omega
        · have e1 : ((d1 : Int) == 65533) = false := by simp; omega
          clear hbad
          go_wp2_with (go_at_call 98; refine HC.out.mono ?_; rintro e w1 ⟨rfl, hb1⟩)
          go_roundw
          case rel => exact ⟨k + d2, by omega, by go_num, HG'.out.symm, hb.trans (hb1.mono hb.size)⟩
          case measure => simp [intOf]; omega
    · have HE : Hid (utfZ s 0 = -1) := by rw [← HU.out]; exact utfZ_end s k hks
      go_wp2
      go_ret
      exact ⟨ret_int (by rw [HE.out]), hb⟩
end Go.Proofs.YthhlpjhkeendcaaGreatDoor
