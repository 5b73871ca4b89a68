/- octet.Add, Gap, Ascii: their contracts. -/
import Derived.Test.YtjgdebifomkkcaaDoorProg
import Derived.Test.YtjgdebifomkkcaaDoorRd
import Derived.WalkLawsBesides
import Derived.Handy
import Derived.Outline
namespace Go.Proofs.YtjgdebifomkkcaaDoor
open Go.RowKit
set_option linter.unusedVariables false

theorem add_any (a b : Int) (w : World) :
    Calls Tryd.prog 24 #[.int .i64 a, .int .i64 b] w fun e w' => e = .returned (.int .i64 ((a + b) % 4294967296)) ∧ w = w' := by
  go_enter Tryd.func24, Tryd.ntmps24
  go_wp2
  go_ret
  exact ⟨rfl, rfl⟩
/-- the gap, as a number -/
def gapZ (a b : Int) : Int := (b - a + 2147483648) % 4294967296 - 2147483648
theorem gap_any (a b : Int) (w : World) :
    Calls Tryd.prog 25 #[.int .i64 a, .int .i64 b] w fun e w' => e = .returned (.int .i64 (gapZ a b)) ∧ w = w' := by
  go_enter Tryd.func25, Tryd.ntmps25
  go_wp2
  go_ret
  exact ⟨ret_int (by simp only [gapZ, wrap64, wrap32]; omega), rfl⟩


/-- z is the place of the first byte above 127, or -1 -/
def Asc (s : ByteArray) (z : Int) : Prop :=
  (z = -1 ∧ ∀ j (_ : j < s.size), s[j].toNat < 128) ∨ ∃ i, ∃ _ : i < s.size, z = (i : Int) ∧ 128 ≤ s[i].toNat ∧ ∀ j (_ : j < i), s[j].toNat < 128
theorem Asc.unique {s : ByteArray} {y z : Int} (hy : Asc s y) (hz : Asc s z) : y = z := by
  rcases hy with ⟨rfl, hy⟩ | ⟨i, hi, rfl, hy1, hy2⟩ <;> rcases hz with ⟨rfl, hz⟩ | ⟨k, hk, rfl, hz1, hz2⟩
  · rfl
  · have := hy k hk; omega
  · have := hz i hi; omega
  · rcases Nat.lt_trichotomy i k with h | h | h
    · have := hz2 i h; omega
    · rw [h]
    · have := hy2 k h; omega
set_option maxRecDepth 100000 in
set_option maxHeartbeats 400000 in
theorem ascii_any (s : ByteArray) (w : World) (hs : s.size ≤ 281474976710656) :
    Calls Tryd.prog 20 #[.string s] w fun e w' => ∃ z, e = .returned (.int .i64 z) ∧ Asc s z ∧ w = w' := by
  go_enter Tryd.func20, Tryd.ntmps20
  go_wp2
  go_loop [3] (fun i => ∃ k : Nat, k ≤ s.size ∧ i = .int .i64 k ∧ Hid (∀ j (_ : j < k) (_ : j < s.size), s[j].toNat < 128)) (fun i => s.size - (intOf i).toNat)
  case atStart => exact ⟨0, Nat.zero_le _, rfl, fun j h => absurd h (Nat.not_lt_zero _)⟩
  case round =>
    obtain ⟨k, hk, rfl, HA⟩ := hrel
    by_cases hks : k < s.size
    · go_wp2
      · have hb : (128 : Int) ≤ (s[k].toNat : Int) := by assumption
        go_ret
        exact ⟨_, rfl, .inr ⟨k, hks, rfl, by omega, fun j h => HA.out j h (by omega)⟩, rfl⟩
      · have hb : (s[k].toNat : Int) < (128 : Int) := by assumption
        go_round
        case rel =>
          refine ⟨k + 1, by omega, by go_num, fun j h1 h2 => ?_⟩
          by_cases h3 : j < k
          · exact HA.out j h3 h2
          · obtain rfl : j = k := by omega
            omega
        case measure => simp [intOf]; omega
    · go_wp2
      go_ret
      exact ⟨_, rfl, .inl ⟨rfl, fun j h => HA.out j (by omega) h⟩, rfl⟩
end Go.Proofs.YtjgdebifomkkcaaDoor
