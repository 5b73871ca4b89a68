/- The document's answer on texts: longshoreref01's within, tail, pair, Character, Utf8, Ascii. -/
import Derived.Test.YtjgdebifomkkcaaDoorUtf
namespace Go.Proofs.YtjgdebifomkkcaaDoor
open Go.RowKit
set_option linter.unusedVariables false

/-- the byte at a place, as a number -/
def gb (s : ByteArray) (i : Nat) : Int := ((s.get! i).toNat : Int)
def wi (s : ByteArray) (i : Nat) (f t : Int) : Bool := decide (i < s.size) && (decide (f ≤ gb s i) && decide (gb s i ≤ t))
theorem gb_eq (s : ByteArray) (k : Nat) (h : k < s.size) : ((s[k].toNat : Nat) : Int) = gb s k := by
  unfold gb
  rw [Utf8W.get!_of_lt s k h]

theorem gb_nonneg (s : ByteArray) (k : Nat) : 0 ≤ gb s k := Int.natCast_nonneg _
theorem gb_le (s : ByteArray) (k : Nat) : gb s k ≤ 255 := by
  unfold gb
  have := (s.get! k).toNat_lt
  omega
theorem ret_bool {a b : Bool} (h : a = b) : Ending.returned (.bool a) = .returned (.bool b) := by rw [h]
set_option maxRecDepth 100000 in
theorem within_any (s : ByteArray) (i : Nat) (f t : Int) (w : World) (hs : s.size ≤ 281474976710656) :
    Calls Tryd.prog 32 #[.string s, .int .i64 (i : Int), .int .i64 f, .int .i64 t] w fun e w' => e = .returned (.bool (wi s i f t)) ∧ w = w' := by
  by_cases hi : i < s.size
  · have hb : ((s[i].toNat : Nat) : Int) = gb s i := gb_eq s i hi
    have h0 : 0 ≤ gb s i := gb_nonneg s i
    have h1 : gb s i ≤ 255 := gb_le s i
    go_enter Tryd.func32, Tryd.ntmps32
    go_wp2
    · have hf : f ≤ gb s i := by assumption
      go_ret
      exact ⟨ret_bool (by simp [wi, hi, hf]), rfl⟩
    · have hf : gb s i < f := by assumption
      have hf2 : ¬ f ≤ gb s i := by omega
      go_ret
      exact ⟨ret_bool (by simp [wi, hi, hf2]), rfl⟩
  · go_enter Tryd.func32, Tryd.ntmps32
    go_wp2
    go_ret
    exact ⟨ret_bool (by simp [wi, hi]), rfl⟩

def tlB (s : ByteArray) (i n : Nat) : Bool := (List.range n).all (fun j => wi s (i + j) 128 191)
set_option maxRecDepth 100000 in
theorem tail_any (s : ByteArray) (i n : Nat) (w : World) (hs : s.size ≤ 281474976710656) (hi : i ≤ 281474976710660) (hn : n ≤ 4) :
    Calls Tryd.prog 34 #[.string s, .int .i64 (i : Int), .int .i64 (n : Int)] w fun e w' => e = .returned (.bool (tlB s i n)) ∧ w = w' := by
  go_enter Tryd.func34, Tryd.ntmps34
  go_wp2
  go_loop [7] (fun j => ∃ k : Nat, k ≤ n ∧ j = .int .i64 k ∧ Hid (∀ m, m < k → wi s (i + m) 128 191 = true)) (fun j => n - (intOf j).toNat)
  case atStart => exact ⟨0, Nat.zero_le _, rfl, fun m h => absurd h (Nat.not_lt_zero _)⟩
  case round =>
    obtain ⟨k, hk, rfl, HA⟩ := hrel
    by_cases hkn : k < n
    · have hc := within_any s (i + k) 128 191 w hs
      rw [Int.natCast_add] at hc
      have HC := hide hc
      clear hc
      cases hw : wi s (i + k) 128 191 with
      | true =>
        rw [hw] at HC
        have HW := hide hw
        clear hw
        go_wp2_with (go_at_call 32; refine HC.out.mono ?_; rintro e w1 ⟨rfl, rfl⟩)
        go_round
        case rel =>
          refine ⟨k + 1, by omega, by go_num, fun m h1 => ?_⟩
          by_cases h3 : m < k
          · exact HA.out m h3
          · obtain rfl : m = k := by omega
            exact HW.out
        case measure => simp [intOf]; omega
      | false =>
        rw [hw] at HC
        have HW := hide hw
        clear hw
        go_wp2_with (go_at_call 32; refine HC.out.mono ?_; rintro e w1 ⟨rfl, rfl⟩)
        go_ret
        refine ⟨ret_bool ?_, rfl⟩
        symm
        unfold tlB
        rw [List.all_eq_false]
        exact ⟨k, List.mem_range.2 hkn, by rw [HW.out]; decide⟩
    · go_wp2
      go_ret
      refine ⟨ret_bool ?_, rfl⟩
      symm
      unfold tlB
      rw [List.all_eq_true]
      exact fun m hm => HA.out m (by have := List.mem_range.1 hm; omega)

def prB (s : ByteArray) (i : Nat) (a b c d : Int) (m : Nat) : Bool := wi s i a b && (wi s (i + 1) c d && tlB s (i + 2) m)
set_option maxRecDepth 100000 in
theorem pair_any (s : ByteArray) (i m : Nat) (a b c d : Int) (w : World) (hs : s.size ≤ 281474976710656) (hi : i ≤ 281474976710656) (hm : m ≤ 4) :
    Calls Tryd.prog 33 #[.string s, .int .i64 (i : Int), .int .i64 a, .int .i64 b, .int .i64 c, .int .i64 d, .int .i64 (m : Int)] w fun e w' => e = .returned (.bool (prB s i a b c d m)) ∧ w = w' := by
  have h1 := within_any s i a b w hs
  have h2 := within_any s (i + 1) c d w hs
  have h3 := tail_any s (i + 2) m w hs (by omega) hm
  rw [show ((i + 1 : Nat) : Int) = (i : Int) + 1 by omega] at h2
  rw [show ((i + 2 : Nat) : Int) = (i : Int) + 2 by omega] at h3
  have HP := hide (show prB s i a b c d m = (wi s i a b && (wi s (i + 1) c d && tlB s (i + 2) m)) from rfl)
  generalize prB s i a b c d m = R at *
  generalize wi s i a b = x at *
  generalize wi s (i + 1) c d = y at *
  generalize tlB s (i + 2) m = z at *
  have H1 := hide h1
  have H2 := hide h2
  have H3 := hide h3
  clear h1 h2 h3
  go_enter Tryd.func33, Tryd.ntmps33
  go_wp2_with fail
  refine H1.out.mono ?_
  rintro e w1 ⟨rfl, rfl⟩
  go_wp2_with fail
  refine H2.out.mono ?_
  rintro e w1 ⟨rfl, rfl⟩
  go_wp2_with fail
  refine H3.out.mono ?_
  rintro e w1 ⟨rfl, rfl⟩
  cases x <;> cases y <;> cases z <;> (go_wp2; go_ret; exact ⟨ret_bool (by rw [HP.out]; rfl), rfl⟩)

/-- how many bytes the character at a place has; 0: none begins there -/
def chZ (s : ByteArray) (i : Nat) : Int :=
  if wi s i 0 127 then 1 else if prB s i 194 223 128 191 0 then 2
  else if prB s i 224 224 160 191 1 || prB s i 225 236 128 191 1 || prB s i 237 237 128 159 1 || prB s i 238 239 128 191 1 then 3
  else if prB s i 240 240 144 191 2 || prB s i 241 243 128 191 2 || prB s i 244 244 128 143 2 then 4 else 0
set_option maxRecDepth 100000 in
set_option maxHeartbeats 1000000 in
theorem char_any (s : ByteArray) (i : Nat) (w : World) (hs : s.size ≤ 281474976710656) (hi : i ≤ 281474976710656) :
    Calls Tryd.prog 30 #[.string s, .int .i64 (i : Int)] w fun e w' => e = .returned (.int .i64 (chZ s i)) ∧ w = w' := by
  have h0 := within_any s i 0 127 w hs
  have h2 := pair_any s i 0 194 223 128 191 w hs hi (by omega)
  have ha := pair_any s i 1 224 224 160 191 w hs hi (by omega)
  have hb := pair_any s i 1 225 236 128 191 w hs hi (by omega)
  have hc := pair_any s i 1 237 237 128 159 w hs hi (by omega)
  have hd := pair_any s i 1 238 239 128 191 w hs hi (by omega)
  have he := pair_any s i 2 240 240 144 191 w hs hi (by omega)
  have hf := pair_any s i 2 241 243 128 191 w hs hi (by omega)
  have hg := pair_any s i 2 244 244 128 143 w hs hi (by omega)
  have HQ := hide (show chZ s i = (if wi s i 0 127 then 1 else if prB s i 194 223 128 191 0 then 2
    else if prB s i 224 224 160 191 1 || prB s i 225 236 128 191 1 || prB s i 237 237 128 159 1 || prB s i 238 239 128 191 1 then 3
    else if prB s i 240 240 144 191 2 || prB s i 241 243 128 191 2 || prB s i 244 244 128 143 2 then 4 else 0) from rfl)
  generalize chZ s i = R at *
  generalize wi s i 0 127 = p0 at *
  generalize prB s i 194 223 128 191 0 = p2 at *
  generalize prB s i 224 224 160 191 1 = pa at *
  generalize prB s i 225 236 128 191 1 = pb at *
  generalize prB s i 237 237 128 159 1 = pc at *
  generalize prB s i 238 239 128 191 1 = pd at *
  generalize prB s i 240 240 144 191 2 = pe at *
  generalize prB s i 241 243 128 191 2 = pf at *
  generalize prB s i 244 244 128 143 2 = pg at *
  have H0 := hide h0
  have H2 := hide h2
  have HA := hide ha
  have HB := hide hb
  have HC := hide hc
  have HD := hide hd
  have HE := hide he
  have HF := hide hf
  have HG := hide hg
  clear h0 h2 ha hb hc hd he hf hg
  go_enter Tryd.func30, Tryd.ntmps30
  go_wp2_with fail
  refine H0.out.mono ?_
  rintro e w1 ⟨rfl, rfl⟩
  cases p0 with
  | true => go_wp2; go_ret; exact ⟨ret_int (by rw [HQ.out]; rfl), rfl⟩
  | false =>
  go_wp2_with fail
  refine H2.out.mono ?_
  rintro e w1 ⟨rfl, rfl⟩
  cases p2 with
  | true => go_wp2; go_ret; exact ⟨ret_int (by rw [HQ.out]; rfl), rfl⟩
  | false =>
  go_wp2_with fail
  refine HA.out.mono ?_
  rintro e w1 ⟨rfl, rfl⟩
  go_wp2_with fail
  refine HB.out.mono ?_
  rintro e w1 ⟨rfl, rfl⟩
  go_wp2_with fail
  refine HC.out.mono ?_
  rintro e w1 ⟨rfl, rfl⟩
  go_wp2_with fail
  refine HD.out.mono ?_
  rintro e w1 ⟨rfl, rfl⟩
  have H3 := hide (show (pa || pb || pc || pd) = true ∨ (pa || pb || pc || pd) = false by cases (pa || pb || pc || pd) <;> simp)
  rcases H3.out with h3 | h3
  · have H4 := hide h3
    clear h3 H3
    cases pa <;> cases pb <;> cases pc <;> cases pd <;> first | (exact absurd H4.out (by decide)) | (go_wp2; go_ret; exact ⟨ret_int (by rw [HQ.out]; rfl), rfl⟩)
  · obtain ⟨rfl, rfl, rfl, rfl⟩ : pa = false ∧ pb = false ∧ pc = false ∧ pd = false := by
      revert h3; cases pa <;> cases pb <;> cases pc <;> cases pd <;> simp
    clear h3 H3
    go_wp2_with fail
    refine HE.out.mono ?_
    rintro e w1 ⟨rfl, rfl⟩
    go_wp2_with fail
    refine HF.out.mono ?_
    rintro e w1 ⟨rfl, rfl⟩
    go_wp2_with fail
    refine HG.out.mono ?_
    rintro e w1 ⟨rfl, rfl⟩
    cases pe <;> cases pf <;> cases pg <;> (go_wp2; go_ret; exact ⟨ret_int (by rw [HQ.out]; rfl), rfl⟩)
end Go.Proofs.YtjgdebifomkkcaaDoor
