
/- Plain mathematics of layer 1 (octet): the check sum, bit by bit and half a byte at a time; numbers as bytes. It imports nothing of the program. -/
import Derived.Laws.BitsAllLaws
namespace Go.Proofs.YtdcoafpenkofoaaGreatDoor.Oc

/-! ### the check sum -/
def poly : Nat := 3988292384
def halves : List Nat := [0, 498536548, 997073096, 651767980, 1994146192, 1802195444, 1303535960, 1342533948, 3988292384, 4027552580, 3604390888, 3412177804, 2607071920, 2262029012, 2685067896, 3183342108]
def half (j : Nat) : Nat := halves.getD j 0
/-- four shifts at one go -/
def nib (x : Nat) : Nat := (x / 16) ^^^ half (x % 16)
/-- a byte, by two halves -/
def stp (r c : Nat) : Nat := nib (nib (r ^^^ c))
/-- one shift -/
def bs (x : Nat) : Nat := if x % 2 = 1 then (x / 2) ^^^ poly else x / 2
def bsN : Nat → Nat → Nat
  | 0, x => x
  | n + 1, x => bsN n (bs x)
def crc (r : Nat) (l : List Nat) : Nat := l.foldl stp r

theorem half_lt (j : Nat) : half j < 4294967296 := by
  unfold half
  by_cases h : j < 16
  · have hall : ∀ j, j < 16 → halves.getD j 0 < 4294967296 := by decide
    exact hall j h
  · have : halves.getD j 0 = 0 := by
      rw [List.getD_eq_getElem?_getD, List.getElem?_eq_none (by simp [halves]; omega)]; rfl
    rw [this]; decide
theorem nib_lt (x : Nat) (h : x < 4294967296) : nib x < 4294967296 := by
  unfold nib
  exact Nat.xor_lt_two_pow (n := 32) (by omega) (half_lt _)
theorem stp_lt (r c : Nat) (h : r < 4294967296) (hc : c < 256) : stp r c < 4294967296 := by
  unfold stp
  exact nib_lt _ (nib_lt _ (Nat.xor_lt_two_pow (n := 32) h (by omega)))
theorem crc_lt (l : List Nat) (r : Nat) (h : r < 4294967296) (hl : ∀ c ∈ l, c < 256) : crc r l < 4294967296 := by
  induction l generalizing r with
  | nil => exact h
  | cons c l ih => exact ih _ (stp_lt _ _ h (hl c (by simp))) (fun d hd => hl d (by simp [hd]))
theorem crc_append (r : Nat) (l m : List Nat) : crc r (l ++ m) = crc (crc r l) m := List.foldl_append
theorem crc_snoc (r : Nat) (l : List Nat) (c : Nat) : crc r (l ++ [c]) = stp (crc r l) c := by rw [crc_append]; rfl

theorem xor_half (a b : Nat) : (a ^^^ b) / 2 = a / 2 ^^^ b / 2 := by
  have h := Nat.shiftRight_xor_distrib (a := a) (b := b) (i := 1)
  simpa [Nat.shiftRight_succ] using h
theorem xor_odd (a b : Nat) : (a ^^^ b) % 2 = (a % 2 + b % 2) % 2 := by
  have h := Nat.testBit_xor a b 0
  simp only [Nat.testBit_zero] at h
  have ha := Nat.mod_two_eq_zero_or_one a
  have hb := Nat.mod_two_eq_zero_or_one b
  have hc := Nat.mod_two_eq_zero_or_one (a ^^^ b)
  rcases ha with ha | ha <;> rcases hb with hb | hb <;> rcases hc with hc | hc <;> simp_all
theorem bs_xor (a b : Nat) : bs (a ^^^ b) = bs a ^^^ bs b := by
  unfold bs
  have h := xor_odd a b
  have ha := Nat.mod_two_eq_zero_or_one a
  have hb := Nat.mod_two_eq_zero_or_one b
  rw [xor_half]
  rcases ha with ha | ha <;> rcases hb with hb | hb <;> rw [ha, hb] at h <;> simp only [ha, hb, h]
  · simp
  · simp [Nat.xor_assoc]
  · simp only [Nat.zero_ne_one, if_true, if_false]
    rw [Nat.xor_assoc, Nat.xor_comm (b / 2), ← Nat.xor_assoc]
  · simp only [Nat.reduceAdd, Nat.reduceMod, Nat.zero_ne_one, if_true, if_false]
    rw [Nat.xor_assoc, Nat.xor_comm poly, Nat.xor_assoc, Nat.xor_self, Nat.xor_zero]
theorem bs_zero : bs 0 = 0 := by decide
theorem bs_two (x : Nat) : bs (2 * x) = x := by
  unfold bs
  rw [if_neg (by omega)]; omega
theorem bsN_xor (n a b : Nat) : bsN n (a ^^^ b) = bsN n a ^^^ bsN n b := by
  induction n generalizing a b with
  | zero => rfl
  | succ n ih => simp only [bsN, bs_xor, ih]
theorem bsN_zero (n : Nat) : bsN n 0 = 0 := by
  induction n with
  | zero => rfl
  | succ n ih => simp only [bsN, bs_zero, ih]
theorem bsN_add (m n x : Nat) : bsN (m + n) x = bsN n (bsN m x) := by
  induction m generalizing x with
  | zero => simp [bsN]
  | succ m ih => rw [Nat.succ_add]; simp only [bsN, ih]
theorem bsN_pow (n x : Nat) : bsN n (2 ^ n * x) = x := by
  induction n generalizing x with
  | zero => simp [bsN]
  | succ n ih =>
    simp only [bsN]
    rw [show 2 ^ (n + 1) * x = 2 * (2 ^ n * x) by rw [Nat.pow_succ, Nat.mul_comm (2 ^ n) 2, Nat.mul_assoc], bs_two, ih]
/-- the lower part and the upper part of a number, as a xor -/
theorem split_xor (n x : Nat) : x = (2 ^ n * (x / 2 ^ n)) ^^^ (x % 2 ^ n) := by
  apply Nat.eq_of_testBit_eq
  intro i
  rw [Nat.testBit_xor, Nat.testBit_mod_two_pow, Nat.testBit_two_pow_mul, Nat.testBit_div_two_pow]
  by_cases h : n ≤ i
  · have h2 : ¬ i < n := by omega
    rw [show i - n + n = i by omega]; simp [h, h2]
  · have h2 : i < n := by omega
    simp [h, h2]
theorem bsN_low (n x : Nat) : bsN n x = (x / 2 ^ n) ^^^ bsN n (x % 2 ^ n) := by
  conv => lhs; rw [split_xor n x]
  rw [bsN_xor, bsN_pow]
theorem nib_eq (x : Nat) : nib x = bsN 4 x := by
  rw [bsN_low 4 x]
  unfold nib
  have h : ∀ j, j < 16 → half j = bsN 4 j := by decide
  rw [h (x % 16) (by omega)]
theorem stp_eq (r c : Nat) : stp r c = bsN 8 (r ^^^ c) := by
  unfold stp
  rw [nib_eq, nib_eq, ← bsN_add]
/-- two registers' difference goes on by itself -/
theorem stp_xor (r d c x : Nat) : stp (r ^^^ d) (c ^^^ x) = stp r c ^^^ bsN 8 (d ^^^ x) := by
  rw [stp_eq, stp_eq, ← bsN_xor]
  congr 1
  apply Nat.eq_of_testBit_eq
  intro i
  simp only [Nat.testBit_xor]
  cases r.testBit i <;> cases d.testBit i <;> cases c.testBit i <;> cases x.testBit i <;> rfl
theorem bs_lt (x : Nat) (h : x < 4294967296) : bs x < 4294967296 := by
  unfold bs
  split
  · exact Nat.xor_lt_two_pow (n := 32) (by omega) (by decide)
  · omega
theorem bs_ne (x : Nat) (h : x < 4294967296) (h0 : x ≠ 0) : bs x ≠ 0 := by
  unfold bs
  split
  · intro he
    have h1 : x / 2 = poly := by
      have := congrArg (· ^^^ poly) he
      simpa [Nat.xor_assoc] using this
    simp only [poly] at h1
    omega
  · omega
theorem bsN_lt (n x : Nat) (h : x < 4294967296) : bsN n x < 4294967296 := by
  induction n generalizing x with
  | zero => exact h
  | succ n ih => exact ih _ (bs_lt _ h)
theorem bsN_ne (n x : Nat) (h : x < 4294967296) (h0 : x ≠ 0) : bsN n x ≠ 0 := by
  induction n generalizing x with
  | zero => exact h0
  | succ n ih => exact ih _ (bs_lt _ h) (bs_ne _ h h0)
end Go.Proofs.YtdcoafpenkofoaaGreatDoor.Oc
