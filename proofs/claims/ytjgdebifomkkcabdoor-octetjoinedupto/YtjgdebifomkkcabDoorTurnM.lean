/- Bits turned within 32 neighbouring places: the plain mathematics. -/
import Derived.Test.YtjgdebifomkkcabDoorMath
namespace Go.Proofs.YtjgdebifomkkcabDoor.Oc

/-- the first j bytes turned by the number's bytes, the lowest one first -/
def mixL : Nat → Nat → List Nat → List Nat
  | 0, _, l => l
  | _ + 1, _, [] => []
  | j + 1, W, c :: l => (c ^^^ (W % 256)) :: mixL j (W / 256) l
theorem mixL_length (j W : Nat) (l : List Nat) : (mixL j W l).length = l.length := by
  induction j generalizing W l with
  | zero => rfl
  | succ j ih =>
    cases l with
    | nil => rfl
    | cons c l => simp only [mixL, List.length_cons, ih]
theorem mixL_getD (j W : Nat) (l : List Nat) : (mixL j W l).getD j 0 = l.getD j 0 := by
  induction j generalizing W l with
  | zero => rfl
  | succ j ih =>
    cases l with
    | nil => rfl
    | cons c l => simpa [mixL, List.getD_eq_getElem?_getD] using ih (W / 256) l
theorem mixL_step (j W : Nat) (l : List Nat) : mixL (j + 1) W l = (mixL j W l).set j (l.getD j 0 ^^^ (W / 256 ^ j % 256)) := by
  induction j generalizing W l with
  | zero =>
    cases l with
    | nil => rfl
    | cons c l => simp [mixL]
  | succ j ih =>
    cases l with
    | nil => rfl
    | cons c l =>
      have h := ih (W / 256) l
      rw [mixL, h, mixL, List.set_cons_succ, Nat.div_div_eq_div_mul, Nat.pow_succ, Nat.mul_comm 256]
      simp [List.getD_eq_getElem?_getD]
theorem mixL_lt (j W : Nat) (l : List Nat) (h : ∀ c ∈ l, c < 256) : ∀ c ∈ mixL j W l, c < 256 := by
  induction j generalizing W l with
  | zero => exact h
  | succ j ih =>
    cases l with
    | nil => exact h
    | cons c l =>
      intro d hd
      simp only [mixL, List.mem_cons] at hd
      rcases hd with rfl | hd
      · exact Nat.xor_lt_two_pow (n := 8) (h c (by simp)) (by omega)
      · exact ih _ _ (fun e he => h e (by simp [he])) d hd
/-- the two registers' difference -/
def sh8 (d : Nat) : Nat := bsN 8 d
def dif : List Nat → Nat → Nat → Nat → Nat
  | [], _, _, d => d
  | _ :: l, 0, W, d => dif l 0 W (sh8 d)
  | _ :: l, j + 1, W, d => dif l j (W / 256) (sh8 (d ^^^ (W % 256)))
theorem crc_cons (r c : Nat) (l : List Nat) : crc r (c :: l) = crc (stp r c) l := rfl
theorem dif_zero (W d c : Nat) (l : List Nat) : dif (c :: l) 0 W d = dif l 0 W (sh8 d) := rfl
theorem dif_succ (j W d c : Nat) (l : List Nat) : dif (c :: l) (j + 1) W d = dif l j (W / 256) (sh8 (d ^^^ (W % 256))) := rfl
theorem dif_nil (j W d : Nat) : dif [] j W d = d := rfl
theorem mixL_nil (j W : Nat) : mixL j W [] = [] := by cases j <;> simp only [mixL]
theorem crc_mix (l : List Nat) : ∀ j W r d, crc (r ^^^ d) (mixL j W l) = crc r l ^^^ dif l j W d := by
  induction l with
  | nil =>
    intro j W r d
    rw [mixL_nil, dif_nil]
    rfl
  | cons c l ih =>
    intro j W r d
    cases j with
    | zero =>
      have h := stp_xor r d c 0
      rw [Nat.xor_zero, Nat.xor_zero] at h
      have h2 := ih 0 W (stp r c) (sh8 d)
      have e0 : ∀ m : List Nat, mixL 0 W m = m := fun m => by simp only [mixL]
      rw [e0] at h2 ⊢
      rw [crc_cons, crc_cons, dif_zero, h]
      exact h2
    | succ j =>
      have h := stp_xor r d c (W % 256)
      have e1 : mixL (j + 1) W (c :: l) = (c ^^^ (W % 256)) :: mixL j (W / 256) l := by simp only [mixL]
      rw [e1, crc_cons, crc_cons, dif_succ, h]
      exact ih j (W / 256) (stp r c) (sh8 (d ^^^ (W % 256)))
theorem bsN_byte (d V : Nat) : bsN 8 (d ^^^ V) = bsN 8 (d ^^^ (V % 256)) ^^^ (V / 256) := by
  have h := split_xor 8 V
  have e : d ^^^ V = (d ^^^ (V % 256)) ^^^ (2 ^ 8 * (V / 2 ^ 8)) := by
    conv => lhs; rw [h]
    rw [Nat.xor_comm (2 ^ 8 * (V / 2 ^ 8)), ← Nat.xor_assoc]
  rw [e, bsN_xor, bsN_pow]
theorem dif_eq (l : List Nat) : ∀ j W d, dif l j W d = bsN (8 * l.length) (d ^^^ (W % 256 ^ (min j l.length))) := by
  induction l with
  | nil => intro j W d; rw [dif_nil]; simp [bsN, Nat.mod_one]
  | cons c l ih =>
    intro j W d
    have e8 : 8 * (c :: l).length = 8 + 8 * l.length := by simp; omega
    rw [e8, bsN_add]
    cases j with
    | zero =>
      rw [dif_zero, ih]
      simp [Nat.mod_one, sh8]
    | succ j =>
      rw [dif_succ, ih, bsN_byte d (W % 256 ^ (min (j + 1) (c :: l).length))]
      have em : min (j + 1) (c :: l).length = min j l.length + 1 := by simp
      rw [em]
      have e1 : W % 256 ^ (min j l.length + 1) % 256 = W % 256 := by
        rw [Nat.pow_succ, Nat.mod_mul_left_mod]
      have e2 : W % 256 ^ (min j l.length + 1) / 256 = W / 256 % 256 ^ (min j l.length) := by
        rw [Nat.pow_succ, Nat.mul_comm, Nat.mod_mul_right_div_self]
      rw [e1, e2]
      rfl
theorem mix_ne (l : List Nat) (M s r : Nat) (hM : M < 4294967296) (hM0 : M ≠ 0) (hs : s < 8) :
    (crc r (mixL 5 (M * 2 ^ s) l) = crc r l) ↔ (M * 2 ^ s) % 256 ^ (min 5 l.length) = 0 := by
  have h := crc_mix l 5 (M * 2 ^ s) r 0
  rw [Nat.xor_zero, dif_eq, Nat.zero_xor] at h
  rw [h]
  have key : bsN (8 * l.length) ((M * 2 ^ s) % 256 ^ (min 5 l.length)) = 0 ↔ (M * 2 ^ s) % 256 ^ (min 5 l.length) = 0 := by
    constructor
    · intro hz
      by_cases h5 : 5 ≤ l.length
      · have e5 : min 5 l.length = 5 := by omega
        rw [e5] at hz ⊢
        have hlt : M * 2 ^ s < 256 ^ 5 := by
          have h1 : 2 ^ s ≤ 2 ^ 7 := Nat.pow_le_pow_right (by omega) (by omega)
          have h2 : M * 2 ^ s ≤ 4294967295 * 2 ^ 7 := Nat.mul_le_mul (by omega) h1
          have h3 : 4294967295 * 2 ^ 7 < 256 ^ 5 := by decide
          omega
        rw [Nat.mod_eq_of_lt hlt] at hz
        rw [show 8 * l.length = s + (8 * l.length - s) by omega, bsN_add, Nat.mul_comm M (2 ^ s), bsN_pow] at hz
        exact absurd hz (bsN_ne _ _ hM hM0)
      · have hlt : (M * 2 ^ s) % 256 ^ (min 5 l.length) < 4294967296 := by
          have h1 : (M * 2 ^ s) % 256 ^ (min 5 l.length) < 256 ^ (min 5 l.length) := Nat.mod_lt _ (Nat.pow_pos (by omega))
          have h2 : 256 ^ (min 5 l.length) ≤ 256 ^ 4 := Nat.pow_le_pow_right (by omega) (by omega)
          have h3 : (256 : Nat) ^ 4 = 4294967296 := by decide
          omega
        by_cases h0 : (M * 2 ^ s) % 256 ^ (min 5 l.length) = 0
        · exact h0
        · exact absurd hz (bsN_ne _ _ hlt h0)
    · intro h0
      rw [h0, bsN_zero]
  rw [← key]
  constructor
  · intro he
    have := congrArg (fun z => crc r l ^^^ z) he
    simpa [← Nat.xor_assoc] using this
  · intro he
    rw [he, Nat.xor_zero]
end Go.Proofs.YtjgdebifomkkcabDoor.Oc
