import Derived.Test.YtdcoafpenkofoaaGreatDoorMath
import Derived.Test.YtdcoafpenkofoaaGreatDoorDByte

/- Stage 20: a log as plain data. -/
namespace Go.Proofs.YtdcoafpenkofoaaGreatDoor
set_option linter.unusedVariables false
set_option linter.unusedSimpArgs false
def getN (l : List Nat) : Nat := l.foldl (fun m c => m * 256 + c) 0
theorem getN_snoc (l : List Nat) (c : Nat) : getN (l ++ [c]) = getN l * 256 + c := by unfold getN; rw [List.foldl_append]; rfl
theorem fold_lt (l : List Nat) (m : Nat) (h : ∀ c ∈ l, c < 256) : l.foldl (fun m c => m * 256 + c) m + 1 ≤ (m + 1) * 256 ^ l.length := by
  induction l generalizing m with
  | nil => simp
  | cons c l ih =>
    have h1 := ih (m * 256 + c) (fun d hd => h d (by simp [hd]))
    have h2 := h c (by simp)
    rw [List.foldl_cons, List.length_cons, Nat.pow_succ, Nat.mul_comm (256 ^ l.length) 256, ← Nat.mul_assoc]
    exact Nat.le_trans h1 (Nat.mul_le_mul_right _ (by omega))
theorem getN_lt (l : List Nat) (h : ∀ c ∈ l, c < 256) : getN l < 256 ^ l.length := by
  have := fold_lt l 0 h
  unfold getN
  omega
theorem getN_lt4 {l : List Nat} (h : ∀ c ∈ l, c < 256) (hl : l.length ≤ 4) : getN l < 4294967296 :=
  Nat.lt_of_lt_of_le (getN_lt l h) (Nat.le_trans (Nat.pow_le_pow_right (by omega) hl) (by decide))
/-- the sum of bytes -/
def sumN (l : List Nat) : Nat := 4294967295 ^^^ Oc.crc 4294967295 l
theorem sumN_lt {l : List Nat} (h : ∀ c ∈ l, c < 256) : sumN l < 4294967296 := Nat.xor_lt_two_pow (n := 32) (by omega) (Oc.crc_lt l _ (by omega) h)
/-- does the sum stand at a place? -/
def sst (b : List Nat) (i : Nat) : Bool := decide (i + 4 ≤ b.length) && decide (getN ((b.drop i).take 4) = sumN (b.take i))
/-- a body's records -/
def splF : Nat → List Nat → Option (List (List Nat))
  | 0, _ => some []
  | n + 1, b => if b.length = 0 then some [] else if b.length < 4 then none else if getN (b.take 4) < 1 ∨ 1049600 < getN (b.take 4) ∨ b.length - 4 < getN (b.take 4) then none
    else (splF n (b.drop (4 + getN (b.take 4)))).map fun t => (b.drop 4).take (getN (b.take 4)) :: t
def spl (b : List Nat) : Option (List (List Nat)) := splF b.length b
theorem splF_more : ∀ (n m : Nat) (b : List Nat), b.length ≤ n → b.length ≤ m → splF n b = splF m b
  | 0, 0, _, _, _ => rfl
  | 0, m + 1, b, h, _ => by rw [splF, splF, if_pos (by omega)]
  | n + 1, 0, b, _, h => by rw [splF, splF, if_pos (by omega)]
  | n + 1, m + 1, b, h1, h2 => by
    rw [splF, splF]
    by_cases h0 : b.length = 0
    · rw [if_pos h0, if_pos h0]
    · rw [if_neg h0, if_neg h0]
      split
      · rfl
      · split
        · rfl
        · rw [splF_more n m _ (by rw [List.length_drop]; omega) (by rw [List.length_drop]; omega)]
theorem spl_eq (b : List Nat) : spl b = if b.length = 0 then some [] else if b.length < 4 then none else if getN (b.take 4) < 1 ∨ 1049600 < getN (b.take 4) ∨ b.length - 4 < getN (b.take 4) then none
    else (spl (b.drop (4 + getN (b.take 4)))).map fun t => (b.drop 4).take (getN (b.take 4)) :: t := by
  unfold spl
  rw [splF_more b.length (b.length + 1) b (by omega) (by omega), splF]
  by_cases h0 : b.length = 0
  · rw [if_pos h0, if_pos h0]
  · rw [if_neg h0, if_neg h0, splF_more b.length (b.drop (4 + getN (b.take 4))).length _ (by rw [List.length_drop]; omega) (by omega)]
/-- the whole batch that bytes begin with: 0, its records, its size; 1: it does not end; 2: it is torn -/
def fst1 (b : List Nat) : Nat × List (List Nat) × Nat :=
  if b.length < 8 then (1, [], 0) else if getN (b.take 4) < 5 ∨ sst b 4 = false then (2, [], 0)
  else if b.length < 8 + getN (b.take 4) + 4 then (1, [], 0) else if sst b (8 + getN (b.take 4)) = false then (2, [], 0)
  else match spl ((b.drop 8).take (getN (b.take 4))) with
    | none => (2, [], 0)
    | some l => (0, l, 12 + getN (b.take 4))
/-- a log's whole batches, the place behind them, what is amiss there -/
def wlF : Nat → List Nat → List (List (List Nat)) × Nat × Nat
  | 0, _ => ([], 0, 0)
  | n + 1, b => if b.length = 0 then ([], 0, 0) else if (fst1 b).1 ≠ 0 then ([], 0, (fst1 b).1)
    else ((fst1 b).2.1 :: (wlF n (b.drop (fst1 b).2.2)).1, (fst1 b).2.2 + (wlF n (b.drop (fst1 b).2.2)).2.1, (wlF n (b.drop (fst1 b).2.2)).2.2)
def wl (b : List Nat) : List (List (List Nat)) × Nat × Nat := wlF b.length b
theorem fst1_size (b : List Nat) (h : (fst1 b).1 = 0) : 17 ≤ (fst1 b).2.2 ∧ (fst1 b).2.2 ≤ b.length ∧ (fst1 b).2.2 = 12 + getN (b.take 4) := by
  unfold fst1 at h ⊢
  split at h
  · simp at h
  · split at h
    · simp at h
    · split at h
      · simp at h
      · split at h
        · simp at h
        · rename_i h1 h2 h3 h4
          rw [if_neg h1, if_neg h2, if_neg h3, if_neg h4]
          split at h
          · simp at h
          · exact ⟨by show 17 ≤ 12 + _; omega, by show 12 + _ ≤ _; omega, rfl⟩
theorem wlF_more : ∀ (n m : Nat) (b : List Nat), b.length ≤ n → b.length ≤ m → wlF n b = wlF m b
  | 0, 0, _, _, _ => rfl
  | 0, m + 1, b, h, _ => by rw [wlF, wlF, if_pos (by omega)]
  | n + 1, 0, b, _, h => by rw [wlF, wlF, if_pos (by omega)]
  | n + 1, m + 1, b, h1, h2 => by
    rw [wlF, wlF]
    by_cases h0 : b.length = 0
    · rw [if_pos h0, if_pos h0]
    · rw [if_neg h0, if_neg h0]
      by_cases h3 : (fst1 b).1 ≠ 0
      · rw [if_pos h3, if_pos h3]
      · rw [if_neg h3, if_neg h3]
        have := fst1_size b (by simpa using h3)
        rw [wlF_more n m _ (by rw [List.length_drop]; omega) (by rw [List.length_drop]; omega)]
theorem wl_nil {b : List Nat} (h : b.length = 0) : wl b = ([], 0, 0) := by
  have : b = [] := List.length_eq_zero_iff.1 h
  subst this
  rfl
theorem wl_bad {b : List Nat} (h0 : b.length ≠ 0) (h : (fst1 b).1 ≠ 0) : wl b = ([], 0, (fst1 b).1) := by
  unfold wl
  rw [wlF_more b.length (b.length + 1) b (by omega) (by omega), wlF, if_neg h0, if_pos h]
theorem wl_one {b : List Nat} (h0 : b.length ≠ 0) (h : (fst1 b).1 = 0) : wl b = ((fst1 b).2.1 :: (wl (b.drop (fst1 b).2.2)).1, (fst1 b).2.2 + (wl (b.drop (fst1 b).2.2)).2.1, (wl (b.drop (fst1 b).2.2)).2.2) := by
  unfold wl
  have := fst1_size b h
  rw [wlF_more b.length (b.length + 1) b (by omega) (by omega), wlF, if_neg h0, if_neg (by simpa using h), wlF_more b.length (b.drop (fst1 b).2.2).length _ (by rw [List.length_drop]; omega) (by omega)]
theorem wl_end : ∀ (n : Nat) (b : List Nat), b.length ≤ n → (wl b).2.1 ≤ b.length ∧ ((wl b).2.2 = 0 ↔ (wl b).2.1 = b.length)
  | 0, b, h => by rw [wl_nil (by omega)]; exact ⟨by simp, by simp; omega⟩
  | n + 1, b, h => by
    by_cases h0 : b.length = 0
    · rw [wl_nil h0]; exact ⟨by simp, by simp; omega⟩
    · by_cases h1 : (fst1 b).1 = 0
      · have h2 := fst1_size b h1
        have h3 := wl_end n (b.drop (fst1 b).2.2) (by rw [List.length_drop]; omega)
        rw [List.length_drop] at h3
        rw [wl_one h0 h1]
        refine ⟨by show (fst1 b).2.2 + _ ≤ _; omega, h3.2.trans ?_⟩
        show _ ↔ (fst1 b).2.2 + _ = _
        omega
      · rw [wl_bad h0 h1]
        exact ⟨by simp, ⟨fun h => absurd h h1, fun h => absurd h.symm h0⟩⟩
end Go.Proofs.YtdcoafpenkofoaaGreatDoor


/- Stage 20: bytes that are read, for octet. -/
namespace Go.Proofs.YtdcoafpenkofoaaGreatDoor
open Go.RowKit
theorem Rd.lt {w a n l} (h : Rd w a n l) (j : Nat) (hj : j < n) : l.getD j 0 < 256 := by
  rw [List.getD_eq_getElem?_getD, List.getElem?_eq_getElem (by rw [h.1]; exact hj)]
  exact h.2.1 _ (List.getElem_mem _)
theorem take_snocN (l : List Nat) (k : Nat) (h : k < l.length) : l.take (k + 1) = l.take k ++ [l.getD k 0] := by
  rw [List.take_succ_eq_append_getElem h, List.getD_eq_getElem?_getD, List.getElem?_eq_getElem h]; rfl
theorem take_lt {l : List Nat} (h : ∀ c ∈ l, c < 256) (k : Nat) : ∀ c ∈ l.take k, c < 256 := fun c hc => h c (List.mem_of_mem_take hc)
theorem crc_flat_snoc (r : Nat) (ls : List (List Nat)) (k : Nat) (h : k < ls.length) :
    Oc.crc r (ls.take (k + 1)).flatten = Oc.crc (Oc.crc r (ls.take k).flatten) (ls.getD k []) := by
  rw [← Oc.crc_append, List.take_succ_eq_append_getElem h, List.flatten_append, List.getD_eq_getElem?_getD, List.getElem?_eq_getElem h]
  simp
theorem flat_lt {ls : List (List Nat)} (h : ∀ k, k < ls.length → ∀ c ∈ ls.getD k [], c < 256) (k : Nat) : ∀ c ∈ (ls.take k).flatten, c < 256 := by
  intro c hc
  obtain ⟨l, hl, hcl⟩ := List.mem_flatten.1 hc
  obtain ⟨i, hi, rfl⟩ := List.getElem_of_mem (List.mem_of_mem_take hl)
  have := h i hi
  rw [List.getD_eq_getElem?_getD, List.getElem?_eq_getElem hi] at this
  exact this c hcl
theorem add_none (b off j : Nat) : (⟨b, off, none⟩ : Addr).add j = ⟨b, off + j, none⟩ := by
  by_cases h : j = 0 <;> simp [Addr.add, h]
theorem ret_intJ {k : IntKind} {a b : Int} (h : a = b) : Ending.returned (.int k a) = .returned (.int k b) := by rw [h]
end Go.Proofs.YtdcoafpenkofoaaGreatDoor
