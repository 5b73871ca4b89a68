
/- Stage 17: the mathematics of a heap. -/
import Derived.Test.YtnbhifakfehefaaKLine
namespace Go.Proofs.Ytnbhifakfehefaa
open Go.RowKit
set_option linter.unusedVariables false
set_option linter.unusedSimpArgs false
def hv (H : List Nat) (k : Nat) : Nat := H.getD k 0
def par (k : Nat) : Nat := (k - 1) / 2
def sw (H : List Nat) (i j : Nat) : List Nat := (H.set i (hv H j)).set j (hv H i)
theorem sw_len (H : List Nat) (i j : Nat) : (sw H i j).length = H.length := by simp [sw]
theorem hv_get (H : List Nat) (k : Nat) (h : k < H.length) : H[k]? = some (hv H k) := by simp [hv, List.getD_eq_getElem?_getD, h]
theorem hv_sw (H : List Nat) (i j k : Nat) (hi : i < H.length) (hj : j < H.length) : hv (sw H i j) k = if k = j then hv H i else if k = i then hv H j else hv H k := by
  unfold sw
  unfold hv
  simp only [List.getD_eq_getElem?_getD, List.getElem?_set]
  by_cases h1 : k = j
  · subst h1
    simp [hj]
  · rw [if_neg h1]
    by_cases h2 : k = i
    · subst h2
      rw [if_pos rfl, if_neg (fun e : j = k => h1 e.symm)]
      simp [hi]
    · rw [if_neg h2, if_neg (fun e : j = k => h1 e.symm), if_neg (fun e : i = k => h2 e.symm)]
theorem sw_perm (H : List Nat) (i j : Nat) (hi : i < H.length) (hj : j < H.length) : (sw H i j).Perm H := by
  unfold sw hv
  simp only [List.getD_eq_getElem?_getD, List.getElem?_eq_getElem hi, List.getElem?_eq_getElem hj, Option.getD_some]
  exact List.set_set_perm hi hj
section
variable {le : Nat → Nat → Prop} {H : List Nat} {i j n : Nat} {b : Bool}
def HeapOk (le : Nat → Nat → Prop) (H : List Nat) (n : Nat) : Prop := ∀ k, 0 < k → k < n → le (hv H (par k)) (hv H k)
def UpI (le : Nat → Nat → Prop) (H : List Nat) (n j : Nat) : Prop := (∀ k, 0 < k → k < n → k ≠ j → le (hv H (par k)) (hv H k)) ∧ (∀ k, 0 < k → k < n → 0 < j → par k = j → le (hv H (par j)) (hv H k))
def DownI (le : Nat → Nat → Prop) (H : List Nat) (n i : Nat) (b : Bool) : Prop := (∀ k, 0 < k → k < n → par k ≠ i → (k ≠ i ∨ b = true) → le (hv H (par k)) (hv H k)) ∧ (∀ k, 0 < k → k < n → 0 < i → par k = i → le (hv H (par i)) (hv H k))
theorem up_end (h : UpI le H n j) (hj : j = 0 ∨ le (hv H (par j)) (hv H j)) : HeapOk le H n := fun k h0 hk => by
  by_cases e : k = j
  · subst e
    rcases hj with rfl | hj
    · omega
    · exact hj
  · exact h.1 k h0 hk e
theorem up_step (ht : ∀ a b c, le a b → le b c → le a c) (h : UpI le H n j) (h0 : 0 < j) (hj : j < n) (hn : n ≤ H.length) (hl : le (hv H j) (hv H (par j))) : UpI le (sw H (par j) j) n (par j) := by
  have hp : par j < j := by unfold par; omega
  have hs := fun k => hv_sw H (par j) j k (by omega) (by omega)
  refine ⟨fun k k0 kn ke => ?_, fun k k0 kn p0 pk => ?_⟩
  · have hpk : par k < k := by unfold par; omega
    rw [hs, hs]
    by_cases e : k = j
    · subst e
      rw [if_neg (by omega), if_pos rfl, if_pos rfl]
      exact hl
    · rw [if_neg e, if_neg ke]
      by_cases e1 : par k = j
      · rw [if_pos e1]
        exact h.2 k k0 kn h0 e1
      · rw [if_neg e1]
        by_cases e2 : par k = par j
        · rw [if_pos e2]
          have := h.1 k k0 kn e
          rw [e2] at this
          exact ht _ _ _ hl this
        · rw [if_neg e2]
          exact h.1 k k0 kn e
  · have hpp : par (par j) < par j := by unfold par at *; omega
    have hpk : par k < k := by unfold par; omega
    rw [hs, hs, if_neg (by omega), if_neg (by omega)]
    have h1 : le (hv H (par (par j))) (hv H (par j)) := h.1 (par j) p0 (by omega) (by omega)
    by_cases e : k = j
    · rw [if_pos e]
      exact h1
    · rw [if_neg e, if_neg (by omega)]
      have := h.1 k k0 kn e
      rw [pk] at this
      exact ht _ _ _ h1 this
theorem down_step (h : DownI le H n i b) (hj : j < n) (hn : n ≤ H.length) (hc : par j = i) (j0 : 0 < j) (hm : ∀ c, 0 < c → c < n → par c = i → le (hv H j) (hv H c)) (hl : le (hv H j) (hv H i)) : DownI le (sw H i j) n j true := by
  have hp : i < j := by unfold par at hc; omega
  have hs := fun k => hv_sw H i j k (by omega) (by omega)
  refine ⟨fun k k0 kn pk _ => ?_, fun k k0 kn _ pk => ?_⟩
  · have hpk : par k < k := by unfold par; omega
    rw [hs, hs, if_neg pk]
    by_cases e : k = j
    · subst e
      rw [if_pos hc, if_pos rfl]
      exact hl
    · rw [if_neg e]
      by_cases e1 : par k = i
      · rw [if_pos e1, if_neg (by omega)]
        exact hm k k0 kn e1
      · rw [if_neg e1]
        by_cases e2 : k = i
        · rw [if_pos e2]
          subst e2
          exact h.2 j j0 hj k0 hc
        · rw [if_neg e2]
          exact h.1 k k0 kn e1 (.inl e2)
  · have hpk : par k < k := by unfold par; omega
    rw [hs, hs, hc, if_neg (by omega), if_pos rfl, if_neg (by omega), if_neg (by omega)]
    have := h.1 k k0 kn (by omega) (.inl (by omega))
    rw [pk] at this
    exact this
theorem down_end (h : DownI le H n i true) (hc : ∀ c, 0 < c → c < n → par c = i → le (hv H i) (hv H c)) : HeapOk le H n := fun k k0 kn => by
  by_cases e : par k = i
  · rw [e]; exact hc k k0 kn e
  · exact h.1 k k0 kn e (.inr rfl)
theorem down_end' (h : DownI le H n i b) (hc : ∀ c, 0 < c → c < n → par c = i → le (hv H i) (hv H c)) : UpI le H n i := by
  refine ⟨fun k k0 kn ke => ?_, h.2⟩
  by_cases e : par k = i
  · rw [e]; exact hc k k0 kn e
  · exact h.1 k k0 kn e (.inl ke)
/-- at the head stands the first -/
theorem heap_first (ht : ∀ a b c, le a b → le b c → le a c) (hr : ∀ a, le a a) (h : HeapOk le H n) : ∀ k, k < n → le (hv H 0) (hv H k) := by
  intro k
  induction k using Nat.strongRecOn with
  | ind k ih =>
    intro hk
    by_cases k0 : k = 0
    · subst k0; exact hr _
    · have : par k < k := by unfold par; omega
      exact ht _ _ _ (ih (par k) this (by omega)) (h k (by omega) hk)
end
/-- by what stands in the blocks -/
def leE (E : Nat → It) (a b : Nat) : Prop := ¬ Ahead (E b) (E a)
theorem leE_trans (E : Nat → It) (a b c : Nat) (h1 : leE E a b) (h2 : leE E b c) : leE E a c := by
  unfold leE Ahead at *
  omega
theorem leE_refl (E : Nat → It) (a : Nat) : leE E a a := by unfold leE Ahead; omega
theorem leE_of (E : Nat → It) (a b : Nat) (h : Ahead (E a) (E b)) : leE E a b := by unfold leE Ahead at *; omega
end Go.Proofs.Ytnbhifakfehefaa
