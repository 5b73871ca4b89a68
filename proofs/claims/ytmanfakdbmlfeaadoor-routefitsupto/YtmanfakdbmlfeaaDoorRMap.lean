
/- Stage 18: the table of bindings. -/
import Derived.Test.YtmanfakdbmlfeaaDoorRAddr
import Derived.Test.YtmanfakdbmlfeaaDoorLTab
import Derived.DeepKeys4
import Derived.Maps.RangeWalk
namespace Go.Proofs.YtmanfakdbmlfeaaDoor
open Go.RowKit Go.Maps
set_option linter.unusedVariables false
set_option linter.unusedSimpArgs false
abbrev Bd := ByteArray × ByteArray
def bdV (b : Bd) : Value := .agg #[.string b.1, .string b.2]
theorem bdV_inj {a b : Bd} (h : bdV a = bdV b) : a = b := by
  obtain ⟨a1, a2⟩ := a
  obtain ⟨b1, b2⟩ := b
  simp [bdV] at h
  rw [h.1, h.2]
def kb (b : Bd) : ByteArray := ⟨(keyBytes [.string b.1.data.toList, .string b.2.data.toList]).toArray⟩
theorem own_laid : laidOutB Tryd.prog = true := by kernel_rfl
theorem Tryd.bkeyed : Keyed Tryd.prog 36 := Keyed.of_law (deep_law_laid own_laid (m := 5) (by decide) (of_decide_eq_true (by kernel_rfl)) (by kernel_rfl) (by kernel_rfl))
theorem nTypes : ∃ n, Tryd.prog.types.size = n + 1 := by
  have h : 0 < Tryd.prog.types.size := of_decide_eq_true (by kernel_rfl)
  exact ⟨Tryd.prog.types.size - 1, by omega⟩
theorem cellsS : Tryd.prog.cellsOf 9 = 1 := by kernel_rfl
theorem cellsB : Tryd.prog.cellsOf 36 = 2 := by kernel_rfl
theorem keyB {b : Bd} (h1 : b.1.size ≤ maxLen) (h2 : b.2.size ≤ maxLen) : keyOf Tryd.prog 36 (bdV b) = some (.string (kb b).data.toList) := by
  obtain ⟨n, hn⟩ := nTypes
  have hk : Tryd.prog.keyType 36 = true := by kernel_rfl
  unfold keyOf
  rw [Tryd.underlying36]
  simp only [hk, Bool.true_and, Value.formed, bdV, Tryd.underlying36, cellsB]
  rw [hn]
  simp [Program.keyLits, Tryd.underlying36, Tryd.underlying9, cellsB, cellsS, Value.cells, h1, h2, kb]
theorem keyS_lits {n : Nat} {x : Value} {l : List Lit} (h : Tryd.prog.keyLits (n + 1) 9 [x] = some l) : ∃ s, x = .string s ∧ s.size ≤ maxLen ∧ l = [.string s.data.toList] := by
  cases x with
  | string s =>
    simp only [Program.keyLits, Tryd.underlying9] at h
    by_cases h1 : s.size ≤ maxLen
    · rw [if_pos h1] at h
      exact ⟨s, rfl, h1, (Option.some.inj h).symm⟩
    · rw [if_neg h1] at h
      cases h
  | _ => simp [Program.keyLits, Tryd.underlying9] at h
theorem keyB_lits {n : Nat} {x y : Value} {l : List Lit} (h : Tryd.prog.keyLits (n + 1 + 1) 36 [x, y] = some l) : ∃ a b, Tryd.prog.keyLits (n + 1) 9 [x] = some a ∧ Tryd.prog.keyLits (n + 1) 9 [y] = some b ∧ l = a ++ b := by
  unfold Program.keyLits at h
  simp only [Tryd.underlying36] at h
  generalize hA : Tryd.prog.keyLits (n + 1) 9 [x] = A at *
  generalize hB : Tryd.prog.keyLits (n + 1) 9 [y] = B at *
  cases A <;> cases B <;> simp [cellsB, cellsS, hA, hB] at h
  exact ⟨_, _, rfl, rfl, h.symm⟩
theorem keyB_inv {v : Value} {kl : Lit} (h : keyOf Tryd.prog 36 v = some kl) : ∃ b : Bd, v = bdV b ∧ kl = .string (kb b).data.toList ∧ b.1.size ≤ maxLen ∧ b.2.size ≤ maxLen := by
  obtain ⟨n, hn⟩ := nTypes
  unfold keyOf at h
  simp only [Tryd.underlying36] at h
  split at h
  · rename_i hf
    rw [Bool.and_eq_true] at hf
    obtain ⟨_, hf⟩ := hf
    cases v with
    | agg cs =>
      simp only [Value.formed, Tryd.underlying36, cellsB, beq_iff_eq] at hf
      obtain ⟨l⟩ := cs
      have hl : l.length = 2 := by simpa using hf
      clear hf
      rcases l with _ | ⟨x, _ | ⟨y, _ | ⟨z, t⟩⟩⟩
      · simp at hl
      · simp at hl
      · rw [Option.map_eq_some_iff] at h
        obtain ⟨ls, h1, h2⟩ := h
        have h1' : Tryd.prog.keyLits (n + 1 + 1) 36 [x, y] = some ls := hn ▸ h1
        obtain ⟨a, b, ha, hb, rfl⟩ := keyB_lits h1'
        obtain ⟨p, rfl, hp, rfl⟩ := keyS_lits ha
        obtain ⟨q, rfl, hq, rfl⟩ := keyS_lits hb
        exact ⟨(p, q), rfl, h2.symm, hp, hq⟩
      · simp at hl
    | tuple _ => cases hf
    | _ => simp [Value.formed, Tryd.underlying36] at hf
  · cases h
theorem kb_inj {a b : Bd} (ha : a.1.size ≤ maxLen ∧ a.2.size ≤ maxLen) (hb : b.1.size ≤ maxLen ∧ b.2.size ≤ maxLen) (h : kb a = kb b) : a = b :=
  bdV_inj (Tryd.bkeyed.inj (keyB ha.1 ha.2) (by rw [h]; exact keyB hb.1 hb.2))
end Go.Proofs.YtmanfakdbmlfeaaDoor
