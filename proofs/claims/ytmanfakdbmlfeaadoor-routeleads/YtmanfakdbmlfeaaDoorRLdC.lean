
/- Sorted texts, made compact: each once, in their order. -/
import Derived.Test.YtmanfakdbmlfeaaDoorRLdO
namespace Go.Proofs.YtmanfakdbmlfeaaDoor
open Go.RowKit Go.Maps
set_option linter.unusedVariables false
theorem comp_inv {α : Type} [Inhabited α] [DecidableEq α] (R : α → α → Prop) (anti : ∀ x y, R x y → R y x → x = y) (d : Array α) (hs : ∀ i j, i < j → j < d.size → R d[i]! d[j]!) :
    ∀ m, m ≤ d.size → (∀ x, x ∈ Lib.compactUpTo d m ↔ ∃ j, j < m ∧ x = d[j]!) ∧ (Lib.compactUpTo d m).Pairwise (fun x y => R x y ∧ x ≠ y)
  | 0, _ => ⟨fun x => by simp [Lib.compactUpTo], by simp [Lib.compactUpTo]⟩
  | m + 1, hm => by
    obtain ⟨h1, h2⟩ := comp_inv R anti d hs m (by omega)
    rw [Lib.compactUpTo_succ]
    by_cases hk : Lib.keeps d m = true
    · rw [if_pos hk]
      refine ⟨fun x => ?_, ?_⟩
      · rw [List.mem_append, h1, List.mem_singleton]
        constructor
        · rintro (⟨j, hj, rfl⟩ | rfl)
          · exact ⟨j, by omega, rfl⟩
          · exact ⟨m, by omega, rfl⟩
        · rintro ⟨j, hj, rfl⟩
          by_cases e : j = m
          · subst e; exact .inr rfl
          · exact .inl ⟨j, by omega, rfl⟩
      · rw [List.pairwise_append]
        refine ⟨h2, by simp, fun x hx y hy => ?_⟩
        rw [List.mem_singleton] at hy
        subst hy
        obtain ⟨j, hj, rfl⟩ := (h1 x).1 hx
        refine ⟨hs j m hj (by omega), fun e => ?_⟩
        have hne : d[m - 1]! ≠ d[m]! := by
          have := hk
          unfold Lib.keeps at this
          simp at this
          rcases this with h | h
          · omega
          · first | exact h | exact fun q => h q.symm
        by_cases e2 : j = m - 1
        · subst e2; exact hne e
        · have r1 := hs j (m - 1) (by omega) (by omega)
          have r2 := hs (m - 1) m (by omega) (by omega)
          rw [e] at r1
          exact hne (anti _ _ r2 r1)
    · rw [if_neg hk, List.append_nil]
      refine ⟨fun x => ?_, h2⟩
      rw [h1]
      have he : 0 < m ∧ d[m]! = d[m - 1]! := by
        have := hk
        unfold Lib.keeps at this
        simp at this
        exact ⟨by omega, by first | exact this.2 | exact this.2.symm⟩
      constructor
      · rintro ⟨j, hj, rfl⟩
        exact ⟨j, by omega, rfl⟩
      · rintro ⟨j, hj, rfl⟩
        by_cases e : j = m
        · subst e; exact ⟨j - 1, by omega, he.2⟩
        · exact ⟨j, by omega, rfl⟩
end Go.Proofs.YtmanfakdbmlfeaaDoor
