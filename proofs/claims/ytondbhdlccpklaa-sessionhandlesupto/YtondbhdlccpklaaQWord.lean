
/- Stage 13: words; a Begin that may be. -/
import Derived.Test.YtondbhdlccpklaaQBase
namespace Go.Proofs.Ytondbhdlccpklaa
open Go.RowKit Go.Maps
set_option linter.unusedVariables false
set_option linter.unusedSimpArgs false

def isW (x : Int) : Bool := decide (0 ≤ x) && decide (x ≤ 4294967295)
theorem isW_iff {x : Int} : isW x = true ↔ 0 ≤ x ∧ x ≤ 4294967295 := by simp [isW]
theorem not_all {l : List Int} {n j : Nat} {x : Int} (hn : l.length = n) (hj : j < n) (hx : x = l.getD j 0) (h : isW x = false) : l.all isW = false := by
  rw [List.all_eq_false]
  refine ⟨x, ?_, by simp [h]⟩
  rw [hx, List.getD_eq_getElem?_getD, List.getElem?_eq_getElem (by omega)]
  exact List.getElem_mem _
theorem yes_all {l : List Int} {n : Nat} (hn : l.length = n) (h : ∀ k, k < n → isW (l.getD k 0) = true) : l.all isW = true := by
  rw [List.all_eq_true]
  intro x hx
  obtain ⟨i, hi, rfl⟩ := List.getElem_of_mem hx
  have := h i (by omega)
  rwa [List.getD_eq_getElem?_getD, List.getElem?_eq_getElem hi] at this
set_option maxRecDepth 100000 in
theorem areWords_any (b : Nat) (l : List Int) (w : World) (hb : b < w.heap.size) (hl : l.length ≤ 100) (hc : ∀ j, j < l.length → w.cell? ⟨b, j, none⟩ = some (.int .i64 (l.getD j 0))) :
    Calls Try.prog 55 #[.slice (some ⟨b, 0, none⟩) l.length l.length] w fun e w' => e = .returned (.bool (l.all isW)) ∧ w' = w := by
  obtain ⟨n, hn⟩ : ∃ n, n = l.length := ⟨_, rfl⟩
  rw [← hn] at hc hl ⊢
  have HN := hide hn
  have HC := hide hc
  clear hc hn
  go_enter Try.func55, Try.ntmps55
  go_wp2
  go_loopw [7] (fun i wr => ∃ j : Nat, i = .int .i64 j ∧ j ≤ n ∧ wr = w ∧ Hid (∀ k, k < j → isW (l.getD k 0) = true)) (fun i _ => n - (intOf i).toNat)
  case atStart => exact ⟨0, rfl, by omega, rfl, fun k hk => by omega⟩
  case round =>
    obtain ⟨j, rfl, hj, rfl, HA⟩ := hrel
    by_cases hjn : j < n
    · obtain ⟨x, hx⟩ : ∃ x, x = l.getD j 0 := ⟨_, rfl⟩
      have hc := HC.out j hjn
      rw [← hx] at hc
      have HX := hide hx
      clear hx
      by_cases h0 : x < 0
      · go_wp2
        go_ret
        exact ⟨by rw [not_all HN.out.symm hjn HX.out (by simp [isW]; omega)]; rfl, rfl⟩
      · by_cases h1 : x > 4294967295
        · go_wp2
          go_ret
          exact ⟨by rw [not_all HN.out.symm hjn HX.out (by simp [isW]; omega)]; rfl, rfl⟩
        · go_wp2
          go_roundw
          case rel =>
            refine ⟨j + 1, by go_num, by omega, by trivial, fun k hk => ?_⟩
            rcases Nat.lt_or_ge k j with h | h
            · exact HA.out k h
            · obtain rfl : k = j := by omega
              rw [← HX.out, isW_iff]
              omega
          case measure => simp [intOf]; omega
    · obtain rfl : j = n := by omega
      go_wp2
      go_ret
      exact ⟨by rw [yes_all HN.out.symm HA.out]; rfl, rfl⟩
end Go.Proofs.Ytondbhdlccpklaa
