
/- Stage 6: items and All make their functions. -/
import Derived.Test.YtaijcnkmklibcaaSStep
import Derived.Test.YtaijcnkmklibcaaFApp
namespace Go.Proofs.Ytaijcnkmklibcaa
open Go.RowKit Go.Deep
set_option linter.unusedVariables false
set_option linter.unusedSimpArgs false

theorem items_any (p : Option Addr) (a : Option Addr) (n c : Nat) (w : World) :
    Calls Try.prog 37 #[.pointer p, .slice a n c] w fun e w' => e = .returned (.func (.func 47) #[] #[.pointer (some ⟨w.heap.size + 1, 0, none⟩), .pointer (some ⟨w.heap.size, 0, none⟩)]) ∧ w' = (w.alloc (.cells #[.pointer p] 25)).alloc (.cells #[.slice a n c] 33) := by
  go_enter Try.func37, Try.ntmps37
  go_wp2
  go_ret
  exact ⟨rfl, rfl⟩
set_option maxRecDepth 100000 in
theorem eq_nil_some (ad : Addr) (n c : Nat) (w : World) : (binOp BinOp.eql 33 (.slice (some ad) n c) (.slice none 0 0)).run Try.prog w = .ok (.bool false) w := by
  first
  | rfl
  | kernel_rfl
  | simp [binOp, run_underlying Try.underlying33, go_sem]
set_option maxRecDepth 100000 in
theorem eq_nil_none (w : World) : (binOp BinOp.eql 33 (.slice none 0 0) (.slice none 0 0)).run Try.prog w = .ok (.bool true) w := by
  first
  | rfl
  | kernel_rfl
  | simp [binOp, run_underlying Try.underlying33, go_sem]
set_option maxRecDepth 100000 in
theorem clone_none (c : Nat) (w : World) : Calls Try.prog 35 #[.slice none 0 0] w fun e w' => e = .returned (.slice none 0 0) ∧ w' = w := by
  have hq := eq_nil_none w
  go_enter Try.func35, Try.ntmps35
  go_wp2
  go_ret
  exact ⟨rfl, rfl⟩
set_option maxRecDepth 100000 in
set_option maxHeartbeats 1000000 in
theorem clone_some (ad : Addr) (n c : Nat) (l : List Nat) (w : World) (hr : Rd w (some ad) n l) (hn : n ≤ 140737488355328) : Calls Try.prog 35 #[.slice (some ad) n c] w fun e w' => ∃ a' c', e = .returned (.slice a' n c') ∧ Rd w' a' n l ∧ n ≤ c' ∧ (∀ b o, a' = some ⟨b, o, none⟩ → w.heap.size ≤ b ∧ b < w'.heap.size) ∧ Below w.heap.size w w' := by
  have HR := hide hr
  have hq := eq_nil_some ad n c w
  clear hr
  go_enter Try.func35, Try.ntmps35
  go_wp2_with (at_builtin; refine wpList_append_any _ rfl (.tmp 5) (.tmp 6) rfl w.heap.size (.slice (some ⟨w.heap.size, 0, none⟩) 0 0) 0 [] rfl ⟨rfl, .inr ⟨w.heap.size, 0, #[], rfl, Nat.le_refl _, heap_alloc_new _ _, Nat.le_refl _, by decide, rfl, rfl⟩⟩ (some ad) n c l rfl (fun h => by cases h) (HR.out.below (below_box w _)) (by omega) (by simp) ?_; intro v2 w2 r1 r2; have HR1 := hide r1; have HG := hide r2; clear r1 r2)
  have h := HR1.out
  rw [Nat.zero_add, List.nil_append] at h
  obtain ⟨a', c', rfl, h1, h2, h3⟩ := Rd.of_own0 h HR.out.2.1
  have hb : Below w.heap.size w w2 := (below_box w _).grown HG.out (by simp) (fun g hg => by simp [Value.ownBlock] at hg; omega)
  clear h
  go_ret
  exact ⟨a', c', rfl, h3, h2, h1, hb⟩
theorem clone_any (a : Option Addr) (n c : Nat) (l : List Nat) (w : World) (hr : Rd w a n l) (hn : n ≤ 140737488355328) (hnc : n ≤ c) (hnil : a = none → c = 0) : Calls Try.prog 35 #[.slice a n c] w fun e w' => ∃ a' c', e = .returned (.slice a' n c') ∧ Rd w' a' n l ∧ n ≤ c' ∧ (∀ b o, a' = some ⟨b, o, none⟩ → w.heap.size ≤ b ∧ b < w'.heap.size) ∧ Below w.heap.size w w' := by
  cases a with
  | some ad => exact clone_some ad n c l w hr hn
  | none =>
    have hc := hnil rfl
    subst hc
    have hn0 : n = 0 := by omega
    subst hn0
    refine (clone_none 0 w).mono ?_
    rintro e w' ⟨rfl, rfl⟩
    exact ⟨none, 0, rfl, hr, Nat.le_refl _, fun b o h => (by cases h), Below.refl _ _⟩
set_option maxRecDepth 100000 in
set_option maxHeartbeats 1000000 in
theorem all_any (p : Option Addr) (a : Option Addr) (n c : Nat) (l : List Nat) (w : World) (hr : Rd w a n l) (hn : n ≤ 140737488355328) (hnc : n ≤ c) (hnil : a = none → c = 0) :
    Calls Try.prog 17 #[.pointer p, .slice a n c] w fun e w' => ∃ (bo : Nat) (a' : Option Addr) (c' : Nat), e = .returned (.func (.func 36) #[] #[.pointer (some ⟨w.heap.size, 0, none⟩), .pointer (some ⟨bo, 0, none⟩)]) ∧ w'.heap[w.heap.size]? = some (.cells #[.pointer p] 25 (0, 0)) ∧ w'.heap[bo]? = some (.cells #[.slice a' n c'] 33 (0, 0)) ∧ w.heap.size < bo ∧ Rd w' a' n l ∧ n ≤ c' ∧ (∀ b o, a' = some ⟨b, o, none⟩ → w.heap.size < b) ∧ Below w.heap.size w w' := by
  have HC := hide (clone_any a n c l (w.alloc (.cells #[.pointer p] 25)) (hr.below (below_box w _)) hn hnc hnil)
  clear hr hn hnc hnil
  go_enter Try.func17, Try.ntmps17
  go_wp2_with fail
  refine HC.out.mono ?_
  rintro e w1 ⟨a', c', rfl, h1, h2, h3, h4⟩
  have HH := hide (And.intro h1 (And.intro h2 (And.intro h3 h4)))
  clear h1 h2 h3 h4
  go_wp2
  go_ret
  obtain ⟨h1, h2, h3, h4⟩ := HH.out
  have hz := h4.size
  simp at hz
  refine ⟨w1.heap.size, a', c', rfl, ?_, heap_alloc_new _ _, by omega, h1.below (below_box w1 _), h2, fun b o h => by have := (h3 b o h).1; simp at this; omega, ?_⟩
  · exact (heap_alloc_old _ _ (by omega)).trans ((h4.block _ (by simp)).trans (heap_alloc_new _ _))
  · exact ((below_box w _).trans (h4.mono (by simp))).alloc (by omega) _
end Go.Proofs.Ytaijcnkmklibcaa
