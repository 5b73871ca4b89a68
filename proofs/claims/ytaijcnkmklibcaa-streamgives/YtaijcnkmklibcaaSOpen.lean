
/- Stage 6: bytes that came in: small, and nil. -/
import Derived.Test.YtaijcnkmklibcaaOpen
import Derived.Test.YtaijcnkmklibcaaBulk
namespace Go.Proofs.Ytaijcnkmklibcaa
open Go.RowKit Go.ChangeShapes Go.WideShapes Go.ChangeAt
set_option linter.unusedVariables false
theorem nil_cap {H : Type} {enc : TypeId × Value → H} {W : World} {fuel n cap : Nat} {a : Option Addr} {x : DataW H × List MemPlace} (hf : DataW.trod enc Try.prog W 0 (fun _ => true) true fuel 33 [.slice a n cap] = some x) : a = none → cap = 0 := fun h => by
  subst h
  rcases open_ints Try.underlying33 Try.underlying5 Try.cells5 hf with ⟨hcs, _⟩ | ⟨y, l, c', zs, hcs, _⟩
  · simp at hcs; exact hcs.2
  · simp at hcs
theorem bytes_small {H : Type} {n cap : Nat} {d : DataW H} (hb : Rows.uptoBulk d ≤ 1048576) (hn : n ≤ cap) (hs : (d = .nil ∧ cap = 0) ∨ ∃ e s, d = .slice e s ∧ e.length + s.length = cap) : n ≤ 1048576 := by
  rcases hs with ⟨_, rfl⟩ | ⟨e, s, rfl, hc⟩
  · omega
  · have h2 := bulk_len e
    have h3 := bulk_len s
    simp only [Rows.uptoBulk] at hb
    omega
end Go.Proofs.Ytaijcnkmklibcaa
