/- HSame -/
import Derived.Test.YtgldcchleoklcaaGreatDoorP24
import Derived.Test.YtgldcchleoklcaaGreatDoorP19
import Derived.Test.YtgldcchleoklcaaGreatDoorP07
import Derived.BigQuiet
namespace Go.Proofs.YtgldcchleoklcaaGreatDoor
open Go.RowKit
set_option linter.unusedVariables false
set_option linter.unusedSimpArgs false
def Flds (l : List FS) (w : World) (a : Option Addr) (fs : List Fd) : Prop := fs.length = l.length ∧ (0 < fs.length → ∃ b, a = some ⟨b, 0, none⟩ ∧ b < w.heap.size ∧ FRow w b fs) ∧ ∀ i (h : i < fs.length) (h' : i < l.length), FdIn 0 w fs[i] l[i]
theorem FieldsIn.flds {l : List FS} {W w w' : World} {a : Option Addr} {fs : List Fd} (h : FieldsIn l W a fs w) (hb : Below w.heap.size w w') : Flds l w' a fs := by
  refine ⟨h.1, fun h0 => ?_, fun i hi hi' => ?_⟩
  · obtain ⟨b, e, _, h2, h3⟩ := h.2.1 h0
    exact ⟨b, e, by have := hb.size; omega, h3.below hb h2⟩
  · obtain ⟨q1, q2, q3, q4, q5, q6, q7⟩ := h.2.2 i hi hi'
    refine ⟨q1, q2, q3, q4, q5, q6, fun h0 => ?_⟩
    obtain ⟨b, e, _, r2, r3⟩ := q7 h0
    exact ⟨b, e, Nat.zero_le _, by have := hb.size; omega, (hb.block b r2).trans r3⟩
theorem Flds.below {l : List FS} {w w' : World} {a : Option Addr} {fs : List Fd} (h : Flds l w a fs) (hb : Below w.heap.size w w') : Flds l w' a fs := by
  refine ⟨h.1, fun h0 => ?_, fun i hi hi' => ?_⟩
  · obtain ⟨b, e, h2, h3⟩ := h.2.1 h0
    exact ⟨b, e, by have := hb.size; omega, h3.below hb h2⟩
  · obtain ⟨q1, q2, q3, q4, q5, q6, q7⟩ := h.2.2 i hi hi'
    refine ⟨q1, q2, q3, q4, q5, q6, fun h0 => ?_⟩
    obtain ⟨b, e, _, r2, r3⟩ := q7 h0
    exact ⟨b, e, Nat.zero_le _, by have := hb.size; omega, (hb.block b r2).trans r3⟩
theorem bel_drewN {B : Nat} {a w : World} (h : Below B a w) (n : Nat) : Below B a (w.drewN n) := ⟨h.os, h.tape, h.output, h.size, h.block⟩
theorem eqT_rf (x : T) : eqT x x = true := by
  have h := neg_ord x x
  have h0 : T.ord x x = 0 := by omega
  unfold eqT
  simp [h0]
end Go.Proofs.YtgldcchleoklcaaGreatDoor
