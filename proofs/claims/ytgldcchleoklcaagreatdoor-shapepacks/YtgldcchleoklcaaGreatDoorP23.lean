/- VOver, VTurn2 -/
import Derived.Test.YtgldcchleoklcaaGreatDoorP09
import Derived.Test.YtgldcchleoklcaaGreatDoorP10
import Derived.Test.YtgldcchleoklcaaGreatDoorP14
import Derived.Test.YtgldcchleoklcaaGreatDoorP13
import Derived.Test.YtgldcchleoklcaaGreatDoorP15
import Derived.Test.YtgldcchleoklcaaGreatDoorP06
import Derived.Test.YtgldcchleoklcaaGreatDoorP11
namespace Go.Proofs.YtgldcchleoklcaaGreatDoor
open Go.RowKit
set_option linter.unusedVariables false
set_option linter.unusedSimpArgs false
structure OverSoFar (l m : List V) (g : Nat → Nat) (b lo hi j : Nat) (w wr : World) (lr : List V) : Prop where
  turns : Turns lo hi w wr
  blk : Blk wr b 42 ((l.length + 3) * 5)
  len : lr.length = l.length
  row : Row wr b 0 (lr ++ marks l.length)
  lent : ∀ i (h : i < lr.length), Lent wr lr[i] (g i) (g (i + 1))
  done : ∀ i (h : i < lr.length) (h' : i < m.length), i < j → lr[i].t = m[i].t
  rest : ∀ i (h : i < lr.length) (h' : i < l.length), j ≤ i → lr[i] = l[i]
structure Turn2 (p q r s : Nat) (w w' : World) : Prop where
  os : w'.os = w.os
  tape : w'.tape = w.tape
  output : w'.output = w.output
  size : w.heap.size ≤ w'.heap.size
  block : ∀ k, k < w.heap.size → ¬ (p ≤ k ∧ k < q) → ¬ (r ≤ k ∧ k < s) → w'.heap[k]? = w.heap[k]?
end Go.Proofs.YtgldcchleoklcaaGreatDoor
