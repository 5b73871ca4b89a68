import Derived.Test.YtknkmamjdmadcaaLSameTM9

/- Stage 14: two links that stand apart; awake. -/
namespace Go.Proofs.Ytknkmamjdmadcaa
open Go.RowKit Go.Maps
set_option linter.unusedVariables false
set_option linter.unusedSimpArgs false

/-- two links that stand apart, in blocks that were laid since w -/
structure Pr (w W : World) (g : Nat) (l : Lk) (T : List (ByteArray × Dv)) (g' : Nat) (l' : Lk) (T' : List (ByteArray × Dv)) : Prop where
  a : Lnk W g l T
  b : Lnk W g' l' T'
  ap : ∀ k, inL g l k → ¬ inL g' l' k
  na : ∀ k, inL g l k → w.heap.size ≤ k
  nb : ∀ k, inL g' l' k → w.heap.size ≤ k
  bel : Below w.heap.size w W
section
variable {w W W' : World} {g g' : Nat} {l l' l1 : Lk} {T T' T1 : List (ByteArray × Dv)}
theorem bel_kp {S : Nat → Prop} (h : Below w.heap.size w W) (hk : Kp S W W') (hn : ∀ k, S k → w.heap.size ≤ k) : Below w.heap.size w W' :=
  ⟨hk.1.trans h.os, hk.2.1.trans h.tape, hk.2.2.1.trans h.output, Nat.le_trans h.size hk.size, fun q hq => (hk.block (Nat.lt_of_lt_of_le hq h.size) (fun e => by have := hn q e; omega)).trans (h.block q hq)⟩
theorem Pr.left (h : Pr w W g l T g' l' T') (hl : Lnk W' g l1 T1) (hm : l1.dm = l.dm) (hk : Kp (inL g l) W W') : Pr w W' g l1 T1 g' l' T' where
  a := hl
  b := h.b.kp hk (fun k h2 h1 => h.ap k h1 h2)
  ap := fun k h1 => h.ap k (by unfold inL at *; rw [hm] at h1; exact h1)
  na := fun k h1 => h.na k (by unfold inL at *; rw [hm] at h1; exact h1)
  nb := h.nb
  bel := bel_kp h.bel hk h.na
theorem Pr.swap (h : Pr w W g l T g' l' T') : Pr w W g' l' T' g l T := ⟨h.b, h.a, fun k h1 h2 => h.ap k h2 h1, h.nb, h.na, h.bel⟩
theorem Pr.right (h : Pr w W g l T g' l' T') (hl : Lnk W' g' l1 T1) (hm : l1.dm = l'.dm) (hk : Kp (inL g' l') W W') : Pr w W' g l T g' l1 T1 := (h.swap.left hl hm hk).swap
theorem Pr.go (h : Pr w W g l T g' l' T') (hb : Below W.heap.size W W') : Pr w W' g l T g' l' T' := ⟨h.a.below hb, h.b.below hb, h.ap, h.na, h.nb, h.bel.trans (hb.mono h.bel.size)⟩
/-- the first stands, the second is made -/
theorem Pr.made {n : Nat} (ha : Lnk W g l T) (na : ∀ k, inL g l k → w.heap.size ≤ k) (hb : Below w.heap.size w W) (hn : W.heap.size ≤ n) (h2 : Lnk W' (n + 1) l1 T1) (hd : l1.dm = n) (hW : Below W.heap.size W W') : Pr w W' g l T (n + 1) l1 T1 where
  a := ha.below hW
  b := h2
  ap := fun k h1 h3 => by have := ha.lt h1; unfold inL at h3; rw [hd] at h3; omega
  na := na
  nb := fun k h3 => by have := hb.size; unfold inL at h3; rw [hd] at h3; omega
  bel := hb.trans (hW.mono hb.size)
end
end Go.Proofs.Ytknkmamjdmadcaa
