import Derived.Test.YtondbhdlccpklaaQRLookM9
import Derived.Test.YtondbhdlccpklaaQRgWM9
import Derived.Test.YtondbhdlccpklaaQRefXM9

/- Stage 13: the document's session with its lists; Arrive. -/
namespace Go.Proofs.Ytondbhdlccpklaa
open Go.RowKit Go.Maps
set_option linter.unusedVariables false
set_option linter.unusedSimpArgs false

def OwnR (w : World) (base : Nat) (v : Value) (rs : List (Int × Int)) : Prop := w.ownsRow base 110 2 v rs.length (rs.flatMap fun p => [.int .i64 p.1, .int .i64 p.2])
def apartV (x y : Value) : Prop := ∀ k, x.ownBlock = some k → y.ownBlock ≠ some k
structure RS (w : World) (g : Nat) (s : Sn) (vh vr vs va : Value) (hs : List Int) (rs : List (Int × Int)) (S C : List Pd) : Prop where
  rb : RB w g s vh vr vs va
  oh : OwnI w (g + 1) vh hs
  og : OwnR w (g + 1) vr rs
  os : OwnP w (g + 1) vs S
  oc : OwnP w (g + 1) va C
  hr : apartV vh vr
  h2 : apartV vh vs
  hc : apartV vh va
  r2 : apartV vr vs
  rc : apartV vr va
  sc : apartV vs va
/-- the blocks of it -/
def RSb (g : Nat) (vh vr vs va : Value) (k : Nat) : Prop := k = g ∨ vh.ownBlock = some k ∨ vr.ownBlock = some k ∨ vs.ownBlock = some k ∨ va.ownBlock = some k
section
variable {w w' w1 : World} {g : Nat} {s : Sn} {vh vr vs va : Value} {hs : List Int} {rs : List (Int × Int)} {S C : List Pd}
theorem apartV.symm {x y : Value} (h : apartV x y) : apartV y x := fun k h1 h2 => h k h2 h1
theorem RS.at (h : RS w g s vh vr vs va hs rs S C) (hb : ∀ k, RSb g vh vr vs va k → w'.heap[k]? = w.heap[k]?) : RS w' g s vh vr vs va hs rs S C :=
  ⟨h.rb.at (hb g (.inl rfl)), own_at h.oh fun k e => hb k (.inr (.inl e)), own_at h.og fun k e => hb k (.inr (.inr (.inl e))), own_at h.os fun k e => hb k (.inr (.inr (.inr (.inl e)))), own_at h.oc fun k e => hb k (.inr (.inr (.inr (.inr e)))), h.hr, h.h2, h.hc, h.r2, h.rc, h.sc⟩
theorem RS.lt (h : RS w g s vh vr vs va hs rs S C) {k : Nat} (hk : RSb g vh vr vs va k) : k < w.heap.size := by
  rcases hk with rfl | e | e | e | e
  · exact h.rb.lt
  · exact (h.oh.lt k e).2
  · exact (h.og.lt k e).2
  · exact (h.os.lt k e).2
  · exact (h.oc.lt k e).2
theorem RS.below (h : RS w g s vh vr vs va hs rs S C) (hb : Below w.heap.size w w') : RS w' g s vh vr vs va hs rs S C := h.at fun k hk => hb.block k (h.lt hk)
theorem RS.gone (h : RS w g s vh vr vs va hs rs S C) : (∀ x, vh.ownBlock = some x → x ≠ g) ∧ (∀ x, vr.ownBlock = some x → x ≠ g) ∧ (∀ x, vs.ownBlock = some x → x ≠ g) ∧ (∀ x, va.ownBlock = some x → x ≠ g) :=
  ⟨fun x e => by have := (h.oh.lt x e).1; omega, fun x e => by have := (h.og.lt x e).1; omega, fun x e => by have := (h.os.lt x e).1; omega, fun x e => by have := (h.oc.lt x e).1; omega⟩
/-- the list of those that came is grown -/
theorem RS.grow_va (h : RS w g s vh vr vs va hs rs S C) (p : Pd) {v' : Value} {o : Obj} (ho : w1.ownsRow (g + 1) 75 3 v' (C.length + 1) (flatP C ++ pdL p)) (hg : (w.alloc o).grownBy w1 va.ownBlock) (hat : v'.ownBlock = va.ownBlock ∨ v'.ownBlock = some (w.alloc o).heap.size) :
    RS (w1.setCell ⟨g, 16, none⟩ v') g s vh vr vs v' hs rs S (C ++ [p]) ∧ Kp (RSb g vh vr vs va) w (w1.setCell ⟨g, 16, none⟩ v') ∧ ∀ k, RSb g vh vr vs v' k → RSb g vh vr vs va k ∨ w.heap.size ≤ k := by
  have hgn := h.gone
  have hs1 : (w.alloc o).heap.size = w.heap.size + 1 := by simp
  have old : ∀ k, k < w.heap.size → va.ownBlock ≠ some k → w1.heap[k]? = w.heap[k]? := fun k hk hne => by
    rw [hg.block k (by omega) (fun e => hne e.symm)]
    exact (bel1 (Below.refl w.heap.size w) (Nat.le_refl _) o).block k hk
  have set : ∀ k, k ≠ g → (w1.setCell ⟨g, 16, none⟩ v').heap[k]? = w1.heap[k]? := fun k hk => blk_set_other _ _ _ _ hk
  have hv : ∀ k, v'.ownBlock = some k → va.ownBlock = some k ∨ k = w.heap.size + 1 := fun k e => by
    rcases hat with e' | e'
    · exact .inl (e' ▸ e)
    · rw [e'] at e
      cases e
      exact .inr hs1
  have hap : ∀ {x : Value}, apartV x va → (∀ k, x.ownBlock = some k → k < w.heap.size) → apartV x v' := fun ha hl k e1 e2 => by
    rcases hv k e2 with e | e
    · exact ha k e1 e
    · have := hl k e1
      omega
  have hkeep : ∀ {x : Value}, apartV x va → (∀ k, x.ownBlock = some k → k < w.heap.size ∧ k ≠ g) → ∀ k, x.ownBlock = some k → (w1.setCell ⟨g, 16, none⟩ v').heap[k]? = w.heap[k]? := fun ha hl k e => (set k (hl k e).2).trans (old k (hl k e).1 (ha k e))
  refine ⟨⟨(h.rb.at (old g h.rb.lt (fun e => hgn.2.2.2 g e rfl))).set_va v', own_at h.oh (hkeep h.hc fun k e => ⟨(h.oh.lt k e).2, hgn.1 k e⟩), own_at h.og (hkeep h.rc fun k e => ⟨(h.og.lt k e).2, hgn.2.1 k e⟩), own_at h.os (hkeep h.sc fun k e => ⟨(h.os.lt k e).2, hgn.2.2.1 k e⟩), ?_, h.hr, h.h2, hap h.hc (fun k e => (h.oh.lt k e).2), h.r2, hap h.rc (fun k e => (h.og.lt k e).2), hap h.sc (fun k e => (h.os.lt k e).2)⟩, ?_, ?_⟩
  · have : OwnP w1 (g + 1) v' (C ++ [p]) := by
      unfold OwnP
      rw [flatP_snoc]
      simpa using ho
    exact own_at this fun k e => set k (by have := (this.lt k e).1; omega)
  · refine ⟨hg.os, hg.tape, hg.output, ?_, fun k hk hn => ?_⟩
    · have := hg.size
      simp at this ⊢
      omega
    · exact (set k (fun e => hn (.inl e))).trans (old k hk (fun e => hn (.inr (.inr (.inr (.inr e))))))
  · rintro k (e | e | e | e | e)
    · exact .inl (.inl e)
    · exact .inl (.inr (.inl e))
    · exact .inl (.inr (.inr (.inl e)))
    · exact .inl (.inr (.inr (.inr (.inl e))))
    · rcases hv k e with e | e
      · exact .inl (.inr (.inr (.inr (.inr e))))
      · exact .inr (by omega)
end
end Go.Proofs.Ytondbhdlccpklaa
