import Derived.Test.YtknkmamjdmadcaaLGTM9
import Derived.Maps.RangeWalk
import Derived.StringKeys
import Derived.OwnWalk

/- Stage 14: the table of deliveries with any states. -/
namespace Go.Proofs.Ytknkmamjdmadcaa.G
open Go.RowKit Go.Maps
set_option linter.unusedVariables false
set_option linter.unusedSimpArgs false

def nul : U.V := U.V.of 0 0 ⟨#[]⟩ none 0 0 []
def sw0 : Sw := ⟨0, 0, 0, ⟨#[]⟩, ⟨#[]⟩, nul, false, false, nul, ⟨#[]⟩, none, 0, 0⟩
/-- a delivery: what we and what the peer says -/
abbrev Dv : Type := Sw × Sw
def dvA (p : Dv) : Array Value := ⟨p.1.L ++ p.2.L⟩
def dvV (p : Dv) : Value := .agg (dvA p)
def dv0 : Dv := (sw0, sw0)
theorem Dv.sz (p : Dv) : (Try.prog.info? 89).map (·.size) = some (dvA p).size := by rw [Try.infoDv]; rfl
theorem Dv.one (p : Dv) : (dvA p).all (·.oneCell') = true := by kernel_rfl
def TbD (w : World) (b : Nat) (l : List (ByteArray × Dv)) : Prop := ∃ D, w.ownsMap Try.prog 9 rH b l.length D ∧ Rp dvV D l
section
variable {w w' : World} {b : Nat} {l l' : List (ByteArray × Dv)}
theorem TbD.lt (h : TbD w b l) : b < w.heap.size := by obtain ⟨D, h, _⟩ := h; exact h.lt
theorem TbD.at (h : TbD w b l) (hb : w'.heap[b]? = w.heap[b]?) : TbD w' b l := by
  obtain ⟨D, ⟨es, c, h1, h2⟩, h3⟩ := h
  exact ⟨D, ⟨es, c, hb.trans h1, h2⟩, h3⟩
theorem TbD.perm (h : TbD w b l) (hp : l.Perm l') : TbD w b l' := by
  obtain ⟨D, h1, h2⟩ := h
  exact ⟨D, hp.length_eq ▸ h1, h2.perm hp⟩
theorem TbD.nodup (h : TbD w b l) : (l.map (·.1)).Nodup := by obtain ⟨D, h1, h2⟩ := h; exact h2.1
theorem TbD.mk {n : Nat} {D : DataW Value} (h : w.ownsMap Try.prog 9 rH b n D) (hr : Rp dvV D l) : TbD w b l := ⟨D, own_lowS h (by rw [hr.size]; exact Nat.le_refl _), hr⟩
theorem TbD.ne {g : Nat} {cs : Array Value} {t : TypeId} {f : Nat × Nat} (h : TbD w b l) (hg : w.heap[g]? = some (.cells cs t f)) : b ≠ g := by
  rintro rfl
  obtain ⟨D, ⟨es, c, h1, _⟩, _⟩ := h
  rw [h1] at hg
  cases hg
theorem TbD.made (w : World) : TbD (w.alloc (.map #[] 0)) w.heap.size [] := ⟨_, World.ownsMap_made w _ _ _, Rp.nil⟩
end
theorem zeroD (w : World) : (zeroValue 89).run Try.prog w = .ok (dvV dv0) w := by kernel_rfl
section
variable {ops : Array Oper} {rest : List Oper} {o : Oper} {a : Act} {Q : Exit → Act → World → Prop} {w : World}
theorem look_D (hg : o.guard = none) (m x : Operand) (hop : o.op = Op.lookup 82 m x true) (b : Nat) (hm : a.eval m = .map (some b)) (k : ByteArray) (hx : a.eval x = .string k) (l : List (ByteArray × Dv)) (hT : TbD w b l) (hk : k.size ≤ maxLen)
    (hK : wpList Try.prog ops Q rest (a.put o.dst (.tuple #[dvV (lu dv0 l k), .bool (hasK l k)])) w) : wpList Try.prog ops Q (o :: rest) a w := by
  obtain ⟨D, h1, h2⟩ := hT
  refine wpList_lookup_own_ok w hg m x 82 hop 9 89 Try.skeyed Try.underlying82 rH (zeroD w) (.held (dvV dv0)) [] rfl b _ D hm h1 _ (.string k.data.toList) hx (keyS hk) ?_
  intro v ps hv
  rw [h2.lu dv0 k] at hv
  obtain rfl := rH_inv hv
  rw [h2.has]
  exact hK
theorem put_D (hg : o.guard = none) (m x v : Operand) (hop : o.op = Op.mapUpdate 82 m x v) (b : Nat) (hm : a.eval m = .map (some b)) (k : ByteArray) (p : Dv) (hx : a.eval x = .string k) (hv : a.eval v = dvV p) (l : List (ByteArray × Dv)) (hT : TbD w b l) (hk : k.size ≤ maxLen) (hn : l.length < maxLen)
    (hK : ∀ w', TbD w' b ((k, p) :: l.filter fun p => !decide (p.1 = k)) → Kp (fun q => q = b) w w' → w'.heap.size = w.heap.size → wpList Try.prog ops Q rest (a.put o.dst undef) w') : wpList Try.prog ops Q (o :: rest) a w := by
  obtain ⟨D, h1, h2⟩ := hT
  exact wpList_mapUpdate_in w hg m x v 82 hop 9 89 Try.skeyed Try.underlying82 rH b _ D hm h1 hn _ _ (.string k.data.toList) hx hv (keyS hk) (.held (dvV p)) [] rfl fun w' g1 g2 => hK w' (TbD.mk g1 (h2.put k p)) (grown_kp g2) (turned_size g2)
theorem del_D (hg : o.guard = none) (m x : Operand) (hop : o.op = Op.call { callee := Callee.builtin Builtin.delete, args := #[m, x], argTypes := #[82, 9] }) (b : Nat) (hm : a.eval m = .map (some b)) (k : ByteArray) (hx : a.eval x = .string k) (l : List (ByteArray × Dv)) (hT : TbD w b l) (hk : k.size ≤ maxLen)
    (hK : ∀ w', TbD w' b (l.filter fun p => !decide (p.1 = k)) → Kp (fun q => q = b) w w' → w'.heap.size = w.heap.size → wpList Try.prog ops Q rest (a.put o.dst (.tuple #[])) w') : wpList Try.prog ops Q (o :: rest) a w := by
  obtain ⟨D, h1, h2⟩ := hT
  exact wpList_delete_own w hg m x 82 9 hop 89 Try.skeyed Try.underlying82 rH b _ D hm h1 _ (.string k.data.toList) hx (keyS hk) fun w' g1 g2 => hK w' (TbD.mk g1 (h2.del k)) (grown_kp g2) (turned_size g2)
theorem len_D (hg : o.guard = none) (m : Operand) (hop : o.op = Op.call { callee := Callee.builtin Builtin.len, args := #[m], argTypes := #[82] }) (b : Nat) (hm : a.eval m = .map (some b)) (l : List (ByteArray × Dv)) (hT : TbD w b l)
    (hK : wpList Try.prog ops Q rest (a.put o.dst (.int .i64 l.length)) w) : wpList Try.prog ops Q (o :: rest) a w := by
  obtain ⟨D, h1, h2⟩ := hT
  refine wpList_len_own w hg m 82 hop 9 89 Try.underlying82 rH b _ D hm h1 ?_
  rw [h2.size]
  exact hK
end
/-- a link with its table -/
structure Lnk (w : World) (g : Nat) (l : Lk) (T : List (ByteArray × Dv)) : Prop where
  lb : LB w g l
  tb : TbD w l.dm T
section
variable {w w' : World} {g : Nat} {l l' : Lk} {T T' : List (ByteArray × Dv)}
theorem Lnk.lt (h : Lnk w g l T) {k : Nat} (hk : inL g l k) : k < w.heap.size := by
  rcases hk with rfl | rfl
  · exact h.lb.lt
  · exact h.tb.lt
theorem Lnk.at (h : Lnk w g l T) (hb : ∀ k, inL g l k → w'.heap[k]? = w.heap[k]?) : Lnk w' g l T := ⟨h.lb.at (hb _ (.inl rfl)), h.tb.at (hb _ (.inr rfl))⟩
theorem Lnk.below (h : Lnk w g l T) (hb : Below w.heap.size w w') : Lnk w' g l T := h.at fun k hk => hb.block k (h.lt hk)
theorem Lnk.kp {X : Nat → Prop} (h : Lnk w g l T) (hb : Kp X w w') (hx : ∀ k, inL g l k → ¬ X k) : Lnk w' g l T := h.at fun k hk => hb.block (h.lt hk) (hx k hk)
theorem Lnk.ne (h : Lnk w g l T) : l.dm ≠ g := h.tb.ne h.lb
theorem Lnk.turn (h : Lnk w g l T) (hl : LB w' g l') (hm : l'.dm = l.dm) (hk : Kp (fun k => k = g) w w') : Lnk w' g l' T :=
  ⟨hl, by rw [hm]; exact h.tb.at (hk.block h.tb.lt h.ne)⟩
theorem Lnk.put (h : Lnk w g l T) (ht : TbD w' l.dm T') (hk : Kp (fun k => k = l.dm) w w') : Lnk w' g l T' :=
  ⟨h.lb.at (hk.block h.lb.lt (fun e => h.ne e.symm)), ht⟩
end
theorem tb_nil {w : World} {b : Nat} (h : Go.Proofs.Ytknkmamjdmadcaa.TbD w b []) : TbD w b [] := by
  obtain ⟨D, h1, h2, es, h3, h4⟩ := h
  exact ⟨D, h1, by simp, es, h3, by simpa using h4⟩
theorem lnk_nil {w : World} {g : Nat} {l : Lk} (h : Go.Proofs.Ytknkmamjdmadcaa.Lnk w g l []) : Lnk w g l [] := ⟨h.lb, tb_nil h.tb⟩
/-- where the states of a link's deliveries lie -/
def Qg (g : Nat) (l : Lk) (w : World) (b : Nat) : Prop := b < w.heap.size ∧ ¬ inL g l b
def Sts (d : Nat) (g : Nat) (l : Lk) (w : World) (T : List (ByteArray × Dv)) : Prop := ∀ p ∈ T, StIn (Qg g l w) w d p.2.1 ∧ StIn (Qg g l w) w d p.2.2
theorem Sts.kp {d g : Nat} {l : Lk} {w w' : World} {T : List (ByteArray × Dv)} (h : Sts d g l w T) (hk : Kp (inL g l) w w') : Sts d g l w' T := fun p hp =>
  ⟨StIn.keep (fun b hb => hk.block hb.1 hb.2) (fun b hb => ⟨Nat.lt_of_lt_of_le hb.1 hk.size, hb.2⟩) (h p hp).1, StIn.keep (fun b hb => hk.block hb.1 hb.2) (fun b hb => ⟨Nat.lt_of_lt_of_le hb.1 hk.size, hb.2⟩) (h p hp).2⟩
theorem Sts.lk {d g : Nat} {l l' : Lk} {w : World} {T : List (ByteArray × Dv)} (h : Sts d g l w T) (e : l'.dm = l.dm) : Sts d g l' w T := fun p hp => by
  have hq : ∀ b, Qg g l w b → Qg g l' w b := fun b hb => ⟨hb.1, fun hi => hb.2 (by unfold inL at *; rw [e] at hi; exact hi)⟩
  exact ⟨StIn.keep (fun _ _ => rfl) hq (h p hp).1, StIn.keep (fun _ _ => rfl) hq (h p hp).2⟩
theorem nul_in (Q : Nat → Prop) (w : World) : U.LiesIn Q w nul := U.LiesIn.mk ⟨by decide, by decide, by decide, by decide, by simp, by simp⟩ (by simp) (by simp)
theorem sw0_in (Q : Nat → Prop) (w : World) : ∀ d, StIn Q w d sw0
  | 0 => ⟨nul_in Q w, nul_in Q w, Nat.le_refl _, rfl⟩
  | d + 1 => (sw0_in Q w d).up
end Go.Proofs.Ytknkmamjdmadcaa.G
