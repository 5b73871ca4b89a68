
/- Stage 13: laws at the operations on tables. -/
import Derived.Test.YtondbhdlccpklaaQPeer
namespace Go.Proofs.Ytondbhdlccpklaa
open Go.RowKit Go.Maps
set_option linter.unusedVariables false
set_option linter.unusedSimpArgs false

def hasK {A : Type} (l : List (Int × A)) (k : Int) : Bool := l.any (fun p => p.1 == k)
def lu {A : Type} (d : A) (l : List (Int × A)) (k : Int) : A := match l.find? (fun p => p.1 == k) with | some p => p.2 | none => d
def pd0 : Pd := (0, 0, ⟨#[]⟩)
theorem lu_mem {A : Type} {d : A} {l : List (Int × A)} {k : Int} (h : hasK l k = true) : (k, lu d l k) ∈ l := by
  unfold lu
  cases hf : l.find? (fun p => p.1 == k) with
  | none =>
    have := List.find?_eq_none.1 hf
    obtain ⟨p, hp, hk⟩ := List.any_eq_true.1 h
    exact absurd hk (this p hp)
  | some p =>
    have h1 := List.mem_of_find?_eq_some hf
    have h2 := List.find?_some hf
    simp at h2
    obtain ⟨a, b⟩ := p
    simp at h2
    subst h2
    exact h1
theorem lu_none {A : Type} {d : A} {l : List (Int × A)} {k : Int} (h : hasK l k = false) : lu d l k = d := by
  unfold lu
  cases hf : l.find? (fun p => p.1 == k) with
  | none => rfl
  | some p =>
    have h1 := List.mem_of_find?_eq_some hf
    have h2 := List.find?_some hf
    unfold hasK at h
    rw [List.any_eq_false] at h
    exact absurd h2 (h p h1)
theorem Rp.lu {A : Type} {mk : A → Value} {D : DataW Value} {l : List (Int × A)} (h : Rp mk D l) (d : A) (k : Int) : D.atKey (.int .i64 k) (.held (mk d)) = .held (mk (lu d l k)) := by
  cases hh : hasK l k with
  | true => exact h.at (lu_mem hh) _
  | false => rw [lu_none hh]; exact h.at_none (any_not.1 hh) _

theorem zeroI (w : World) : (zeroValue 3).run Try.prog w = .ok (intV 0) w := by kernel_rfl
theorem zeroP (w : World) : (zeroValue 75).run Try.prog w = .ok (pdV pd0) w := by kernel_rfl
theorem grown_kp {w w' : World} {b : Nat} (h : w.mapTurned w' b) : Kp (fun k => k = b) w w' := (Kp.refl _ w).grown h.grown (fun j hj => by cases hj; exact .inl rfl)
open Go.ChangeMaps Go.MapKept in
theorem turned_size {w w' : World} {b : Nat} (h : w.mapTurned w' b) : w'.heap.size = w.heap.size := by
  obtain ⟨es, clock, es', clock', hb, rfl⟩ := h
  simp [setBlock]
section
variable {ops : Array Oper} {rest : List Oper} {o : Oper} {a : Act} {Q : Exit → Act → World → Prop} {w : World}
theorem look_I (hg : o.guard = none) (m x : Operand) (hop : o.op = Op.lookup 88 m x true) (b : Nat) (hm : a.eval m = .map (some b)) (k : Int) (hx : a.eval x = .int .i64 k) (l : List (Int × Int)) (hT : TbI w b l) (hk : wf64 k)
    (hK : wpList Try.prog ops Q rest (a.put o.dst (.tuple #[.int .i64 (lu 0 l k), .bool (hasK l k)])) w) : wpList Try.prog ops Q (o :: rest) a w := by
  obtain ⟨D, h1, h2⟩ := hT
  refine wpList_lookup_own_ok w hg m x 88 hop 3 3 Try.keyed Try.underlying88 rI (zeroI w) (.held (intV 0)) [] rfl b _ D hm h1 _ (.int .i64 k) hx (key64 hk) ?_
  intro v ps hv
  rw [h2.lu 0 k] at hv
  obtain ⟨c, rfl, e⟩ := rI_inv hv
  simp only [Prod.mk.injEq, DataW.held.injEq] at e
  rw [← e.1, h2.has]
  exact hK
theorem look_P (hg : o.guard = none) (m x : Operand) (hop : o.op = Op.lookup 90 m x true) (b : Nat) (hm : a.eval m = .map (some b)) (k : Int) (hx : a.eval x = .int .i64 k) (l : List (Int × Pd)) (hT : TbP w b l) (hk : wf64 k)
    (hK : wpList Try.prog ops Q rest (a.put o.dst (.tuple #[pdV (lu pd0 l k), .bool (hasK l k)])) w) : wpList Try.prog ops Q (o :: rest) a w := by
  obtain ⟨D, h1, h2⟩ := hT
  refine wpList_lookup_own_ok w hg m x 90 hop 3 75 Try.keyed Try.underlying90 rP (zeroP w) (.held (pdV pd0)) [] (rP_mk _) b _ D hm h1 _ (.int .i64 k) hx (key64 hk) ?_
  intro v ps hv
  rw [h2.lu pd0 k] at hv
  obtain ⟨c, rfl, e⟩ := rP_inv hv
  simp only [Prod.mk.injEq, DataW.held.injEq] at e
  rw [← e.1, h2.has]
  exact hK
/-- 'm[k]' without ok -/
theorem look1_P (hg : o.guard = none) (m x : Operand) (hop : o.op = Op.lookup 90 m x false) (b : Nat) (hm : a.eval m = .map (some b)) (k : Int) (hx : a.eval x = .int .i64 k) (l : List (Int × Pd)) (hT : TbP w b l) (hk : wf64 k)
    (hK : wpList Try.prog ops Q rest (a.put o.dst (pdV (lu pd0 l k))) w) : wpList Try.prog ops Q (o :: rest) a w := by
  obtain ⟨D, h1, h2⟩ := hT
  refine wpList_plain hg fun K' hK' => ?_
  obtain ⟨v, ps, hrun, hv⟩ := h1.lookup Try.keyed Try.underlying90 (zeroP w) (zd := .held (pdV pd0)) (zp := []) (rP_mk _) (key64 hk)
  rw [h2.lu pd0 k] at hv
  obtain ⟨c, rfl, e⟩ := rP_inv hv
  simp only [Prod.mk.injEq, DataW.held.injEq] at e
  rw [← e.1] at hrun
  unfold Oper.wp
  simp [execOp, hop, hm, hx, hrun, Result.andThen]
  exact hK' _ _ hK
theorem put_I (hg : o.guard = none) (m x v : Operand) (hop : o.op = Op.mapUpdate 88 m x v) (b : Nat) (hm : a.eval m = .map (some b)) (k c : Int) (hx : a.eval x = .int .i64 k) (hv : a.eval v = .int .i64 c) (l : List (Int × Int)) (hT : TbI w b l) (hk : wf64 k) (hn : l.length < maxLen)
    (hK : ∀ w', TbI w' b ((k, c) :: l.filter fun p => p.1 != k) → Kp (fun q => q = b) w w' → w'.heap.size = w.heap.size → wpList Try.prog ops Q rest (a.put o.dst undef) w') : wpList Try.prog ops Q (o :: rest) a w := by
  obtain ⟨D, h1, h2⟩ := hT
  exact wpList_mapUpdate_in w hg m x v 88 hop 3 3 Try.keyed Try.underlying88 rI b _ D hm h1 hn _ _ (.int .i64 k) hx hv (key64 hk) (.held (intV c)) [] (rI_mk c) fun w' g1 g2 => hK w' (TbI.mk g1 (h2.put k c)) (grown_kp g2) (turned_size g2)
theorem put_P (hg : o.guard = none) (m x v : Operand) (hop : o.op = Op.mapUpdate 90 m x v) (b : Nat) (hm : a.eval m = .map (some b)) (k : Int) (p : Pd) (hx : a.eval x = .int .i64 k) (hv : a.eval v = pdV p) (l : List (Int × Pd)) (hT : TbP w b l) (hk : wf64 k) (hn : l.length < maxLen)
    (hK : ∀ w', TbP w' b ((k, p) :: l.filter fun p => p.1 != k) → Kp (fun q => q = b) w w' → w'.heap.size = w.heap.size → wpList Try.prog ops Q rest (a.put o.dst undef) w') : wpList Try.prog ops Q (o :: rest) a w := by
  obtain ⟨D, h1, h2⟩ := hT
  exact wpList_mapUpdate_in w hg m x v 90 hop 3 75 Try.keyed Try.underlying90 rP b _ D hm h1 hn _ _ (.int .i64 k) hx hv (key64 hk) (.held (pdV p)) [] (rP_mk p) fun w' g1 g2 => hK w' (TbP.mk g1 (h2.put k p)) (grown_kp g2) (turned_size g2)
theorem del_I (hg : o.guard = none) (m x : Operand) (hop : o.op = Op.call { callee := Callee.builtin Builtin.delete, args := #[m, x], argTypes := #[88, 3] }) (b : Nat) (hm : a.eval m = .map (some b)) (k : Int) (hx : a.eval x = .int .i64 k) (l : List (Int × Int)) (hT : TbI w b l) (hk : wf64 k)
    (hK : ∀ w', TbI w' b (l.filter fun p => p.1 != k) → Kp (fun q => q = b) w w' → w'.heap.size = w.heap.size → wpList Try.prog ops Q rest (a.put o.dst (.tuple #[])) w') : wpList Try.prog ops Q (o :: rest) a w := by
  obtain ⟨D, h1, h2⟩ := hT
  exact wpList_delete_own w hg m x 88 3 hop 3 Try.keyed Try.underlying88 rI b _ D hm h1 _ (.int .i64 k) hx (key64 hk) fun w' g1 g2 => hK w' (TbI.mk g1 (h2.del k)) (grown_kp g2) (turned_size g2)
theorem del_P (hg : o.guard = none) (m x : Operand) (hop : o.op = Op.call { callee := Callee.builtin Builtin.delete, args := #[m, x], argTypes := #[90, 3] }) (b : Nat) (hm : a.eval m = .map (some b)) (k : Int) (hx : a.eval x = .int .i64 k) (l : List (Int × Pd)) (hT : TbP w b l) (hk : wf64 k)
    (hK : ∀ w', TbP w' b (l.filter fun p => p.1 != k) → Kp (fun q => q = b) w w' → w'.heap.size = w.heap.size → wpList Try.prog ops Q rest (a.put o.dst (.tuple #[])) w') : wpList Try.prog ops Q (o :: rest) a w := by
  obtain ⟨D, h1, h2⟩ := hT
  exact wpList_delete_own w hg m x 90 3 hop 75 Try.keyed Try.underlying90 rP b _ D hm h1 _ (.int .i64 k) hx (key64 hk) fun w' g1 g2 => hK w' (TbP.mk g1 (h2.del k)) (grown_kp g2) (turned_size g2)
theorem len_P (hg : o.guard = none) (m : Operand) (hop : o.op = Op.call { callee := Callee.builtin Builtin.len, args := #[m], argTypes := #[90] }) (b : Nat) (hm : a.eval m = .map (some b)) (l : List (Int × Pd)) (hT : TbP w b l)
    (hK : wpList Try.prog ops Q rest (a.put o.dst (.int .i64 l.length)) w) : wpList Try.prog ops Q (o :: rest) a w := by
  obtain ⟨D, h1, h2⟩ := hT
  refine wpList_len_own w hg m 90 hop 3 75 Try.underlying90 rP b _ D hm h1 ?_
  rw [h2.size]
  exact hK
end
theorem hasI_any (b : Nat) (l : List (Int × Int)) (k : Int) (w : World) (hT : TbI w b l) (hk : wf64 k) :
    Calls Try.prog 54 #[.map (some b), .int .i64 k] w fun e w' => e = .returned (.bool (hasK l k)) ∧ w' = w := by
  have HT := hide hT
  have HK := hide hk
  clear hT hk
  go_enter Try.func54, Try.ntmps54
  go_wp2_with (at_lookup; refine look_I rfl _ _ rfl b rfl k rfl l HT.out HK.out ?_)
  go_ret
  exact ⟨rfl, rfl⟩
theorem hasP_any (b : Nat) (l : List (Int × Pd)) (k : Int) (w : World) (hT : TbP w b l) (hk : wf64 k) :
    Calls Try.prog 59 #[.map (some b), .int .i64 k] w fun e w' => e = .returned (.bool (hasK l k)) ∧ Below w.heap.size w w' := by
  have HT := hide hT
  have HK := hide hk
  clear hT hk
  go_enter Try.func59, Try.ntmps59
  go_wp2_with (at_lookup; refine look_P rfl _ _ rfl b rfl k rfl l HT.out HK.out ?_; unfold pdV)
  go_ret
  exact ⟨rfl, bel1 (Below.refl _ _) (Nat.le_refl _) _⟩
end Go.Proofs.Ytondbhdlccpklaa
