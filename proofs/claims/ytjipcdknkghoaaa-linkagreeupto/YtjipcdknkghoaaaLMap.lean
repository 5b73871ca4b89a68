
/- Stage 14: the table of deliveries, by their tags; laws at the operations on it. -/
import Derived.Test.YtjipcdknkghoaaaLHear
import Derived.Test.YtjipcdknkghoaaaLTab
import Derived.Maps.RangeWalk
import Derived.StringKeys
import Derived.OwnWalk
namespace Go.Proofs.Ytjipcdknkghoaaa
open Go.RowKit Go.Maps
set_option linter.unusedVariables false
set_option linter.unusedSimpArgs false

/-- the cells of a state of which a kind alone is said -/
def stL (k : Int) : List Value := [.int .i64 k, .int .i64 0, .int .i64 0, .string ⟨#[]⟩, .string ⟨#[]⟩, .int .i64 0, .int .u64 0, .string ⟨#[]⟩, .slice none 0 0, .int .i64 0, .bool false, .bool false, .int .i64 0, .int .u64 0, .string ⟨#[]⟩, .slice none 0 0, .int .i64 0, .string ⟨#[]⟩, .slice none 0 0]
def stV (k : Int) : Value := .agg ⟨stL k⟩
/-- a delivery: the kinds of what we and of what the peer says -/
def Dv := Int × Int
def dvA (p : Dv) : Array Value := ⟨stL p.1 ++ stL p.2⟩
def dvV (p : Dv) : Value := .agg (dvA p)
theorem dvV_inj {p q : Dv} (h : dvV p = dvV q) : p = q := by
  obtain ⟨a, b⟩ := p
  obtain ⟨c, d⟩ := q
  simp [dvV, dvA, stL] at h
  obtain ⟨rfl, rfl⟩ := h
  rfl
def rH (v : Value) : Option (DataW Value × List MemPlace) := some (.held v, [])
theorem rH_inv {v x : Value} {ps : List MemPlace} (h : rH v = some (.held x, ps)) : v = x := by
  simp [rH] at h
  exact h.1
theorem Try.skeyed : Keyed Try.prog 9 := Keyed.of_law (Go.WideMaps.string_law Try.underlying9)
theorem keyS {s : ByteArray} (h : s.size ≤ maxLen) : keyOf Try.prog 9 (.string s) = some (.string s.data.toList) := Go.WideMaps.keyOf_string_mk Try.underlying9 h
def TbD (w : World) (b : Nat) (l : List (ByteArray × Dv)) : Prop := ∃ D, w.ownsMap Try.prog 9 rH b l.length D ∧ Rp dvV D l
section
variable {w w' : World} {b : Nat} {l l' : List (ByteArray × Dv)}
theorem TbD.lt (h : TbD w b l) : b < w.heap.size := by obtain ⟨D, h, _⟩ := h; exact h.lt
theorem TbD.at (h : TbD w b l) (hb : w'.heap[b]? = w.heap[b]?) : TbD w' b l := by
  obtain ⟨D, ⟨es, c, h1, h2⟩, h3⟩ := h
  exact ⟨D, ⟨es, c, hb.trans h1, h2⟩, h3⟩
theorem TbD.perm (h : TbD w b l) (hp : l.Perm l') : TbD w b l' := by
  obtain ⟨D, h1, h2⟩ := h
  exact ⟨D, hp.length_eq ▸ h1, h2.perm hp⟩
theorem TbD.nodup (h : TbD w b l) : (l.map (·.1)).Nodup := by obtain ⟨D, h1, h2⟩ := h; exact h2.1
theorem own_lowS {R : Value → Option (DataW Value × List MemPlace)} {n m : Nat} {D : DataW Value} (h : w.ownsMap Try.prog 9 R b n D) (hm : Maps.size D ≤ m) : w.ownsMap Try.prog 9 R b m D := by
  obtain ⟨es, c, h1, h2, h3, h4⟩ := h
  refine ⟨es, c, h1, h2, ?_, h4⟩
  rw [h4] at hm
  simpa [Maps.size, length_sorted] using hm
theorem TbD.mk {n : Nat} {D : DataW Value} (h : w.ownsMap Try.prog 9 rH b n D) (hr : Rp dvV D l) : TbD w b l := ⟨D, own_lowS h (by rw [hr.size]; exact Nat.le_refl _), hr⟩
theorem TbD.ne {g : Nat} {cs : Array Value} {t : TypeId} {f : Nat × Nat} (h : TbD w b l) (hg : w.heap[g]? = some (.cells cs t f)) : b ≠ g := by
  rintro rfl
  obtain ⟨D, ⟨es, c, h1, _⟩, _⟩ := h
  rw [h1] at hg
  cases hg
theorem TbD.made (w : World) : TbD (w.alloc (.map #[] 0)) w.heap.size [] := ⟨_, World.ownsMap_made w _ _ _, Rp.nil⟩
end
def hasK {A : Type} (l : List (ByteArray × A)) (k : ByteArray) : Bool := l.any (fun p => decide (p.1 = k))
def lu {A : Type} (d : A) (l : List (ByteArray × A)) (k : ByteArray) : A := match l.find? (fun p => decide (p.1 = k)) with | some p => p.2 | none => d
theorem lu_mem {A : Type} {d : A} {l : List (ByteArray × A)} {k : ByteArray} (h : hasK l k = true) : (k, lu d l k) ∈ l := by
  unfold lu
  cases hf : l.find? (fun p => decide (p.1 = k)) with
  | none =>
    have := List.find?_eq_none.1 hf
    obtain ⟨p, hp, hk⟩ := List.any_eq_true.1 h
    exact absurd hk (this p hp)
  | some p =>
    have h1 := List.mem_of_find?_eq_some hf
    have h2 := List.find?_some hf
    obtain ⟨a, b⟩ := p
    have h3 : a = k := by simpa using h2
    subst h3
    exact h1
theorem lu_none {A : Type} {d : A} {l : List (ByteArray × A)} {k : ByteArray} (h : hasK l k = false) : lu d l k = d := by
  unfold lu
  cases hf : l.find? (fun p => decide (p.1 = k)) with
  | none => rfl
  | some p =>
    have h1 := List.mem_of_find?_eq_some hf
    have h2 := List.find?_some hf
    unfold hasK at h
    rw [List.any_eq_false] at h
    exact absurd h2 (h p h1)
theorem Rp.lu {A : Type} {mk : A → Value} {D : DataW Value} {l : List (ByteArray × A)} (h : Rp mk D l) (d : A) (k : ByteArray) : D.atKey (.string k.data.toList) (.held (mk d)) = .held (mk (lu d l k)) := by
  cases hh : hasK l k with
  | true => exact h.at (lu_mem hh) _
  | false => rw [lu_none hh]; exact h.at_none (any_not.1 hh) _
def dv0 : Dv := (0, 0)
theorem zeroD (w : World) : (zeroValue 89).run Try.prog w = .ok (dvV dv0) w := by kernel_rfl
theorem grown_kp {w w' : World} {b : Nat} (h : w.mapTurned w' b) : Kp (fun k => k = b) w w' := (Kp.refl _ w).grown h.grown (fun j hj => by cases hj; exact .inl rfl)
open Go.ChangeMaps Go.MapKept in
theorem turned_size {w w' : World} {b : Nat} (h : w.mapTurned w' b) : w'.heap.size = w.heap.size := by
  obtain ⟨es, clock, es', clock', hb, rfl⟩ := h
  simp [setBlock]
section
variable {ops : Array Oper} {rest : List Oper} {o : Oper} {a : Act} {Q : Exit → Act → World → Prop} {w : World}
theorem look_D (hg : o.guard = none) (m x : Operand) (hop : o.op = Op.lookup 82 m x true) (b : Nat) (hm : a.eval m = .map (some b)) (k : ByteArray) (hx : a.eval x = .string k) (l : List (ByteArray × Dv)) (hT : TbD w b l) (hk : k.size ≤ maxLen)
    (hK : wpList Try.prog ops Q rest (a.put o.dst (.tuple #[dvV (lu dv0 l k), .bool (hasK l k)])) w) : wpList Try.prog ops Q (o :: rest) a w := by
  obtain ⟨D, h1, h2⟩ := hT
  refine wpList_lookup_own_ok w hg m x 82 hop 9 89 Try.skeyed Try.underlying82 rH (zeroD w) (.held (dvV dv0)) [] rfl b _ D hm h1 _ (.string k.data.toList) hx (keyS hk) ?_
  intro v ps hv
  rw [h2.lu dv0 k] at hv
  obtain rfl := rH_inv hv
  rw [h2.has]
  exact hK
theorem put_D (hg : o.guard = none) (m x v : Operand) (hop : o.op = Op.mapUpdate 82 m x v) (b : Nat) (hm : a.eval m = .map (some b)) (k : ByteArray) (p : Dv) (hx : a.eval x = .string k) (hv : a.eval v = dvV p) (l : List (ByteArray × Dv)) (hT : TbD w b l) (hk : k.size ≤ maxLen) (hn : l.length < maxLen)
    (hK : ∀ w', TbD w' b ((k, p) :: l.filter fun p => !decide (p.1 = k)) → Kp (fun q => q = b) w w' → w'.heap.size = w.heap.size → wpList Try.prog ops Q rest (a.put o.dst undef) w') : wpList Try.prog ops Q (o :: rest) a w := by
  obtain ⟨D, h1, h2⟩ := hT
  exact wpList_mapUpdate_in w hg m x v 82 hop 9 89 Try.skeyed Try.underlying82 rH b _ D hm h1 hn _ _ (.string k.data.toList) hx hv (keyS hk) (.held (dvV p)) [] rfl fun w' g1 g2 => hK w' (TbD.mk g1 (h2.put k p)) (grown_kp g2) (turned_size g2)
theorem del_D (hg : o.guard = none) (m x : Operand) (hop : o.op = Op.call { callee := Callee.builtin Builtin.delete, args := #[m, x], argTypes := #[82, 9] }) (b : Nat) (hm : a.eval m = .map (some b)) (k : ByteArray) (hx : a.eval x = .string k) (l : List (ByteArray × Dv)) (hT : TbD w b l) (hk : k.size ≤ maxLen)
    (hK : ∀ w', TbD w' b (l.filter fun p => !decide (p.1 = k)) → Kp (fun q => q = b) w w' → w'.heap.size = w.heap.size → wpList Try.prog ops Q rest (a.put o.dst (.tuple #[])) w') : wpList Try.prog ops Q (o :: rest) a w := by
  obtain ⟨D, h1, h2⟩ := hT
  exact wpList_delete_own w hg m x 82 9 hop 89 Try.skeyed Try.underlying82 rH b _ D hm h1 _ (.string k.data.toList) hx (keyS hk) fun w' g1 g2 => hK w' (TbD.mk g1 (h2.del k)) (grown_kp g2) (turned_size g2)
theorem len_D (hg : o.guard = none) (m : Operand) (hop : o.op = Op.call { callee := Callee.builtin Builtin.len, args := #[m], argTypes := #[82] }) (b : Nat) (hm : a.eval m = .map (some b)) (l : List (ByteArray × Dv)) (hT : TbD w b l)
    (hK : wpList Try.prog ops Q rest (a.put o.dst (.int .i64 l.length)) w) : wpList Try.prog ops Q (o :: rest) a w := by
  obtain ⟨D, h1, h2⟩ := hT
  refine wpList_len_own w hg m 82 hop 9 89 Try.underlying82 rH b _ D hm h1 ?_
  rw [h2.size]
  exact hK
end
end Go.Proofs.Ytjipcdknkghoaaa
