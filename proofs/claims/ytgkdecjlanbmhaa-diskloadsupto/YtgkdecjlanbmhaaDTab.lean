
/- Stage 19: the table of files, by their names; laws at the operations on it. -/
import Derived.Test.YtgkdecjlanbmhaaDByte
import Derived.Test.YtgkdecjlanbmhaaLTab
import Derived.Maps.RangeWalk
import Derived.Sort.MapsRangeIn
import Derived.StringKeys
import Derived.OwnWalk
namespace Go.Proofs.Ytgkdecjlanbmhaa
open Go.RowKit Go.Maps
set_option linter.unusedVariables false
set_option linter.unusedSimpArgs false
/-- a pointer at a file -/
def pV (p : Nat) : Value := .pointer (some ⟨p, 0, none⟩)
theorem pV_inj {p q : Nat} (h : pV p = pV q) : p = q := by simpa [pV] using h
def rH (v : Value) : Option (DataW Value × List MemPlace) := some (.held v, [])
theorem rH_inv {v x : Value} {ps : List MemPlace} (h : rH v = some (.held x, ps)) : v = x := by
  simp [rH] at h
  exact h.1
theorem Try.skeyed : Keyed Try.prog 9 := Keyed.of_law (Go.WideMaps.string_law Try.underlying9)
theorem keyS {s : ByteArray} (h : s.size ≤ maxLen) : keyOf Try.prog 9 (.string s) = some (.string s.data.toList) := Go.WideMaps.keyOf_string_mk Try.underlying9 h
theorem keyS_inv {v : Value} {kl : Lit} (h : keyOf Try.prog 9 v = some kl) : ∃ s, v = .string s ∧ s.size ≤ maxLen ∧ kl = .string s.data.toList := by
  obtain ⟨s, hv, hk, hs⟩ := Go.WideMaps.string_of_keyOf Try.underlying9 h
  exact ⟨s, hv, hs, hk⟩
/-- the table -/
def Tb (w : World) (b : Nat) (l : List (ByteArray × Nat)) : Prop := ∃ D, w.ownsMap Try.prog 9 rH b l.length D ∧ Rp pV D l
section
variable {w w' : World} {b : Nat} {l l' : List (ByteArray × Nat)}
theorem Tb.lt (h : Tb w b l) : b < w.heap.size := by obtain ⟨D, h, _⟩ := h; exact h.lt
theorem Tb.at (h : Tb w b l) (hb : w'.heap[b]? = w.heap[b]?) : Tb w' b l := by
  obtain ⟨D, ⟨es, c, h1, h2⟩, h3⟩ := h
  exact ⟨D, ⟨es, c, hb.trans h1, h2⟩, h3⟩
theorem Tb.perm (h : Tb w b l) (hp : l.Perm l') : Tb w b l' := by
  obtain ⟨D, h1, h2⟩ := h
  exact ⟨D, hp.length_eq ▸ h1, h2.perm hp⟩
theorem Tb.nodup (h : Tb w b l) : (l.map (·.1)).Nodup := by obtain ⟨D, h1, h2⟩ := h; exact h2.1
theorem own_lowS {R : Value → Option (DataW Value × List MemPlace)} {n m : Nat} {D : DataW Value} (h : w.ownsMap Try.prog 9 R b n D) (hm : Maps.size D ≤ m) : w.ownsMap Try.prog 9 R b m D := by
  obtain ⟨es, c, h1, h2, h3, h4⟩ := h
  refine ⟨es, c, h1, h2, ?_, h4⟩
  rw [h4] at hm
  simpa [Maps.size, length_sorted] using hm
theorem Tb.mk {n : Nat} {D : DataW Value} (h : w.ownsMap Try.prog 9 rH b n D) (hr : Rp pV D l) : Tb w b l := ⟨D, own_lowS h (by rw [hr.size]; exact Nat.le_refl _), hr⟩
theorem Tb.ne {g : Nat} {cs : Array Value} {t : TypeId} {f : Nat × Nat} (h : Tb w b l) (hg : w.heap[g]? = some (.cells cs t f)) : b ≠ g := by
  rintro rfl
  obtain ⟨D, ⟨es, c, h1, _⟩, _⟩ := h
  rw [h1] at hg
  cases hg
theorem Tb.made (w : World) : Tb (w.alloc (.map #[] 0)) w.heap.size [] := ⟨_, World.ownsMap_made w _ _ _, Rp.nil⟩
end
def hasK (l : List (ByteArray × Nat)) (k : ByteArray) : Bool := l.any (fun p => decide (p.1 = k))
/-- what the table has at a name: a pointer, or nil -/
def luV (l : List (ByteArray × Nat)) (k : ByteArray) : Value := match l.find? (fun p => decide (p.1 = k)) with | some p => pV p.2 | none => .pointer none
theorem luV_mem {l : List (ByteArray × Nat)} {k : ByteArray} {p : Nat} (hn : (l.map (·.1)).Nodup) (h : (k, p) ∈ l) : luV l k = pV p := by
  unfold luV
  induction l with
  | nil => simp at h
  | cons x t ih =>
    simp only [List.map_cons, List.nodup_cons] at hn
    rw [List.find?_cons]
    by_cases hx : x.1 = k
    · simp only [hx, decide_true]
      rcases List.mem_cons.1 h with rfl | h
      · rfl
      · exact absurd (hx ▸ List.mem_map_of_mem (f := (·.1)) h) hn.1
    · simp only [hx, decide_false]
      rcases List.mem_cons.1 h with rfl | h
      · exact absurd rfl hx
      · exact ih hn.2 h
theorem luV_none {l : List (ByteArray × Nat)} {k : ByteArray} (h : k ∉ l.map (·.1)) : luV l k = .pointer none := by
  unfold luV
  rw [List.find?_eq_none.2 (fun x hx => by simp only [decide_eq_true_eq]; exact fun e => h (e ▸ List.mem_map_of_mem hx))]
theorem Rp.lu {D : DataW Value} {l : List (ByteArray × Nat)} (h : Rp pV D l) (k : ByteArray) : D.atKey (.string k.data.toList) (.held (.pointer none)) = .held (luV l k) := by
  by_cases hk : k ∈ l.map (·.1)
  · obtain ⟨x, hx, rfl⟩ := List.mem_map.1 hk
    rw [luV_mem h.1 (show (x.1, x.2) ∈ l from hx)]
    exact h.at (x := x.2) hx _
  · rw [luV_none hk]; exact h.at_none hk _
theorem zeroP (w : World) : (zeroValue 89).run Try.prog w = .ok (.pointer none) w := by kernel_rfl
theorem grown_kp {w w' : World} {b : Nat} (h : w.mapTurned w' b) : Kp (fun k => k = b) w w' := (Kp.refl _ w).grown h.grown (fun j hj => by cases hj; exact .inl rfl)
open Go.ChangeMaps Go.MapKept in
theorem turned_size {w w' : World} {b : Nat} (h : w.mapTurned w' b) : w'.heap.size = w.heap.size := by
  obtain ⟨es, clock, es', clock', hb, rfl⟩ := h
  simp [setBlock]
theorem look_run {w : World} {b : Nat} {l : List (ByteArray × Nat)} (h : Tb w b l) {k : ByteArray} (hk : k.size ≤ maxLen) : (Instr.lookup 66 (.map (some b)) (.string k) false).run Try.prog w = .ok (luV l k) w := by
  obtain ⟨D, h1, h2⟩ := h
  obtain ⟨v, ps, hr, hv⟩ := h1.lookup Try.skeyed Try.underlying66 (zeroP w) (zd := .held (.pointer none)) (zp := []) rfl (keyS hk)
  rw [h2.lu k] at hv
  obtain rfl := rH_inv hv
  exact hr
section
variable {ops : Array Oper} {rest : List Oper} {o : Oper} {a : Act} {Q : Exit → Act → World → Prop} {w : World}
theorem put_T (hg : o.guard = none) (m x v : Operand) (hop : o.op = Op.mapUpdate 66 m x v) (b : Nat) (hm : a.eval m = .map (some b)) (k : ByteArray) (p : Nat) (hx : a.eval x = .string k) (hv : a.eval v = pV p) (l : List (ByteArray × Nat)) (hT : Tb w b l) (hk : k.size ≤ maxLen) (hn : l.length + 1 ≤ maxLen)
    (hK : ∀ w', Tb w' b ((k, p) :: l.filter fun p => !decide (p.1 = k)) → Kp (fun q => q = b) w w' → w'.heap.size = w.heap.size → wpList Try.prog ops Q rest (a.put o.dst undef) w') : wpList Try.prog ops Q (o :: rest) a w := by
  obtain ⟨D, h1, h2⟩ := hT
  exact wpList_mapUpdate_in w hg m x v 66 hop 9 89 Try.skeyed Try.underlying66 rH b _ D hm h1 hn _ _ (.string k.data.toList) hx hv (keyS hk) (.held (pV p)) [] rfl fun w' g1 g2 => hK w' (Tb.mk g1 (h2.put k p)) (grown_kp g2) (turned_size g2)
theorem del_T (hg : o.guard = none) (m x : Operand) (hop : o.op = Op.call { callee := Callee.builtin Builtin.delete, args := #[m, x], argTypes := #[66, 9] }) (b : Nat) (hm : a.eval m = .map (some b)) (k : ByteArray) (hx : a.eval x = .string k) (l : List (ByteArray × Nat)) (hT : Tb w b l) (hk : k.size ≤ maxLen)
    (hK : ∀ w', Tb w' b (l.filter fun p => !decide (p.1 = k)) → Kp (fun q => q = b) w w' → w'.heap.size = w.heap.size → wpList Try.prog ops Q rest (a.put o.dst (.tuple #[])) w') : wpList Try.prog ops Q (o :: rest) a w := by
  obtain ⟨D, h1, h2⟩ := hT
  exact wpList_delete_own w hg m x 66 9 hop 89 Try.skeyed Try.underlying66 rH b _ D hm h1 _ (.string k.data.toList) hx (keyS hk) fun w' g1 g2 => hK w' (Tb.mk g1 (h2.del k)) (grown_kp g2) (turned_size g2)
theorem next_T (hg : o.guard = none) (it : Operand) (hop : o.op = Op.next it false) (b r n : Nat) (D : DataW Value) (L : List (ByteArray × Nat)) (left : Lit → Bool) (cnt : Nat) (hit : a.eval it = .pointer (some ⟨r, 0, none⟩)) (hR : Rp pV D L) (h : w.ranges Try.prog 9 rH b r n D left cnt)
    (hDone : (∀ k : ByteArray, left (.string k.data.toList) = false) → wpList Try.prog ops Q rest (a.put o.dst (.tuple #[.bool false])) w)
    (hMore : ∀ (x : ByteArray) (p : Nat) (w' : World) (cnt' : Nat), (x, p) ∈ L → left (.string x.data.toList) = true → w'.ranges Try.prog 9 rH b r n D (fun z => left z && !z.sameKey (.string x.data.toList)) cnt' → cnt' < cnt →
      w.grownBy w' (some r) → w'.heap.size = w.heap.size → (Instr.entry (.pointer (some ⟨r, 0, none⟩))).run Try.prog w' = .ok (.tuple #[.string x, pV p]) w' → wpList Try.prog ops Q rest (a.put o.dst (.tuple #[.bool true, .string x, pV p])) w') :
    wpList Try.prog ops Q (o :: rest) a w := by
  refine wpList_next_ranges w hg it hop 9 Try.skeyed rH Value.string (fun v : Value => v) (fun key kl hkey => by obtain ⟨x, hx, _⟩ := keyS_inv hkey; exact ⟨x, hx⟩) (fun v y hv => ⟨v, rfl⟩)
    b r n D left cnt hit h (fun _ hl => hDone (fun k => hl _)) (fun x c kl y w' cnt' hkey hlk hv hat hrg hlt hgr hsz hen => ?_)
  obtain ⟨x', hx', hs, rfl⟩ := keyS_inv hkey
  simp only [Value.string.injEq] at hx'
  subst hx'
  have ey : y.1 = .held c := by
    simp [rH] at hv
    rw [← hv]
  have hh := Maps.has_true_of_atKey (y := .held c) (fun z => (hat z).trans ey)
  rw [hR.has, any_iff] at hh
  obtain ⟨q, hq, rfl⟩ := List.mem_map.1 hh
  have h1 := hR.at (k := q.1) (x := q.2) hq (.held (.pointer none))
  rw [hat, ey] at h1
  simp only [DataW.held.injEq] at h1
  subst h1
  exact hMore q.1 q.2 w' cnt' hq hlk hrg hlt hgr hsz hen
theorem range_T (hg : o.guard = none) (m : Operand) (hop : o.op = Op.range 66 m) (b : Nat) (hm : a.eval m = .map (some b)) (L : List (ByteArray × Nat)) (hT : Tb w b L)
    (hK : ∀ w' D, Rp pV D L → w'.ranges Try.prog 9 rH b w.heap.size L.length D (Maps.has D) (Maps.size D) → w.grownBy w' none → w'.heap.size = w.heap.size + 1 → wpList Try.prog ops Q rest (a.put o.dst (.pointer (some ⟨w.heap.size, 0, none⟩))) w') : wpList Try.prog ops Q (o :: rest) a w := by
  obtain ⟨D, h1, h2⟩ := hT
  exact wpList_range_own w hg m 66 hop 9 89 Try.skeyed Try.underlying66 rH b _ D hm h1 fun w' g1 g2 g3 => hK w' D h2 g1 g2 g3
end
end Go.Proofs.Ytgkdecjlanbmhaa
