
/- Stage 18: the table of bindings: what its operations do. -/
import Derived.Test.YtmanfakdbmlfeaaDoorRMap
import Derived.Sort.MapsRangeIn
namespace Go.Proofs.YtmanfakdbmlfeaaDoor
open Go.RowKit Go.Maps
set_option linter.unusedVariables false
set_option linter.unusedSimpArgs false
def rH (v : Value) : Option (DataW Value × List MemPlace) := some (.held v, [])
theorem rH_inv {v x : Value} {ps : List MemPlace} (h : rH v = some (.held x, ps)) : v = x := by
  simp [rH] at h
  exact h.1
def unV (_ : Unit) : Value := .agg #[]
def okB (b : Bd) : Prop := b.1.size ≤ maxLen ∧ b.2.size ≤ maxLen
def tb (L : List Bd) : List (ByteArray × Unit) := L.map fun b => (kb b, ())
def hasB (L : List Bd) (k : Bd) : Bool := L.any fun x => decide (x = k)
theorem hasB_iff {L : List Bd} {k : Bd} : hasB L k = true ↔ k ∈ L := by simp [hasB, List.any_eq_true]
theorem hasB_not {L : List Bd} {k : Bd} : hasB L k = false ↔ k ∉ L := by rw [← Bool.not_eq_true, hasB_iff]
def TbB (w : World) (b : Nat) (L : List Bd) : Prop := (∀ x, x ∈ L → okB x) ∧ L.Nodup ∧ ∃ D, w.ownsMap Tryd.prog 36 rH b L.length D ∧ Rp unV D (tb L)
section
variable {w w' : World} {b : Nat} {L L' : List Bd}
theorem TbB.lt (h : TbB w b L) : b < w.heap.size := by obtain ⟨_, _, D, h, _⟩ := h; exact h.lt
theorem TbB.at (h : TbB w b L) (hb : w'.heap[b]? = w.heap[b]?) : TbB w' b L := by
  obtain ⟨h0, hn, D, ⟨es, c, h1, h2⟩, h3⟩ := h
  exact ⟨h0, hn, D, ⟨es, c, hb.trans h1, h2⟩, h3⟩
theorem own_lowB {R : Value → Option (DataW Value × List MemPlace)} {n m : Nat} {D : DataW Value} (h : w.ownsMap Tryd.prog 36 R b n D) (hm : Maps.size D ≤ m) : w.ownsMap Tryd.prog 36 R b m D := by
  obtain ⟨es, c, h1, h2, h3, h4⟩ := h
  refine ⟨es, c, h1, h2, ?_, h4⟩
  rw [h4] at hm
  simpa [Maps.size, length_sorted] using hm
theorem TbB.made (w : World) : TbB (w.alloc (.map #[] 0)) w.heap.size [] := ⟨by simp, by simp, _, World.ownsMap_made w _ _ _, Rp.nil⟩
theorem tb_any (h : ∀ x, x ∈ L → okB x) {k : Bd} (hk : okB k) : (tb L).any (fun p => decide (p.1 = kb k)) = hasB L k := by
  rw [Bool.eq_iff_iff, hasB_iff]
  simp only [tb, List.any_map, List.any_eq_true, Function.comp, decide_eq_true_eq]
  constructor
  · rintro ⟨x, hx, e⟩
    rw [← kb_inj (h x hx) hk e]
    exact hx
  · intro hk
    exact ⟨k, hk, rfl⟩
theorem zeroU (w : World) : (zeroValue 58).run Tryd.prog w = .ok (.agg #[]) w := by kernel_rfl
theorem look_run (h : TbB w b L) {k : Bd} (hk : okB k) : (Instr.lookup 54 (.map (some b)) (bdV k) true).run Tryd.prog w = .ok (.tuple #[.agg #[], .bool (hasB L k)]) w := by
  obtain ⟨h0, hn, D, h1, h2⟩ := h
  obtain ⟨v, ps, hr, hv⟩ := h1.look_ok Tryd.bkeyed Tryd.underlying54 (zeroU w) (zd := .held (.agg #[])) (zp := []) rfl (keyB hk.1 hk.2)
  have e : D.atKey (.string (kb k).data.toList) (.held (.agg #[])) = .held (.agg #[]) := by
    cases hh : hasB L k with
    | true => exact h2.at (List.mem_map.2 ⟨k, hasB_iff.1 hh, rfl⟩) _
    | false =>
      refine h2.at_none ?_ _
      rw [← any_not, tb_any h0 hk]
      exact hh
  rw [e] at hv
  obtain rfl := rH_inv hv
  rw [h2.has, tb_any h0 hk] at hr
  exact hr
theorem len_run (h : TbB w b L) (ty : TypeId) : (Builtin.len_ #[54] ty #[.map (some b)]).run Tryd.prog w = .ok (.int .i64 L.length) w := by
  obtain ⟨h0, hn, D, h1, h2⟩ := h
  have := h1.len Tryd.underlying54 ty
  rw [h2.size] at this
  simpa [tb] using this
theorem tb_filter (h : ∀ x, x ∈ L → okB x) {k : Bd} (hk : okB k) : (tb L).filter (fun p => !decide (p.1 = kb k)) = tb (L.filter fun x => !decide (x = k)) := by
  unfold tb
  rw [List.filter_map]
  congr 1
  refine List.filter_congr fun x hx => ?_
  simp only [Function.comp]
  congr 1
  rw [Bool.eq_iff_iff, decide_eq_true_eq, decide_eq_true_eq]
  exact ⟨fun e => kb_inj (h x hx) hk e, fun e => by rw [e]⟩
theorem store_run (h : TbB w b L) {k : Bd} (hk : okB k) (hnew : k ∉ L) (hl : L.length ≤ 1000000) : ∃ w', (Instr.mapUpdate 54 (.map (some b)) (bdV k) (.agg #[])).run Tryd.prog w = .ok () w' ∧ TbB w' b (k :: L) ∧ w.mapTurned w' b := by
  obtain ⟨h0, hn, D, h1, h2⟩ := h
  obtain ⟨w', hr, h3, h4⟩ := h1.store (val := .agg #[]) (d := .held (.agg #[])) (ps := []) Tryd.bkeyed Tryd.underlying54 (by unfold maxLen; omega) (keyB hk.1 hk.2) rfl
  refine ⟨w', hr, ⟨?_, List.nodup_cons.2 ⟨hnew, hn⟩, _, h3, ?_⟩, h4⟩
  · intro x hx
    rcases List.mem_cons.1 hx with rfl | hx
    · exact hk
    · exact h0 x hx
  · have h5 := h2.put (kb k) ()
    have e5 : (L.filter fun x => !decide (x = k)) = L := by
      rw [List.filter_eq_self]
      intro x hx
      have : x ≠ k := fun e => hnew (e ▸ hx)
      simp [this]
    rw [tb_filter h0 hk, e5] at h5
    exact h5
theorem turned_size {w w' : World} {b : Nat} (h : w.mapTurned w' b) : w'.heap.size = w.heap.size := by
  obtain ⟨es, clock, es', clock', hb, rfl⟩ := h
  simp [Go.ChangeMaps.setBlock]
theorem grown_kp {w w' : World} {b : Nat} (h : w.mapTurned w' b) : Kp (fun k => k = b) w w' := (Kp.refl _ w).grown h.grown (fun j hj => by cases hj; exact .inl rfl)
end
section
variable {ops : Array Oper} {rest : List Oper} {o : Oper} {a : Act} {Q : Exit → Act → World → Prop} {w : World}
theorem next_B (hg : o.guard = none) (it : Operand) (hop : o.op = Op.next it false) (b r n : Nat) (D : DataW Value) (L : List Bd) (left : Lit → Bool) (cnt : Nat) (hit : a.eval it = .pointer (some ⟨r, 0, none⟩)) (h0 : ∀ x, x ∈ L → okB x) (hR : Rp unV D (tb L)) (h : w.ranges Tryd.prog 36 rH b r n D left cnt)
    (hDone : (∀ k : Bd, left (.string (kb k).data.toList) = false) → wpList Tryd.prog ops Q rest (a.put o.dst (.tuple #[.bool false])) w)
    (hMore : ∀ (x : Bd) (w' : World) (cnt' : Nat), x ∈ L → left (.string (kb x).data.toList) = true → w'.ranges Tryd.prog 36 rH b r n D (fun z => left z && !z.sameKey (.string (kb x).data.toList)) cnt' → cnt' < cnt →
      w.grownBy w' (some r) → w'.heap.size = w.heap.size → (Instr.entry (.pointer (some ⟨r, 0, none⟩))).run Tryd.prog w' = .ok (.tuple #[bdV x, .agg #[]]) w' → wpList Tryd.prog ops Q rest (a.put o.dst (.tuple #[.bool true, bdV x, .agg #[]])) w') :
    wpList Tryd.prog ops Q (o :: rest) a w := by
  refine wpList_next_ranges w hg it hop 36 Tryd.bkeyed rH bdV (fun v : Value => v) (fun key kl hkey => by obtain ⟨x, hx, _⟩ := keyB_inv hkey; exact ⟨x, hx⟩) (fun v y hv => ⟨v, rfl⟩)
    b r n D left cnt hit h (fun _ hl => hDone (fun k => hl _)) (fun x c kl y w' cnt' hkey hlk hv hat hrg hlt hgr hsz hen => ?_)
  obtain ⟨x', hx', rfl, hs⟩ := keyB_inv hkey
  obtain rfl := bdV_inj hx'
  have ey : y.1 = .held c := by
    simp [rH] at hv
    rw [← hv]
  have hh := Maps.has_true_of_atKey (y := .held c) (fun z => (hat z).trans ey)
  rw [hR.has, tb_any h0 hs, hasB_iff] at hh
  have h1 := hR.at (x := ()) (List.mem_map.2 ⟨x, hh, rfl⟩) (.held (.agg #[]))
  rw [hat, ey] at h1
  simp only [DataW.held.injEq] at h1
  subst h1
  exact hMore x w' cnt' hh hlk hrg hlt hgr hsz hen
theorem range_B (hg : o.guard = none) (m : Operand) (hop : o.op = Op.range 54 m) (b : Nat) (hm : a.eval m = .map (some b)) (L : List Bd) (hT : TbB w b L)
    (hK : ∀ w' D, Rp unV D (tb L) → w'.ranges Tryd.prog 36 rH b w.heap.size L.length D (Maps.has D) (Maps.size D) → w.grownBy w' none → w'.heap.size = w.heap.size + 1 → wpList Tryd.prog ops Q rest (a.put o.dst (.pointer (some ⟨w.heap.size, 0, none⟩))) w') : wpList Tryd.prog ops Q (o :: rest) a w := by
  obtain ⟨h0, hn, D, h1, h2⟩ := hT
  exact wpList_range_own w hg m 54 hop 36 58 Tryd.bkeyed Tryd.underlying54 rH b _ D hm h1 fun w' g1 g2 g3 => hK w' D h2 g1 g2 g3
end
end Go.Proofs.YtmanfakdbmlfeaaDoor
