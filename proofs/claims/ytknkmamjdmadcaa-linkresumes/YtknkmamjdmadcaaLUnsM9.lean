import Derived.Test.YtknkmamjdmadcaaLSrtM9
import Derived.Test.YtknkmamjdmadcaaLWayM9
import Derived.Sort.MapsRangeIn
import Derived.Maps.RangeWalk

/- Stage 14: Unsettled. -/
namespace Go.Proofs.Ytknkmamjdmadcaa
open Go.RowKit Go.Maps
set_option linter.unusedVariables false
set_option linter.unusedSimpArgs false

theorem Try.infoUn : (Try.prog.info? 70).map (fun i => (i.zero.map (·.cells.size), i.size, i.bytes)) = some (some 20, 20, 248) := by kernel_rfl
theorem info3 {P : Program} {t : TypeId} {n b : Nat} (h : (P.info? t).map (fun i => (i.zero.map (·.cells.size), i.size, i.bytes)) = some (some n, n, b)) : ∃ i z, P.info? t = some i ∧ i.zero = some z ∧ z.cells.size = n ∧ i.size = n ∧ i.bytes = b := by
  cases hi : P.info? t with
  | none => rw [hi] at h; cases h
  | some i =>
    rw [hi] at h
    simp only [Option.map_some, Option.some.injEq, Prod.mk.injEq] at h
    obtain ⟨h1, h2, h3⟩ := h
    cases hz : i.zero with
    | none => rw [hz] at h1; cases h1
    | some z =>
      rw [hz] at h1
      simp only [Option.map_some, Option.some.injEq] at h1
      exact ⟨i, z, rfl, hz, h1, h2, h3⟩
def unK : WK Un := ⟨Un.enc, 20, 248, 70, 40⟩
theorem unOk : unK.Ok := ⟨un_len, un_one, Try.underlying40, info3 Try.infoUn, by decide, by decide, by decide⟩
theorem keyS_inv {x : ByteArray} {kl : Lit} (h : keyOf Try.prog 9 (.string x) = some kl) : kl = .string x.data.toList ∧ x.size ≤ maxLen := by
  by_cases hx : x.size ≤ maxLen
  · rw [keyS hx] at h
    exact ⟨(Option.some.inj h).symm, hx⟩
  · rw [keyOf_string Try.underlying9] at h
    simp [mapKey, Try.underlying9, hx] at h
section
variable {ops : Array Oper} {rest : List Oper} {o : Oper} {a : Act} {Q : Exit → Act → World → Prop} {w : World}
theorem next_D (hg : o.guard = none) (it : Operand) (hop : o.op = Op.next it false) (b r n : Nat) (D : DataW Value) (L : List (ByteArray × Dv)) (left : Lit → Bool) (cnt : Nat) (hit : a.eval it = .pointer (some ⟨r, 0, none⟩)) (hR : Rp dvV D L) (h : w.ranges Try.prog 9 rH b r n D left cnt)
    (hDone : (∀ k : ByteArray, left (.string k.data.toList) = false) → wpList Try.prog ops Q rest (a.put o.dst (.tuple #[.bool false])) w)
    (hMore : ∀ (x : ByteArray) (p : Dv) (w' : World) (cnt' : Nat), (x, p) ∈ L → left (.string x.data.toList) = true → w'.ranges Try.prog 9 rH b r n D (fun z => left z && !z.sameKey (.string x.data.toList)) cnt' → cnt' < cnt →
      w.grownBy w' (some r) → w'.heap.size = w.heap.size → (Instr.entry (.pointer (some ⟨r, 0, none⟩))).run Try.prog w' = .ok (.tuple #[.string x, dvV p]) w' → wpList Try.prog ops Q rest (a.put o.dst (.tuple #[.bool true, .string x, dvV p])) w') :
    wpList Try.prog ops Q (o :: rest) a w := by
  refine wpList_next_ranges w hg it hop 9 Try.skeyed rH Value.string (fun v : Value => v) (fun key kl hkey => Maps.keyOf_string_inv Try.underlying9 hkey) (fun v y hv => ⟨v, rfl⟩)
    b r n D left cnt hit h (fun _ hl => hDone (fun k => hl _)) (fun x c kl y w' cnt' hkey hlk hv hat hrg hlt hgr hsz hen => ?_)
  obtain ⟨rfl, hx⟩ := keyS_inv hkey
  have ey : y.1 = .held c := by
    simp [rH] at hv
    rw [← hv]
  have hh := Maps.has_true_of_atKey (y := .held c) (fun z => (hat z).trans ey)
  rw [hR.has] at hh
  have hm := lu_mem (d := dv0) hh
  have h1 := hR.at hm (.held (dvV dv0))
  rw [hat, ey] at h1
  simp only [DataW.held.injEq] at h1
  subst h1
  exact hMore x _ w' cnt' hm hlk hrg hlt hgr hsz hen
theorem range_D (hg : o.guard = none) (m : Operand) (hop : o.op = Op.range 82 m) (b : Nat) (hm : a.eval m = .map (some b)) (L : List (ByteArray × Dv)) (hT : TbD w b L)
    (hK : ∀ w' D, Rp dvV D L → w'.ranges Try.prog 9 rH b w.heap.size L.length D (Maps.has D) (Maps.size D) → w.grownBy w' none → w'.heap.size = w.heap.size + 1 → wpList Try.prog ops Q rest (a.put o.dst (.pointer (some ⟨w.heap.size, 0, none⟩))) w') : wpList Try.prog ops Q (o :: rest) a w := by
  obtain ⟨D, h1, h2⟩ := hT
  exact wpList_range_own w hg m 82 hop 9 89 Try.skeyed Try.underlying82 rH b _ D hm h1 fun w' g1 g2 g3 => hK w' D h2 g1 g2 g3
end
def unOf (p : ByteArray × Dv) : Un := (p.1, p.2.1)
/-- those that have come -/
def unB (L : List (ByteArray × Dv)) (left : Lit → Bool) : List Un := (L.filter fun p => !left (.string p.1.data.toList)).map unOf
theorem unB_done {L : List (ByteArray × Dv)} {left : Lit → Bool} (h : ∀ k : ByteArray, left (.string k.data.toList) = false) : unB L left = L.map unOf := by
  unfold unB
  have e : (L.filter fun p => !left (.string p.1.data.toList)) = L := List.filter_eq_self.2 (fun p _ => by simp [h])
  rw [e]
theorem unB_start {L : List (ByteArray × Dv)} {D : DataW Value} (hR : Rp dvV D L) : unB L (Maps.has D) = [] := by
  unfold unB
  have e : (L.filter fun p => !Maps.has D (.string p.1.data.toList)) = [] := by
    rw [List.filter_eq_nil_iff]
    intro p hp
    rw [hR.has]
    have : L.any (fun q => decide (q.1 = p.1)) = true := any_iff.2 (List.mem_map_of_mem hp)
    simp [this]
  rw [e]
  rfl
theorem split_one : ∀ {L : List (ByteArray × Dv)}, (L.map (·.1)).Nodup → ∀ {left : Lit → Bool} {x : ByteArray} {p : Dv}, (x, p) ∈ L → left (.string x.data.toList) = true →
    (L.filter fun q => !(left (.string q.1.data.toList) && !(Lit.string q.1.data.toList).sameKey (.string x.data.toList))).Perm ((x, p) :: L.filter fun q => !left (.string q.1.data.toList))
  | [], _, _, _, _, hm, _ => by cases hm
  | y :: t, hn, left, x, p, hm, hl => by
    simp only [List.map_cons, List.nodup_cons] at hn
    rcases List.mem_cons.1 hm with e | hm'
    · subst e
      have ht : (t.filter fun q => !(left (.string q.1.data.toList) && !(Lit.string q.1.data.toList).sameKey (.string x.data.toList))) = t.filter fun q => !left (.string q.1.data.toList) := by
        apply List.filter_congr
        intro q hq
        have hne : q.1 ≠ x := fun e => hn.1 (by rw [← e]; exact List.mem_map_of_mem (f := (·.1)) hq)
        rw [lit_same]
        simp [hne]
      rw [List.filter_cons_of_pos (by simp [lit_same]), List.filter_cons_of_neg (by simp [hl]), ht]
    · have hne : y.1 ≠ x := fun e => hn.1 (by rw [e]; exact List.mem_map_of_mem (f := (·.1)) hm')
      have ih := split_one hn.2 hm' hl
      by_cases hy : left (.string y.1.data.toList) = true
      · rw [List.filter_cons_of_neg (by simp [hy, lit_same, hne]), List.filter_cons_of_neg (by simp [hy])]
        exact ih
      · rw [List.filter_cons_of_pos (by simp [hy]), List.filter_cons_of_pos (by simp [hy])]
        exact (ih.cons y).trans (List.Perm.swap _ _ _)
theorem unB_step {L : List (ByteArray × Dv)} {left : Lit → Bool} {D : DataW Value} (hR : Rp dvV D L) {x : ByteArray} {p : Dv} (hm : (x, p) ∈ L) (hl : left (.string x.data.toList) = true) :
    (unB L (fun z => left z && !z.sameKey (.string x.data.toList))).Perm (unB L left ++ [unOf (x, p)]) := by
  unfold unB
  have h := (split_one hR.1 hm hl).map unOf
  exact h.trans (List.perm_append_singleton _ _).symm
theorem unB_len (L : List (ByteArray × Dv)) (left : Lit → Bool) : (unB L left).length ≤ L.length := by
  unfold unB
  rw [List.length_map]
  exact List.length_filter_le _ _
theorem run_makeU (n : Nat) (hn : n ≤ 1000000000) (w : World) :
    ∃ cur, (Instr.makeSlice 40 (.int .i64 0) (.int .i64 n)).run Try.prog w = .ok (.slice (some ⟨w.heap.size, 0, none⟩) 0 n) (w.alloc (.cells cur 70)) ∧ cur.size = n * 20 := by
  obtain ⟨i, z, hi, hz, hzs, his, hib⟩ := info3 Try.infoUn
  have hr := run_make (P := Try.prog) w 40 70 i _ Try.underlying40 hi hz .i64 .i64 0 n (by omega) (by omega) (by rw [hib]; omega) (by omega)
  simp only [his] at hr
  exact ⟨_, by simpa using hr, by simp [madeCells, hzs]⟩
/-- the tags of a list, in their order -/
def UnsP (w w' : World) (T : List (ByteArray × Dv)) (v : Value) : Prop := ∃ a c ts, v = .slice a ts.length c ∧ ts.Perm (keys T) ∧ (∀ i j (hi : i < ts.length) (hj : j < ts.length), i < j → 0 ≤ cmpB ts[j].toList ts[i].toList) ∧ RdU w' a ts ∧ Below w.heap.size w w'
end Go.Proofs.Ytknkmamjdmadcaa
