
/- Stage 13: gaps of a table, gone through and sorted. -/
import Derived.Test.YtondbhdlccpklaaQGaps
import Derived.Test.YtondbhdlccpklaaShelf
import Derived.Sort.OwnSortedInts
namespace Go.Proofs.Ytondbhdlccpklaa
open Go.RowKit Go.Maps
set_option linter.unusedVariables false
set_option linter.unusedSimpArgs false

def srt (ds : List Int) : List Int := ds.mergeSort fun x y => decide (x ≤ y)
theorem sort_own (base : Nat) (v : Value) (ds : List Int) (w : World) (ho : OwnI w base v ds) (hl : ds.length ≤ 4294967296) :
    Calls Try.prog 81 #[v] w fun e w' => e = .returned (.tuple #[]) ∧ OwnI w' base v (srt ds) ∧ w.grownBy w' v.ownBlock := by
  have hlen : (srt ds).length = ds.length := List.length_mergeSort _
  obtain ⟨h1, h2⟩ := ho
  rcases h2 with ⟨rfl, h0⟩ | ⟨g, cap, cur, rfl, hb, hg, hc1, hc2, hsz, htk⟩
  · refine (Try.slices_Sort_int_none none 0 w).mono ?_
    rintro e w' ⟨rfl, rfl⟩
    have e0 : ds = [] := List.length_eq_zero_iff.1 h0
    refine ⟨rfl, ⟨by simp, .inl ⟨rfl, by omega⟩⟩, ⟨rfl, rfl, rfl, Nat.le_refl _, fun _ _ _ => rfl⟩⟩
  · have hH := holds_of_blockI (ss := ds) hg (by simpa using htk)
    refine (Try.slices_Sort_int g 0 cap ds w hH (Array.getElem?_eq_some_iff.1 hg).1 (by omega)).mono ?_
    rintro e w' ⟨rfl, n, os, rfl⟩
    have := ownsRow_sortedI (n := n) (os := os) (ts := srt ds) (ss := ds) hlen hb hg hc1 hc2 hsz
    refine ⟨rfl, ?_, grownBy_sortedI _⟩
    unfold OwnI
    rw [hlen]
    exact this

section
variable {ops : Array Oper} {rest : List Oper} {o : Oper} {a : Act} {Q : Exit → Act → World → Prop} {w : World}
theorem next_P (hg : o.guard = none) (it : Operand) (hop : o.op = Op.next it false) (b r n : Nat) (D : DataW Value) (L : List (Int × Pd)) (left : Lit → Bool) (cnt : Nat) (hit : a.eval it = .pointer (some ⟨r, 0, none⟩)) (hR : Rp pdV D L) (h : w.ranges Try.prog 3 rP b r n D left cnt)
    (hDone : (∀ k : Int, left (.int .i64 k) = false) → wpList Try.prog ops Q rest (a.put o.dst (.tuple #[.bool false])) w)
    (hMore : ∀ (x : Int) (p : Pd) (w' : World) (cnt' : Nat), (x, p) ∈ L → wf64 x → left (.int .i64 x) = true → w'.ranges Try.prog 3 rP b r n D (fun z => left z && !z.sameKey (.int .i64 x)) cnt' → cnt' < cnt →
      w.grownBy w' (some r) → w'.heap.size = w.heap.size → (Instr.entry (.pointer (some ⟨r, 0, none⟩))).run Try.prog w' = .ok (.tuple #[.int .i64 x, .agg #[.int .i64 p.1, .int .i64 p.2.1, .string p.2.2]]) w' → wpList Try.prog ops Q rest (a.put o.dst (.tuple #[.bool true, .int .i64 x, .agg #[.int .i64 p.1, .int .i64 p.2.1, .string p.2.2]])) w') :
    wpList Try.prog ops Q (o :: rest) a w := by
  refine wpList_next_ranges w hg it hop 3 Try.keyed rP (Value.int .i64) pdV (fun key kl hkey => by obtain ⟨x, rfl, _⟩ := Maps.keyOf_int_inv Try.underlying3 hkey; exact ⟨x, rfl⟩) (fun v y hv => by obtain ⟨c, rfl, _⟩ := rP_inv hv; exact ⟨c, rfl⟩)
    b r n D left cnt hit h (fun _ hl => hDone (fun k => hl _)) (fun x c kl y w' cnt' hkey hlk hv hat hrg hlt hgr hsz hen => ?_)
  obtain ⟨x', ex, rfl, hwx⟩ := Maps.keyOf_int_inv Try.underlying3 hkey
  cases ex
  obtain ⟨c', ec, ey⟩ := rP_inv hv
  have hh := Maps.has_true_of_atKey hat
  rw [hR.has] at hh
  have hm := lu_mem (d := pd0) hh
  have h1 := hR.at hm (.held (pdV pd0))
  rw [hat, ey] at h1
  simp only [DataW.held.injEq] at h1
  have e1 := pdV_inj h1
  have e2 := pdV_inj ec
  rw [← e1, ← e2] at hm
  exact hMore x c w' cnt' hm hwx hlk hrg hlt hgr hsz hen
theorem range_P (hg : o.guard = none) (m : Operand) (hop : o.op = Op.range 90 m) (b : Nat) (hm : a.eval m = .map (some b)) (L : List (Int × Pd)) (hT : TbP w b L)
    (hK : ∀ w' D, Rp pdV D L → w'.ranges Try.prog 3 rP b w.heap.size L.length D (Maps.has D) (Maps.size D) → w.grownBy w' none → w'.heap.size = w.heap.size + 1 → wpList Try.prog ops Q rest (a.put o.dst (.pointer (some ⟨w.heap.size, 0, none⟩))) w') : wpList Try.prog ops Q (o :: rest) a w := by
  obtain ⟨D, h1, h2⟩ := hT
  exact wpList_range_own w hg m 90 hop 3 75 Try.keyed Try.underlying90 rP b _ D hm h1 fun w' g1 g2 g3 => hK w' D h2 g1 g2 g3
end

/-! ### what is gathered -/
def gin (far d : Int) : Bool := decide (0 ≤ d) && decide (d ≤ far)
/-- the gaps of those that have come -/
def gapB (L : List (Int × Pd)) (first far : Int) (left : Lit → Bool) : List Int := (((L.filter fun p => !left (.int .i64 p.1)).map fun p => gapZ first p.1)).filter (gin far)
theorem gapB_done {L : List (Int × Pd)} {first far : Int} {left : Lit → Bool} (h : ∀ k : Int, left (.int .i64 k) = false) : gapB L first far left = (L.map fun p => gapZ first p.1).filter (gin far) := by
  unfold gapB
  have e : (L.filter fun p => !left (.int .i64 p.1)) = L := List.filter_eq_self.2 (fun p _ => by simp [h])
  rw [e]
theorem gapB_start {L : List (Int × Pd)} {first far : Int} {D : DataW Value} (hR : Rp pdV D L) : gapB L first far (Maps.has D) = [] := by
  unfold gapB
  have e : (L.filter fun p => !Maps.has D (.int .i64 p.1)) = [] := by
    rw [List.filter_eq_nil_iff]
    intro p hp
    rw [hR.has]
    have : L.any (fun q => q.1 == p.1) = true := any_iff.2 (List.mem_map_of_mem hp)
    simp [this]
  rw [e]
  rfl
theorem split_one : ∀ {L : List (Int × Pd)}, (L.map (·.1)).Nodup → ∀ {left : Lit → Bool} {x : Int} {p : Pd}, (x, p) ∈ L → left (.int .i64 x) = true →
    (L.filter fun q => !(left (.int .i64 q.1) && !(Lit.int .i64 q.1).sameKey (.int .i64 x))).Perm ((x, p) :: L.filter fun q => !left (.int .i64 q.1))
  | [], _, _, _, _, hm, _ => by cases hm
  | y :: t, hn, left, x, p, hm, hl => by
    simp only [List.map_cons, List.nodup_cons] at hn
    rcases List.mem_cons.1 hm with e | hm'
    · subst e
      have ht : (t.filter fun q => !(left (.int .i64 q.1) && !(Lit.int .i64 q.1).sameKey (.int .i64 x))) = t.filter fun q => !left (.int .i64 q.1) := by
        apply List.filter_congr
        intro q hq
        have hne : q.1 ≠ x := fun e => hn.1 (by rw [← e]; exact List.mem_map_of_mem (f := (·.1)) hq)
        rw [lit_same]
        have : (q.1 == x) = false := by simp [hne]
        simp [this]
      rw [List.filter_cons_of_pos (by simp [lit_same]), List.filter_cons_of_neg (by simp [hl]), ht]
    · have hne : y.1 ≠ x := fun e => hn.1 (by rw [e]; exact List.mem_map_of_mem (f := (·.1)) hm')
      have ih := split_one hn.2 hm' hl
      have hys : (y.1 == x) = false := by simp [hne]
      by_cases hy : left (.int .i64 y.1) = true
      · rw [List.filter_cons_of_neg (by simp [hy, lit_same, hys]), List.filter_cons_of_neg (by simp [hy])]
        exact ih
      · rw [List.filter_cons_of_pos (by simp [hy]), List.filter_cons_of_pos (by simp [hy])]
        exact (ih.cons y).trans (List.Perm.swap _ _ _)
theorem gapB_step {L : List (Int × Pd)} {first far : Int} {left : Lit → Bool} {D : DataW Value} (hR : Rp pdV D L) {x : Int} {p : Pd} (hm : (x, p) ∈ L) (hl : left (.int .i64 x) = true) :
    (gapB L first far (fun z => left z && !z.sameKey (.int .i64 x))).Perm (gapB L first far left ++ if gin far (gapZ first x) then [gapZ first x] else []) := by
  unfold gapB
  have h := (split_one hR.1 hm hl).map (fun q => gapZ first q.1)
  refine (h.filter (gin far)).trans ?_
  rw [List.map_cons]
  by_cases hg : gin far (gapZ first x) = true
  · rw [List.filter_cons_of_pos hg, if_pos hg]
    exact (List.perm_append_comm (l₁ := [gapZ first x]))
  · rw [List.filter_cons_of_neg hg, if_neg hg, List.append_nil]
theorem gapB_len (L : List (Int × Pd)) (first far : Int) (left : Lit → Bool) : (gapB L first far left).length ≤ L.length := by
  unfold gapB
  refine Nat.le_trans (List.length_filter_le _ _) ?_
  rw [List.length_map]
  exact List.length_filter_le _ _

set_option maxRecDepth 100000 in
set_option maxHeartbeats 1000000 in
theorem gaps_many (b : Nat) (L : List (Int × Pd)) (first far : Int) (w : World) (hT : TbP w b L) (hf : (L.length : Int) ≤ far) (hL : L.length ≤ 4294967296) :
    Calls Try.prog 78 #[.map (some b), .int .i64 first, .int .i64 far] w fun e w' => ∃ v ds, e = .returned v ∧ OwnI w' w.heap.size v (srt ds) ∧ ds.Perm ((L.map fun p => gapZ first p.1).filter (gin far)) ∧ Below w.heap.size w w' := by
  obtain ⟨i0, hi, hz0, hz1, hz2⟩ := info_parts Try.infoInt
  have HT := hide hT
  have hbl := hT.lt
  obtain ⟨n, hn⟩ : ∃ n, n = L.length := ⟨_, rfl⟩
  rw [← hn] at hf
  have HL := hide hL
  have HN := hide hn
  have hnf : ¬ (far < (n : Int)) := by omega
  clear hT hL hn hf
  go_enter Try.func78, Try.ntmps78
  go_wp2_with (first | (at_len; refine len_P rfl _ rfl b rfl L HT.out ?_; rw [← HN.out]) | (at_range; refine range_P rfl _ rfl b rfl L HT.out ?_; intro w1 D hR hrg hg1 hs1))
  have HR := hide hR
  have HG0 := hide hrg
  have HB1 : Hid (Below w.heap.size w w1) := (Below.refl _ _).grown hg1 (Nat.le_refl _) (fun k hk => by cases hk)
  have hw1 : w.heap.size < w1.heap.size := by omega
  clear hR hrg hg1 hs1
  go_loopw [7] (fun v wr => ∃ left cnt ds, wr.ranges Try.prog 3 rP b w.heap.size L.length D left cnt ∧ OwnI wr (w.heap.size + 1) v ds ∧ Hid (ds.Perm (gapB L first far left)) ∧ Below w.heap.size w wr ∧ w.heap.size < wr.heap.size) (fun _ wr => wr.rangeLeft b w.heap.size)
  case atStart => exact ⟨_, _, [], HG0.out, ⟨rfl, .inl ⟨rfl, rfl⟩⟩, by rw [gapB_start HR.out]; exact .refl _, HB1.out, hw1⟩
  case round =>
    obtain ⟨left, cnt, ds, hrg, ho, hp, hb, hlt⟩ := hrel
    have HRg := hide hrg
    have HO := hide ho
    have HB := hide hb
    clear hrg ho hb
    go_wp2_with (at_next; refine next_P rfl _ rfl b w.heap.size L.length D L left cnt rfl HR.out HRg.out ?_ ?_)
    · intro hl0
      have HS := hide (sort_own (w.heap.size + 1) u7 ds wr HO.out (by rw [hp.out.length_eq]; have := gapB_len L first far left; have := HL.out; omega))
      go_wp2_with fail
      refine HS.out.mono ?_
      rintro e2 w2 ⟨rfl, ho2, hg2⟩
      have HO2 := hide ho2
      have HB2 : Hid (Below w.heap.size w w2) := HB.out.grown hg2 (by omega) (fun k hk => by have := (HO.out.lt k hk).1; omega)
      clear ho2 hg2
      go_wp2
      go_ret
      refine ⟨_, ds, rfl, ?_, ?_, HB2.out⟩
      · obtain ⟨q1, q2⟩ := HO2.out
        refine ⟨q1, ?_⟩
        rcases q2 with q2 | ⟨g, cap, cur, e, q3, q4⟩
        · exact .inl q2
        · exact .inr ⟨g, cap, cur, e, by omega, q4⟩
      · rw [← gapB_done (first := first) hl0]
        exact hp.out
    · intro x p w1 cnt1 hm hwx hlx hrg1 hlt1 hg1 hs1 hen
      have HRg1 := hide hrg1
      have HM := hide hm
      have hst := hide (gapB_step (first := first) (far := far) HR.out hm hlx)
      have HO1 : Hid (OwnI w1 (w.heap.size + 1) u7 ds) := own_at HO.out fun k hk => hg1.block k (HO.out.lt k hk).2 (by have := (HO.out.lt k hk).1; simp; omega)
      have HB1' : Hid (Below w.heap.size w w1) := HB.out.grown hg1 (by omega) (fun k hk => by cases hk; exact Nat.le_refl _)
      have hw1' : w.heap.size < w1.heap.size := by omega
      obtain ⟨d, hd⟩ : ∃ d, d = gapZ first x := ⟨_, rfl⟩
      have HD := hide hd
      rw [← hd] at hst
      have hdl : Hid (ds.length ≤ 4294967296) := by
        have := gapB_len L first far left
        have := HL.out
        show _ ≤ _
        rw [hp.out.length_eq]
        omega
      have hds : -9223372036854775808 ≤ d ∧ d ≤ 9223372036854775807 := by rw [hd]; unfold gapZ; omega
      clear hrg1 hm hd hg1 hs1
      by_cases h0 : 0 ≤ d
      · by_cases h1 : d ≤ far
        · rw [if_pos (by simp [gin, h0, h1])] at hst
          go_wp2_with (first | (go_at_call 53; refine (gap_any _ _ _).mono ?_; rintro e2 w2 ⟨rfl, rfl⟩; rw [← HD.out]) | (at_builtin; refine wpList_append_own_at _ rfl _ _ 68 rfl (w.heap.size + 1) 3 i0 (.int .i64 0) 1 8 Try.underlying68 hi hz0 hz1 hz2 rfl (by decide) _ _ _ rfl (HO1.out.alloc _) ⟨w1.heap.size, 0, none⟩ 1 1 [.int .i64 d] rfl rfl (cell_one_new _ _ _) (ints_oneCell .i64 [d]) (by have := hdl.out; unfold maxLen; omega) (by have := hdl.out; omega) (by simp; omega) ?_; intro v' w3 hown' hgrow hnil hloc))
          go_roundw
          case rel =>
            have h1r : some b ≠ u7.ownBlock := fun e => by have := (HO1.out.lt b e.symm).1; omega
            have h2r : some w.heap.size ≠ u7.ownBlock := fun e => by have := (HO1.out.lt _ e.symm).1; omega
            refine ⟨_, cnt1, ds ++ [d], (HRg1.out.alloc _).kept hgrow h1r h2r, by simpa [OwnI] using hown', (hp.out.append_right _).trans hst.out.symm, (bel1 HB1'.out (by omega) _).grown hgrow (by simp; omega) (fun k hk => by have := (HO1.out.lt k hk).1; omega), by have := hgrow.size; simp at this; omega⟩
          case measure =>
            have h1r : some b ≠ u7.ownBlock := fun e => by have := (HO1.out.lt b e.symm).1; omega
            have h2r : some w.heap.size ≠ u7.ownBlock := fun e => by have := (HO1.out.lt _ e.symm).1; omega
            rw [((HRg1.out.alloc _).kept hgrow h1r h2r).left_eq, HRg.out.left_eq]
            exact hlt1
        · rw [if_neg (by simp [gin, h1]), List.append_nil] at hst
          go_wp2_with (go_at_call 53; refine (gap_any _ _ _).mono ?_; rintro e2 w2 ⟨rfl, rfl⟩; rw [← HD.out])
          go_roundw
          case rel => exact ⟨_, cnt1, ds, HRg1.out, HO1.out, hp.out.trans hst.out.symm, HB1'.out, hw1'⟩
          case measure => rw [HRg1.out.left_eq, HRg.out.left_eq]; exact hlt1
      · rw [if_neg (by simp [gin, h0]), List.append_nil] at hst
        go_wp2_with (go_at_call 53; refine (gap_any _ _ _).mono ?_; rintro e2 w2 ⟨rfl, rfl⟩; rw [← HD.out])
        go_roundw
        case rel => exact ⟨_, cnt1, ds, HRg1.out, HO1.out, hp.out.trans hst.out.symm, HB1'.out, hw1'⟩
        case measure => rw [HRg1.out.left_eq, HRg.out.left_eq]; exact hlt1
end Go.Proofs.Ytondbhdlccpklaa
