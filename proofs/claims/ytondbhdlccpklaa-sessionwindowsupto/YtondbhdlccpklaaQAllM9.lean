import Derived.Test.YtondbhdlccpklaaQNoteM9
import Derived.Maps.AppendAt
import Derived.Laws.OwnMore
import Derived.Test.YtondbhdlccpklaaShelf
import Derived.Sort.OwnSortedInts

/- Stage 13: gaps of a table, where fewer numbers are asked for than it has. -/
namespace Go.Proofs.Ytondbhdlccpklaa
open Go.RowKit Go.Maps
set_option linter.unusedVariables false
set_option linter.unusedSimpArgs false

def pdL (p : Pd) : List Value := [.int .i64 p.1, .int .i64 p.2.1, .string p.2.2]
def flatP (ps : List Pd) : List Value := ps.flatMap pdL
/-- a slice of numbers in a row of its own, from base on -/
def OwnI (w : World) (base : Nat) (v : Value) (ds : List Int) : Prop := w.ownsRow base 3 1 v ds.length (ds.map (Value.int .i64))
def OwnP (w : World) (base : Nat) (v : Value) (ps : List Pd) : Prop := w.ownsRow base 75 3 v ps.length (flatP ps)
theorem own_at {w w' : World} {base : Nat} {e : TypeId} {size : Nat} {v : Value} {n : Nat} {xs : List Value} (h : w.ownsRow base e size v n xs) (hb : ∀ g, v.ownBlock = some g → w'.heap[g]? = w.heap[g]?) : w'.ownsRow base e size v n xs := by
  obtain ⟨h1, h2⟩ := h
  refine ⟨h1, ?_⟩
  rcases h2 with h2 | ⟨g, cap, cur, rfl, r1, r2, r3⟩
  · exact .inl h2
  · exact .inr ⟨g, cap, cur, rfl, r1, (hb g rfl).trans r2, r3⟩
theorem own_below {w w' : World} {base : Nat} {e : TypeId} {size : Nat} {v : Value} {n : Nat} {xs : List Value} (h : w.ownsRow base e size v n xs) (hb : Below w.heap.size w w') : w'.ownsRow base e size v n xs :=
  own_at h fun g hg => hb.block g (h.lt g hg).2
theorem Try.infoInt : (Try.prog.info? 3).map (fun i => (i.zero, i.size, i.bytes)) = some (some (.int .i64 0), 1, 8) := by kernel_rfl
theorem Try.infoPd : (Try.prog.info? 75).map (fun i => (i.zero, i.size, i.bytes)) = some (some (pdV pd0), 3, 32) := by kernel_rfl
def gapA (L : List (Int × Pd)) (first : Int) (m : Nat) : List Int := ((List.range m).filter fun (d : Nat) => hasK L ((first + (d : Int)) % 4294967296)).map fun (d : Nat) => (d : Int)
theorem gapA_succ (L : List (Int × Pd)) (first : Int) (m : Nat) : gapA L first (m + 1) = gapA L first m ++ (if hasK L ((first + (m : Int)) % 4294967296) then [(m : Int)] else []) := by
  unfold gapA
  rw [List.range_succ, List.filter_append, List.map_append]
  congr 1
  by_cases h : hasK L ((first + (m : Int)) % 4294967296) = true
  · simp [h]
  · simp [h]
theorem gapA_len (L : List (Int × Pd)) (first : Int) (m : Nat) : (gapA L first m).length ≤ m := by
  unfold gapA
  rw [List.length_map]
  exact Nat.le_trans (List.length_filter_le _ _) (by simp)
set_option maxRecDepth 100000 in
set_option maxHeartbeats 1000000 in
theorem gaps_few (b : Nat) (L : List (Int × Pd)) (first far : Int) (w : World) (hT : TbP w b L) (hf : far < (L.length : Int)) (hlo : -2147483648 ≤ far) (hL : L.length ≤ 4294967296) :
    Calls Try.prog 78 #[.map (some b), .int .i64 first, .int .i64 far] w fun e w' => ∃ v, e = .returned v ∧ OwnI w' w.heap.size v (gapA L first (far + 1).toNat) ∧ Below w.heap.size w w' := by
  obtain ⟨i0, hi, hz0, hz1, hz2⟩ := info_parts Try.infoInt
  obtain ⟨m, hm⟩ : ∃ m, m = (far + 1).toNat := ⟨_, rfl⟩
  have hfar : far ≤ 4294967296 := by omega
  have HT := hide hT
  have hbl := hT.lt
  have HM : Hid (∀ j : Nat, j < m ↔ (j : Int) < far + 1) := fun j => by omega
  have hml : Hid (m ≤ 4294967296) := by show _ ≤ _; omega
  rw [← hm]
  obtain ⟨n, hn⟩ : ∃ n, n = L.length := ⟨_, rfl⟩
  rw [← hn] at hf
  have HN := hide hn
  clear hT hm hL hn
  go_enter Try.func78, Try.ntmps78
  go_wp2_with (at_len; refine len_P rfl _ rfl b rfl L HT.out ?_; rw [← HN.out])
  clear hf hlo
  go_loopw [7, 17] (fun v i wr => ∃ j : Nat, i = .int .i64 j ∧ j ≤ m ∧ OwnI wr w.heap.size v (gapA L first j) ∧ Below w.heap.size w wr) (fun _ i _ => m - (intOf i).toNat)
  case atStart => exact ⟨0, rfl, Nat.zero_le _, ⟨rfl, .inl ⟨rfl, rfl⟩⟩, Below.refl _ _⟩
  case round =>
    obtain ⟨j, rfl, hj, ho, hb⟩ := hrel
    by_cases hjm : j < m
    · have hjf := (HM.out j).1 hjm
      have HO := hide ho
      have HB := hide hb
      obtain ⟨key, hkey⟩ : ∃ key, key = (first + (j : Int)) % 4294967296 := ⟨_, rfl⟩
      have HK := hide hkey
      have HP := hide (hasP_any b L key wr (HT.out.at (hb.block b hbl)) (wf_word (by omega)))
      have hsz := hb.size
      have HG := hide (gapA_succ L first j)
      rw [← HK.out] at HG
      have hjb : (j : Int) ≤ 4294967296 := by have := hml.out; omega
      clear ho hb hkey
      have hla : Hid ((gapA L first j).length ≤ 4294967296) := by
        have := gapA_len L first j
        have := hml.out
        show _ ≤ _
        omega
      cases hx : hasK L key
      · rw [hx] at HP HG
        clear hx
        go_wp2_with (first | (go_at_call 62; refine (add_any _ _ _).mono ?_; rintro e1 w1 ⟨rfl, rfl⟩; rw [← HK.out]) | (go_at_call 59; refine HP.out.mono ?_; rintro e2 w2 ⟨rfl, hb2⟩))
        go_roundw
        case rel => exact ⟨j + 1, by go_num, by omega, by rw [HG.out]; simpa [OwnI] using own_below HO.out hb2, belOn HB.out hsz hb2⟩
        case measure => simp [intOf]; omega
      · rw [hx] at HP HG
        clear hx
        go_wp2_with (first | (go_at_call 62; refine (add_any _ _ _).mono ?_; rintro e1 w1 ⟨rfl, rfl⟩; rw [← HK.out]) | (go_at_call 59; refine HP.out.mono ?_; rintro e2 w2 ⟨rfl, hb2⟩) | (at_builtin; refine wpList_append_own_at _ rfl _ _ 68 rfl w.heap.size 3 i0 (.int .i64 0) 1 8 Try.underlying68 hi hz0 hz1 hz2 rfl (by decide) _ _ _ rfl ((own_below HO.out hb2).alloc _) ⟨w2.heap.size, 0, none⟩ 1 1 [.int .i64 j] rfl rfl (cell_one_new _ _ _) (ints_oneCell .i64 [(j : Int)]) (by have := hla.out; unfold maxLen; omega) (by have := hla.out; omega) (by have := hb2.size; simp; omega) ?_; intro v' w3 hown' hgrow hnil hloc))
        go_roundw
        case rel =>
          have h2 : Below w.heap.size w w2 := belOn HB.out hsz hb2
          refine ⟨j + 1, by go_num, by omega, ?_, ?_⟩
          · rw [HG.out]
            simpa [OwnI] using hown'
          · refine (bel1 h2 (by have := hb2.size; omega) _).grown hgrow (by have := hb2.size; simp; omega) (fun q hq => ((own_below HO.out hb2).lt q hq).1)
        case measure => simp [intOf]; omega
    · obtain rfl : j = m := by omega
      have hjf : ¬ ((j : Int) < far + 1) := fun h => hjm ((HM.out j).2 h)
      have HO := hide ho
      have HB := hide hb
      clear ho hb
      go_wp2
      go_ret
      exact ⟨_, rfl, HO.out, HB.out⟩
end Go.Proofs.Ytondbhdlccpklaa


/- Stage 13: gaps of a table, gone through and sorted. -/
namespace Go.Proofs.Ytondbhdlccpklaa
open Go.RowKit Go.Maps
set_option linter.unusedVariables false
set_option linter.unusedSimpArgs false

def srt (ds : List Int) : List Int := ds.mergeSort fun x y => decide (x ≤ y)
theorem sort_own (base : Nat) (v : Value) (ds : List Int) (w : World) (ho : OwnI w base v ds) (hl : ds.length ≤ 4294967296) :
    Calls Try.prog 81 #[v] w fun e w' => e = .returned (.tuple #[]) ∧ OwnI w' base v (srt ds) ∧ w.grownBy w' v.ownBlock := by
  have hlen : (srt ds).length = ds.length := List.length_mergeSort _
  obtain ⟨h1, h2⟩ := ho
  rcases h2 with ⟨rfl, h0⟩ | ⟨g, cap, cur, rfl, hb, hg, hc1, hc2, hsz, htk⟩
  · refine (Try.slices_Sort_int_none none 0 w).mono ?_
    rintro e w' ⟨rfl, rfl⟩
    have e0 : ds = [] := List.length_eq_zero_iff.1 h0
    refine ⟨rfl, ⟨by simp, .inl ⟨rfl, by omega⟩⟩, ⟨rfl, rfl, rfl, Nat.le_refl _, fun _ _ _ => rfl⟩⟩
  · have hH := holds_of_blockI (ss := ds) hg (by simpa using htk)
    refine (Try.slices_Sort_int g 0 cap ds w hH (Array.getElem?_eq_some_iff.1 hg).1 (by omega)).mono ?_
    rintro e w' ⟨rfl, n, os, rfl⟩
    have := ownsRow_sortedI (n := n) (os := os) (ts := srt ds) (ss := ds) hlen hb hg hc1 hc2 hsz
    refine ⟨rfl, ?_, grownBy_sortedI _⟩
    unfold OwnI
    rw [hlen]
    exact this

section
variable {ops : Array Oper} {rest : List Oper} {o : Oper} {a : Act} {Q : Exit → Act → World → Prop} {w : World}
theorem next_P (hg : o.guard = none) (it : Operand) (hop : o.op = Op.next it false) (b r n : Nat) (D : DataW Value) (L : List (Int × Pd)) (left : Lit → Bool) (cnt : Nat) (hit : a.eval it = .pointer (some ⟨r, 0, none⟩)) (hR : Rp pdV D L) (h : w.ranges Try.prog 3 rP b r n D left cnt)
    (hDone : (∀ k : Int, left (.int .i64 k) = false) → wpList Try.prog ops Q rest (a.put o.dst (.tuple #[.bool false])) w)
    (hMore : ∀ (x : Int) (p : Pd) (w' : World) (cnt' : Nat), (x, p) ∈ L → wf64 x → left (.int .i64 x) = true → w'.ranges Try.prog 3 rP b r n D (fun z => left z && !z.sameKey (.int .i64 x)) cnt' → cnt' < cnt →
      w.grownBy w' (some r) → w'.heap.size = w.heap.size → (Instr.entry (.pointer (some ⟨r, 0, none⟩))).run Try.prog w' = .ok (.tuple #[.int .i64 x, .agg #[.int .i64 p.1, .int .i64 p.2.1, .string p.2.2]]) w' → wpList Try.prog ops Q rest (a.put o.dst (.tuple #[.bool true, .int .i64 x, .agg #[.int .i64 p.1, .int .i64 p.2.1, .string p.2.2]])) w') :
    wpList Try.prog ops Q (o :: rest) a w := by
  refine wpList_next_ranges w hg it hop 3 Try.keyed rP (Value.int .i64) pdV (fun key kl hkey => by obtain ⟨x, rfl, _⟩ := Maps.keyOf_int_inv Try.underlying3 hkey; exact ⟨x, rfl⟩) (fun v y hv => by obtain ⟨c, rfl, _⟩ := rP_inv hv; exact ⟨c, rfl⟩)
    b r n D left cnt hit h (fun _ hl => hDone (fun k => hl _)) (fun x c kl y w' cnt' hkey hlk hv hat hrg hlt hgr hsz hen => ?_)
  obtain ⟨x', ex, rfl, hwx⟩ := Maps.keyOf_int_inv Try.underlying3 hkey
  cases ex
  obtain ⟨c', ec, ey⟩ := rP_inv hv
  have hh := Maps.has_true_of_atKey hat
  rw [hR.has] at hh
  have hm := lu_mem (d := pd0) hh
  have h1 := hR.at hm (.held (pdV pd0))
  rw [hat, ey] at h1
  simp only [DataW.held.injEq] at h1
  have e1 := pdV_inj h1
  have e2 := pdV_inj ec
  rw [← e1, ← e2] at hm
  exact hMore x c w' cnt' hm hwx hlk hrg hlt hgr hsz hen
theorem range_P (hg : o.guard = none) (m : Operand) (hop : o.op = Op.range 90 m) (b : Nat) (hm : a.eval m = .map (some b)) (L : List (Int × Pd)) (hT : TbP w b L)
    (hK : ∀ w' D, Rp pdV D L → w'.ranges Try.prog 3 rP b w.heap.size L.length D (Maps.has D) (Maps.size D) → w.grownBy w' none → w'.heap.size = w.heap.size + 1 → wpList Try.prog ops Q rest (a.put o.dst (.pointer (some ⟨w.heap.size, 0, none⟩))) w') : wpList Try.prog ops Q (o :: rest) a w := by
  obtain ⟨D, h1, h2⟩ := hT
  exact wpList_range_own w hg m 90 hop 3 75 Try.keyed Try.underlying90 rP b _ D hm h1 fun w' g1 g2 g3 => hK w' D h2 g1 g2 g3
end

/-! ### what is gathered -/
def gin (far d : Int) : Bool := decide (0 ≤ d) && decide (d ≤ far)
/-- the gaps of those that have come -/
def gapB (L : List (Int × Pd)) (first far : Int) (left : Lit → Bool) : List Int := (((L.filter fun p => !left (.int .i64 p.1)).map fun p => gapZ first p.1)).filter (gin far)
theorem gapB_done {L : List (Int × Pd)} {first far : Int} {left : Lit → Bool} (h : ∀ k : Int, left (.int .i64 k) = false) : gapB L first far left = (L.map fun p => gapZ first p.1).filter (gin far) := by
  unfold gapB
  have e : (L.filter fun p => !left (.int .i64 p.1)) = L := List.filter_eq_self.2 (fun p _ => by simp [h])
  rw [e]
theorem gapB_start {L : List (Int × Pd)} {first far : Int} {D : DataW Value} (hR : Rp pdV D L) : gapB L first far (Maps.has D) = [] := by
  unfold gapB
  have e : (L.filter fun p => !Maps.has D (.int .i64 p.1)) = [] := by
    rw [List.filter_eq_nil_iff]
    intro p hp
    rw [hR.has]
    have : L.any (fun q => q.1 == p.1) = true := any_iff.2 (List.mem_map_of_mem hp)
    simp [this]
  rw [e]
  rfl
theorem split_one : ∀ {L : List (Int × Pd)}, (L.map (·.1)).Nodup → ∀ {left : Lit → Bool} {x : Int} {p : Pd}, (x, p) ∈ L → left (.int .i64 x) = true →
    (L.filter fun q => !(left (.int .i64 q.1) && !(Lit.int .i64 q.1).sameKey (.int .i64 x))).Perm ((x, p) :: L.filter fun q => !left (.int .i64 q.1))
  | [], _, _, _, _, hm, _ => by cases hm
  | y :: t, hn, left, x, p, hm, hl => by
    simp only [List.map_cons, List.nodup_cons] at hn
    rcases List.mem_cons.1 hm with e | hm'
    · subst e
      have ht : (t.filter fun q => !(left (.int .i64 q.1) && !(Lit.int .i64 q.1).sameKey (.int .i64 x))) = t.filter fun q => !left (.int .i64 q.1) := by
        apply List.filter_congr
        intro q hq
        have hne : q.1 ≠ x := fun e => hn.1 (by rw [← e]; exact List.mem_map_of_mem (f := (·.1)) hq)
        rw [lit_same]
        have : (q.1 == x) = false := by simp [hne]
        simp [this]
      rw [List.filter_cons_of_pos (by simp [lit_same]), List.filter_cons_of_neg (by simp [hl]), ht]
    · have hne : y.1 ≠ x := fun e => hn.1 (by rw [e]; exact List.mem_map_of_mem (f := (·.1)) hm')
      have ih := split_one hn.2 hm' hl
      have hys : (y.1 == x) = false := by simp [hne]
      by_cases hy : left (.int .i64 y.1) = true
      · rw [List.filter_cons_of_neg (by simp [hy, lit_same, hys]), List.filter_cons_of_neg (by simp [hy])]
        exact ih
      · rw [List.filter_cons_of_pos (by simp [hy]), List.filter_cons_of_pos (by simp [hy])]
        exact (ih.cons y).trans (List.Perm.swap _ _ _)
theorem gapB_step {L : List (Int × Pd)} {first far : Int} {left : Lit → Bool} {D : DataW Value} (hR : Rp pdV D L) {x : Int} {p : Pd} (hm : (x, p) ∈ L) (hl : left (.int .i64 x) = true) :
    (gapB L first far (fun z => left z && !z.sameKey (.int .i64 x))).Perm (gapB L first far left ++ if gin far (gapZ first x) then [gapZ first x] else []) := by
  unfold gapB
  have h := (split_one hR.1 hm hl).map (fun q => gapZ first q.1)
  refine (h.filter (gin far)).trans ?_
  rw [List.map_cons]
  by_cases hg : gin far (gapZ first x) = true
  · rw [List.filter_cons_of_pos hg, if_pos hg]
    exact (List.perm_append_comm (l₁ := [gapZ first x]))
  · rw [List.filter_cons_of_neg hg, if_neg hg, List.append_nil]
theorem gapB_len (L : List (Int × Pd)) (first far : Int) (left : Lit → Bool) : (gapB L first far left).length ≤ L.length := by
  unfold gapB
  refine Nat.le_trans (List.length_filter_le _ _) ?_
  rw [List.length_map]
  exact List.length_filter_le _ _

set_option maxRecDepth 100000 in
set_option maxHeartbeats 1000000 in
theorem gaps_many (b : Nat) (L : List (Int × Pd)) (first far : Int) (w : World) (hT : TbP w b L) (hf : (L.length : Int) ≤ far) (hL : L.length ≤ 4294967296) :
    Calls Try.prog 78 #[.map (some b), .int .i64 first, .int .i64 far] w fun e w' => ∃ v ds, e = .returned v ∧ OwnI w' w.heap.size v (srt ds) ∧ ds.Perm ((L.map fun p => gapZ first p.1).filter (gin far)) ∧ Below w.heap.size w w' := by
  obtain ⟨i0, hi, hz0, hz1, hz2⟩ := info_parts Try.infoInt
  have HT := hide hT
  have hbl := hT.lt
  obtain ⟨n, hn⟩ : ∃ n, n = L.length := ⟨_, rfl⟩
  rw [← hn] at hf
  have HL := hide hL
  have HN := hide hn
  have hnf : ¬ (far < (n : Int)) := by omega
  clear hT hL hn hf
  go_enter Try.func78, Try.ntmps78
  go_wp2_with (first | (at_len; refine len_P rfl _ rfl b rfl L HT.out ?_; rw [← HN.out]) | (at_range; refine range_P rfl _ rfl b rfl L HT.out ?_; intro w1 D hR hrg hg1 hs1))
  have HR := hide hR
  have HG0 := hide hrg
  have HB1 : Hid (Below w.heap.size w w1) := (Below.refl _ _).grown hg1 (Nat.le_refl _) (fun k hk => by cases hk)
  have hw1 : w.heap.size < w1.heap.size := by omega
  clear hR hrg hg1 hs1
  go_loopw [7] (fun v wr => ∃ left cnt ds, wr.ranges Try.prog 3 rP b w.heap.size L.length D left cnt ∧ OwnI wr (w.heap.size + 1) v ds ∧ Hid (ds.Perm (gapB L first far left)) ∧ Below w.heap.size w wr ∧ w.heap.size < wr.heap.size) (fun _ wr => wr.rangeLeft b w.heap.size)
  case atStart => exact ⟨_, _, [], HG0.out, ⟨rfl, .inl ⟨rfl, rfl⟩⟩, by rw [gapB_start HR.out]; exact .refl _, HB1.out, hw1⟩
  case round =>
    obtain ⟨left, cnt, ds, hrg, ho, hp, hb, hlt⟩ := hrel
    have HRg := hide hrg
    have HO := hide ho
    have HB := hide hb
    clear hrg ho hb
    go_wp2_with (at_next; refine next_P rfl _ rfl b w.heap.size L.length D L left cnt rfl HR.out HRg.out ?_ ?_)
    · intro hl0
      have HS := hide (sort_own (w.heap.size + 1) u7 ds wr HO.out (by rw [hp.out.length_eq]; have := gapB_len L first far left; have := HL.out; omega))
      go_wp2_with fail
      refine HS.out.mono ?_
      rintro e2 w2 ⟨rfl, ho2, hg2⟩
      have HO2 := hide ho2
      have HB2 : Hid (Below w.heap.size w w2) := HB.out.grown hg2 (by omega) (fun k hk => by have := (HO.out.lt k hk).1; omega)
      clear ho2 hg2
      go_wp2
      go_ret
      refine ⟨_, ds, rfl, ?_, ?_, HB2.out⟩
      · obtain ⟨q1, q2⟩ := HO2.out
        refine ⟨q1, ?_⟩
        rcases q2 with q2 | ⟨g, cap, cur, e, q3, q4⟩
        · exact .inl q2
        · exact .inr ⟨g, cap, cur, e, by omega, q4⟩
      · rw [← gapB_done (first := first) hl0]
        exact hp.out
    · intro x p w1 cnt1 hm hwx hlx hrg1 hlt1 hg1 hs1 hen
      have HRg1 := hide hrg1
      have HM := hide hm
      have hst := hide (gapB_step (first := first) (far := far) HR.out hm hlx)
      have HO1 : Hid (OwnI w1 (w.heap.size + 1) u7 ds) := own_at HO.out fun k hk => hg1.block k (HO.out.lt k hk).2 (by have := (HO.out.lt k hk).1; simp; omega)
      have HB1' : Hid (Below w.heap.size w w1) := HB.out.grown hg1 (by omega) (fun k hk => by cases hk; exact Nat.le_refl _)
      have hw1' : w.heap.size < w1.heap.size := by omega
      obtain ⟨d, hd⟩ : ∃ d, d = gapZ first x := ⟨_, rfl⟩
      have HD := hide hd
      rw [← hd] at hst
      have hdl : Hid (ds.length ≤ 4294967296) := by
        have := gapB_len L first far left
        have := HL.out
        show _ ≤ _
        rw [hp.out.length_eq]
        omega
      have hds : -9223372036854775808 ≤ d ∧ d ≤ 9223372036854775807 := by rw [hd]; unfold gapZ; omega
      clear hrg1 hm hd hg1 hs1
      by_cases h0 : 0 ≤ d
      · by_cases h1 : d ≤ far
        · rw [if_pos (by simp [gin, h0, h1])] at hst
          go_wp2_with (first | (go_at_call 53; refine (gap_any _ _ _).mono ?_; rintro e2 w2 ⟨rfl, rfl⟩; rw [← HD.out]) | (at_builtin; refine wpList_append_own_at _ rfl _ _ 68 rfl (w.heap.size + 1) 3 i0 (.int .i64 0) 1 8 Try.underlying68 hi hz0 hz1 hz2 rfl (by decide) _ _ _ rfl (HO1.out.alloc _) ⟨w1.heap.size, 0, none⟩ 1 1 [.int .i64 d] rfl rfl (cell_one_new _ _ _) (ints_oneCell .i64 [d]) (by have := hdl.out; unfold maxLen; omega) (by have := hdl.out; omega) (by simp; omega) ?_; intro v' w3 hown' hgrow hnil hloc))
          go_roundw
          case rel =>
            have h1r : some b ≠ u7.ownBlock := fun e => by have := (HO1.out.lt b e.symm).1; omega
            have h2r : some w.heap.size ≠ u7.ownBlock := fun e => by have := (HO1.out.lt _ e.symm).1; omega
            refine ⟨_, cnt1, ds ++ [d], (HRg1.out.alloc _).kept hgrow h1r h2r, by simpa [OwnI] using hown', (hp.out.append_right _).trans hst.out.symm, (bel1 HB1'.out (by omega) _).grown hgrow (by simp; omega) (fun k hk => by have := (HO1.out.lt k hk).1; omega), by have := hgrow.size; simp at this; omega⟩
          case measure =>
            have h1r : some b ≠ u7.ownBlock := fun e => by have := (HO1.out.lt b e.symm).1; omega
            have h2r : some w.heap.size ≠ u7.ownBlock := fun e => by have := (HO1.out.lt _ e.symm).1; omega
            rw [((HRg1.out.alloc _).kept hgrow h1r h2r).left_eq, HRg.out.left_eq]
            exact hlt1
        · rw [if_neg (by simp [gin, h1]), List.append_nil] at hst
          go_wp2_with (go_at_call 53; refine (gap_any _ _ _).mono ?_; rintro e2 w2 ⟨rfl, rfl⟩; rw [← HD.out])
          go_roundw
          case rel => exact ⟨_, cnt1, ds, HRg1.out, HO1.out, hp.out.trans hst.out.symm, HB1'.out, hw1'⟩
          case measure => rw [HRg1.out.left_eq, HRg.out.left_eq]; exact hlt1
      · rw [if_neg (by simp [gin, h0]), List.append_nil] at hst
        go_wp2_with (go_at_call 53; refine (gap_any _ _ _).mono ?_; rintro e2 w2 ⟨rfl, rfl⟩; rw [← HD.out])
        go_roundw
        case rel => exact ⟨_, cnt1, ds, HRg1.out, HO1.out, hp.out.trans hst.out.symm, HB1'.out, hw1'⟩
        case measure => rw [HRg1.out.left_eq, HRg.out.left_eq]; exact hlt1
end Go.Proofs.Ytondbhdlccpklaa


/- Stage 13: gaps of any table; from; way; Range. -/
namespace Go.Proofs.Ytondbhdlccpklaa
open Go.RowKit Go.Maps
set_option linter.unusedVariables false
set_option linter.unusedSimpArgs false

/-! ### sorted lists -/
theorem sorted_eq : ∀ {l l' : List Int}, l.Pairwise (fun x y => x ≤ y) → l'.Pairwise (fun x y => x ≤ y) → l.Perm l' → l = l'
  | [], l', _, _, hp => hp.nil_eq
  | a :: t, [], _, _, hp => absurd hp.length_eq (by simp)
  | a :: t, b :: t', h1, h2, hp => by
    have h1' := List.pairwise_cons.1 h1
    have h2' := List.pairwise_cons.1 h2
    have hab : a = b := by
      have ha : a ∈ b :: t' := hp.mem_iff.1 (List.mem_cons_self ..)
      have hb : b ∈ a :: t := hp.mem_iff.2 (List.mem_cons_self ..)
      rcases List.mem_cons.1 ha with e | ha
      · exact e
      · rcases List.mem_cons.1 hb with e | hb
        · exact e.symm
        · have := h1'.1 b hb
          have := h2'.1 a ha
          omega
    subst hab
    rw [sorted_eq h1'.2 h2'.2 (List.Perm.cons_inv hp)]
theorem srt_sorted (l : List Int) : (srt l).Pairwise (fun x y => x ≤ y) := by
  have := List.pairwise_mergeSort (le := fun x y : Int => decide (x ≤ y)) (fun a b c h1 h2 => by simp at *; omega) (fun a b => by simp; omega) l
  exact this.imp (fun h => by simpa using h)
theorem srt_perm_self (l : List Int) : (srt l).Perm l := List.mergeSort_perm _ _
theorem srt_perm {l l' : List Int} (h : l.Perm l') : srt l = srt l' :=
  sorted_eq (srt_sorted l) (srt_sorted l') (((srt_perm_self l).trans h).trans (srt_perm_self l').symm)
theorem srt_of_sorted {l : List Int} (h : l.Pairwise (fun x y => x ≤ y)) : srt l = l := sorted_eq (srt_sorted l) h (srt_perm_self l)

def gsL (L : List (Int × Pd)) (first far : Int) : List Int := srt ((L.map fun p => gapZ first p.1).filter (gin far))
def Words {A : Type} (L : List (Int × A)) : Prop := ∀ p ∈ L, 0 ≤ p.1 ∧ p.1 ≤ 4294967295
theorem gap_inj {f a b : Int} (hf : 0 ≤ f ∧ f ≤ 4294967295) (ha : 0 ≤ a ∧ a ≤ 4294967295) (hb : 0 ≤ b ∧ b ≤ 4294967295) (h : gapZ f a = gapZ f b) : a = b := by
  unfold gapZ at h
  omega
theorem gap_add {f k : Int} (hf : 0 ≤ f ∧ f ≤ 4294967295) (hk : 0 ≤ k ∧ k ≤ 4294967295) : (f + gapZ f k) % 4294967296 = k := by
  unfold gapZ
  omega
theorem add_gap {f d : Int} (hf : 0 ≤ f ∧ f ≤ 4294967295) (hd : 0 ≤ d ∧ d ≤ 2147483647) : gapZ f ((f + d) % 4294967296) = d := by
  unfold gapZ
  omega
theorem gapA_eq {L : List (Int × Pd)} {first far : Int} (hn : (L.map (·.1)).Nodup) (hw : Words L) (hf : 0 ≤ first ∧ first ≤ 4294967295) (hr : far ≤ 2147483647) : gapA L first (far + 1).toNat = gsL L first far := by
  have hs : (gapA L first (far + 1).toNat).Pairwise (fun x y => x < y) := by
    unfold gapA
    rw [List.pairwise_map]
    refine List.Pairwise.imp (fun h => ?_) (List.Pairwise.sublist List.filter_sublist List.pairwise_lt_range)
    omega
  unfold gsL
  rw [← srt_of_sorted (hs.imp (fun h => by omega))]
  apply srt_perm
  rw [List.perm_ext_iff_of_nodup (hs.imp (fun h => by omega)) ?_]
  · intro d
    unfold gapA
    simp only [List.mem_map, List.mem_filter, List.mem_range, gin, Bool.and_eq_true, decide_eq_true_eq]
    constructor
    · rintro ⟨n, ⟨h1, h2⟩, rfl⟩
      obtain ⟨p, hp, he⟩ := List.any_eq_true.1 h2
      simp at he
      refine ⟨⟨p, hp, ?_⟩, by omega, by omega⟩
      rw [he]
      exact add_gap hf ⟨by omega, by omega⟩
    · rintro ⟨⟨p, hp, rfl⟩, h1, h2⟩
      refine ⟨(gapZ first p.1).toNat, ⟨by omega, ?_⟩, by omega⟩
      have e : ((gapZ first p.1).toNat : Int) = gapZ first p.1 := by omega
      rw [e, gap_add hf (hw p hp)]
      exact any_iff.2 (List.mem_map_of_mem hp)
  · refine List.Nodup.sublist List.filter_sublist ?_
    rw [List.Nodup, List.pairwise_map]
    rw [List.Nodup, List.pairwise_map] at hn
    refine List.Pairwise.imp_of_mem ?_ hn
    intro a b ha hb hne he
    exact hne (gap_inj hf (hw a ha) (hw b hb) he)
theorem gaps_any (b : Nat) (L : List (Int × Pd)) (first far : Int) (w : World) (hT : TbP w b L) (hw : Words L) (hf : 0 ≤ first ∧ first ≤ 4294967295) (hlo : -2147483648 ≤ far) (hhi : far ≤ 2147483647) (hL : L.length ≤ 4294967296) :
    Calls Try.prog 78 #[.map (some b), .int .i64 first, .int .i64 far] w fun e w' => ∃ v, e = .returned v ∧ OwnI w' w.heap.size v (gsL L first far) ∧ Below w.heap.size w w' := by
  have hn : (L.map (·.1)).Nodup := by obtain ⟨D, _, h⟩ := hT; exact h.1
  by_cases h : far < (L.length : Int)
  · refine (gaps_few b L first far w hT h hlo hL).mono ?_
    rintro e w' ⟨v, rfl, h1, h2⟩
    exact ⟨v, rfl, by rw [← gapA_eq hn hw hf hhi]; exact h1, h2⟩
  · refine (gaps_many b L first far w hT (by omega) hL).mono ?_
    rintro e w' ⟨v, ds, rfl, h1, h2, h3⟩
    refine ⟨v, rfl, ?_, h3⟩
    unfold gsL
    rw [← srt_perm h2]
    exact h1
theorem gsL_len (L : List (Int × Pd)) (first far : Int) : (gsL L first far).length ≤ L.length := by
  unfold gsL srt
  rw [List.length_mergeSort]
  exact Nat.le_trans (List.length_filter_le _ _) (by simp)
/-- the slice's form -/
theorem own_form {w : World} {base : Nat} {v : Value} {ds : List Int} (h : OwnI w base v ds) : (v = .slice none 0 0 ∧ ds = []) ∨ ∃ g cap, v = .slice (some ⟨g, 0, none⟩) ds.length cap ∧ base ≤ g ∧ g < w.heap.size ∧ ∀ j (hj : j < ds.length), w.cell? ⟨g, j, none⟩ = some (.int .i64 ds[j]) := by
  rcases h.2 with ⟨h1, h2⟩ | ⟨g, cap, cur, rfl, r1, r2, r3, r4, r5, r6⟩
  · exact .inl ⟨h1, List.length_eq_zero_iff.1 h2⟩
  · refine .inr ⟨g, cap, rfl, r1, (Array.getElem?_eq_some_iff.1 r2).1, fun j hj => ?_⟩
    rw [World.ownsRow.cellAt h j (by omega), List.getElem?_map, List.getElem?_eq_getElem hj]
    rfl
def thing (L : List (Int × Pd)) (first d : Int) : Pd := lu pd0 L ((first + d) % 4294967296)
def rgL (L : List (Int × Pd)) (first last : Int) : List Pd := (gsL L first (gapZ first last)).map (thing L first)
theorem cell_pd_new (w : World) (p : Pd) (t : TypeId) : ∀ j u, (pdL p)[j]? = some u → (w.alloc (.cells #[.int .i64 p.1, .int .i64 p.2.1, .string p.2.2] t)).cell? ((⟨w.heap.size, 0, none⟩ : Addr).add j) = some u := by
  intro j u hj
  match j, hj with
  | 0, hj => simp [pdL] at hj; subst hj; simp [Addr.add]
  | 1, hj => simp [pdL] at hj; subst hj; simp [Addr.add]
  | 2, hj => simp [pdL] at hj; subst hj; simp [Addr.add]
  | j + 3, hj => simp [pdL] at hj
theorem pd_one (p : Pd) : ∀ u ∈ pdL p, u.oneCell' = true := by
  intro u hu
  simp [pdL] at hu
  rcases hu with rfl | rfl | rfl <;> rfl
theorem flatP_snoc (ps : List Pd) (p : Pd) : flatP (ps ++ [p]) = flatP ps ++ pdL p := by simp [flatP]
end Go.Proofs.Ytondbhdlccpklaa


/- Stage 13: from; way; Range. -/
namespace Go.Proofs.Ytondbhdlccpklaa
open Go.RowKit Go.Maps
set_option linter.unusedVariables false
set_option linter.unusedSimpArgs false

theorem flatP_len (ps : List Pd) : (flatP ps).length = ps.length * 3 := by
  induction ps with
  | nil => rfl
  | cons p t ih => simp [flatP, pdL] at *; omega
theorem own_lower {w : World} {base base' : Nat} {v : Value} {ps : List Pd} (h : OwnP w base v ps) (hb : base' ≤ base) : OwnP w base' v ps := by
  obtain ⟨q1, q2⟩ := h
  refine ⟨q1, ?_⟩
  rcases q2 with q2 | ⟨g, cap, cur, e, q3, q4⟩
  · exact .inl q2
  · exact .inr ⟨g, cap, cur, e, by omega, q4⟩
set_option maxRecDepth 100000 in
set_option maxHeartbeats 1000000 in
theorem from_any (b : Nat) (L : List (Int × Pd)) (first last : Int) (w : World) (hT : TbP w b L) (hw : Words L) (hf : 0 ≤ first ∧ first ≤ 4294967295) (hL : L.length ≤ 4294967296) :
    Calls Try.prog 58 #[.map (some b), .int .i64 first, .int .i64 last] w fun e w' => ∃ v, e = .returned v ∧ OwnP w' w.heap.size v (rgL L first last) ∧ Below w.heap.size w w' := by
  obtain ⟨i0, hi, hz0, hz1, hz2⟩ := info_parts Try.infoPd
  obtain ⟨far, hfar⟩ : ∃ far, far = gapZ first last := ⟨_, rfl⟩
  have HF := hide hfar
  have hfb : -2147483648 ≤ far ∧ far ≤ 2147483647 := by rw [hfar]; unfold gapZ; omega
  have HG := hide (gaps_any b L first far w hT hw hf hfb.1 hfb.2 hL)
  have hbl := hT.lt
  have HT := hide hT
  have hgl := hide (Nat.le_trans (gsL_len L first far) hL)
  have HR : Hid (rgL L first last = (gsL L first far).map (thing L first)) := by show _ = _; unfold rgL; rw [hfar]
  obtain ⟨ds, hds⟩ : ∃ ds, ds = gsL L first far := ⟨_, rfl⟩
  rw [← hds] at HG hgl HR
  rw [HR.out]
  clear hT hw hf hL hfar hfb hds
  go_enter Try.func58, Try.ntmps58
  go_wp2_with (go_at_call 53; refine (gap_any _ _ _).mono ?_; rintro e1 w1 ⟨rfl, rfl⟩; rw [← HF.out])
  refine HG.out.mono ?_
  rintro e2 w2 ⟨v, rfl, ho, hb2⟩
  have HB2 := hide hb2
  have hs2 := hb2.size
  clear hb2 HG
  rcases own_form ho with ⟨rfl, rfl⟩ | ⟨g, cap, rfl, hg1, hg2, hcell⟩
  · go_wp2
    go_loopw [7, 17] (fun v i wr => v = .slice none 0 0 ∧ i = .int .i64 0 ∧ wr = w2) (fun _ _ _ => 0)
    case atStart => exact ⟨rfl, rfl, rfl⟩
    case round =>
      obtain ⟨rfl, rfl, rfl⟩ := hrel
      go_wp2
      go_ret
      exact ⟨_, rfl, ⟨rfl, .inl ⟨rfl, rfl⟩⟩, HB2.out⟩
  · have HC := hide hcell
    obtain ⟨n, hn⟩ : ∃ n, n = ds.length := ⟨_, rfl⟩
    rw [← hn] at hgl ⊢
    have HN := hide hn
    clear hcell ho hn
    go_wp2
    go_loopw [7, 17] (fun v i wr => ∃ j : Nat, i = .int .i64 j ∧ j ≤ n ∧ OwnP wr w2.heap.size v ((ds.take j).map (thing L first)) ∧ Below w2.heap.size w2 wr) (fun _ i _ => n - (intOf i).toNat)
    case atStart => exact ⟨0, rfl, Nat.zero_le _, ⟨rfl, .inl ⟨rfl, rfl⟩⟩, Below.refl _ _⟩
    case round =>
      obtain ⟨j, rfl, hj, ho, hb⟩ := hrel
      have HO := hide ho
      have HB := hide hb
      have hsz := hb.size
      by_cases hjn : j < n
      · have hjd : j < ds.length := by have := HN.out; omega
        obtain ⟨d, hd⟩ : ∃ d, d = ds[j] := ⟨_, rfl⟩
        have hc : wr.cell? ⟨g, j, none⟩ = some (.int .i64 d) := by
          rw [hd, hb.cell (p := ⟨g, j, none⟩) hg2]
          exact HC.out j hjd
        obtain ⟨key, hkey⟩ : ∃ key, key = (first + d) % 4294967296 := ⟨_, rfl⟩
        have HK := hide hkey
        have hkw := hide (wf_word (n := key) (by omega))
        obtain ⟨p, hp⟩ : ∃ p, p = lu pd0 L key := ⟨_, rfl⟩
        have HP := hide hp
        have HTk : Hid (thing L first d = p) := by show _ = _; unfold thing; rw [hp, hkey]
        have HTr : Hid (TbP wr b L) := (HT.out.at (HB2.out.block b hbl)).at (hb.block b (by omega))
        have HS : Hid ((ds.take (j + 1)).map (thing L first) = (ds.take j).map (thing L first) ++ [p]) := by
          show _ = _
          rw [← HTk.out, hd, List.take_succ_eq_append_getElem hjd, List.map_append]
          rfl
        have hlen : Hid (((ds.take j).map (thing L first)).length ≤ 4294967296) := by
          show _ ≤ _
          rw [List.length_map, List.length_take]
          have := hgl.out
          have := HN.out
          omega
        have hgw : g < wr.heap.size := by omega
        have hjb : (j : Int) ≤ 4294967296 := by have := hgl.out; omega
        clear ho hb hd hkey hp HTk
        go_wp2_with (first | (go_at_call 62; refine (add_any _ _ _).mono ?_; rintro e3 w3 ⟨rfl, rfl⟩; rw [← HK.out]) | (at_lookup; refine look1_P rfl _ _ rfl b rfl key rfl L HTr.out hkw.out ?_; rw [← HP.out]; unfold pdV) | (at_builtin; refine wpList_append_own_at _ rfl _ _ 72 rfl w2.heap.size 75 i0 (pdV pd0) 3 32 Try.underlying72 hi hz0 hz1 hz2 rfl (by decide) _ _ _ rfl (HO.out.alloc _) ⟨wr.heap.size, 0, none⟩ 1 1 (pdL p) rfl rfl (cell_pd_new _ _ _) (pd_one p) (by have := hlen.out; unfold maxLen; omega) (by have := hlen.out; omega) (by simp; omega) ?_; intro v' w3 hown' hgrow hnil hloc))
        go_roundw
        case rel =>
          refine ⟨j + 1, by go_num, by omega, ?_, ?_⟩
          · rw [HS.out]
            unfold OwnP
            rw [flatP_snoc]
            simpa using hown'
          · exact (bel1 HB.out (by omega) _).grown hgrow (by simp; omega) (fun k hk => (HO.out.lt k hk).1)
        case measure => simp [intOf]; omega
      · obtain rfl : j = n := by omega
        rw [List.take_of_length_le (by have := HN.out; omega)] at HO
        clear ho hb
        go_wp2
        go_ret
        exact ⟨_, rfl, own_lower HO.out hs2, belOn HB2.out hs2 HB.out⟩
end Go.Proofs.Ytondbhdlccpklaa


/- Stage 13: way, Range, Arrive, Forget, Local. -/
namespace Go.Proofs.Ytondbhdlccpklaa
open Go.RowKit Go.Maps
set_option linter.unusedVariables false
set_option linter.unusedSimpArgs false

def Sn.way (s : Sn) (sending : Bool) : Nat := if sending then s.bs else s.bc
set_option maxRecDepth 100000 in
theorem way_any (g : Nat) (s : Sn) (sending : Bool) (w : World) (hS : SB w g s) :
    Calls Try.prog 57 #[.pointer (some ⟨g, 0, none⟩), .bool sending] w fun e w' => e = .returned (.map (some (s.way sending))) ∧ w' = w := by
  obtain ⟨s0, s1, s2, s3, s4, s5, s6, s7, s8, s9, s10, s11, s12, s13, s14, s15, s16⟩ := hS.facts
  have hl := hS.lt
  clear hS
  cases sending
  · go_enter Try.func57, Try.ntmps57
    go_wp2
    go_ret
    exact ⟨rfl, rfl⟩
  · go_enter Try.func57, Try.ntmps57
    go_wp2
    go_ret
    exact ⟨rfl, rfl⟩
def rangeL (L : List (Int × Pd)) (first last : Int) : List Pd := if isW first && isW last then rgL L first last else []
set_option maxRecDepth 100000 in
theorem range_any (g : Nat) (s : Sn) (sending : Bool) (L : List (Int × Pd)) (first last : Int) (w : World) (hS : SB w g s) (hT : TbP w (s.way sending) L) (hw : Words L) (hL : L.length ≤ 4294967296) :
    Calls Try.prog 29 #[.pointer (some ⟨g, 0, none⟩), .bool sending, .int .i64 first, .int .i64 last] w fun e w' => ∃ v, e = .returned v ∧ OwnP w' w.heap.size v (rangeL L first last) ∧ Below w.heap.size w w' := by
  obtain ⟨W0, hW0⟩ : ∃ W0, w.alloc (.cells #[.int .i64 first, .int .i64 last] 3) = W0 := ⟨_, rfl⟩
  have HB0 : Hid (Below w.heap.size w W0) := hW0 ▸ bel1 (Below.refl _ _) (Nat.le_refl _) _
  have hs0 : W0.heap.size = w.heap.size + 1 := by rw [← hW0]; simp
  have HA := hide (areWords_any w.heap.size [first, last] W0 (by omega) (by simp) (by
    intro j hj
    have : j = 0 ∨ j = 1 := by simp at hj; omega
    rw [← hW0]
    rcases this with rfl | rfl <;> simp))
  have HWy := hide (way_any g s sending W0 (hS.at (HB0.out.block g hS.lt)))
  have HW0 := hide hW0
  unfold rangeL
  cases hx : isW first && isW last
  · rw [show [first, last].all isW = false by simpa using hx] at HA
    rw [if_neg (by simp)]
    clear hS hT hw hL hx hs0 hW0 HWy
    go_enter Try.func29, Try.ntmps29
    go_wp2_with (go_at_call 55; rw [HW0.out]; refine HA.out.mono ?_; rintro e1 w1 ⟨rfl, rfl⟩)
    go_ret
    exact ⟨_, rfl, ⟨rfl, .inl ⟨rfl, rfl⟩⟩, HB0.out⟩
  · rw [show [first, last].all isW = true by simpa using hx] at HA
    rw [if_pos rfl]
    rw [Bool.and_eq_true] at hx
    have HFr := hide (from_any (s.way sending) L first last W0 (hT.at (HB0.out.block _ hT.lt)) hw (isW_iff.1 hx.1) hL)
    have HSz := hide hs0
    clear hS hT hw hL hx hs0 hW0
    go_enter Try.func29, Try.ntmps29
    go_wp2_with (first | (go_at_call 55; rw [HW0.out]; refine HA.out.mono ?_; rintro e1 w1 ⟨rfl, rfl⟩) | (go_at_call 57; refine HWy.out.mono ?_; rintro e2 w2 ⟨rfl, rfl⟩) | (go_at_call 58; refine HFr.out.mono ?_; rintro e3 w3 ⟨v, rfl, h1, h2⟩))
    go_ret
    refine ⟨_, rfl, own_lower h1 (by have := HSz.out; omega), belOn HB0.out (by have := HSz.out; omega) h2⟩
set_option maxRecDepth 100000 in
theorem arrive_arg (g : Nat) (id h : Int) (tag : ByteArray) (settled : Bool) (w : World) (hi : isW id = false) :
    Calls Try.prog 28 #[.pointer (some ⟨g, 0, none⟩), .int .i64 id, .int .i64 h, .string tag, .bool settled] w fun e w' => e = .returned (.int .i64 1) ∧ Below w.heap.size w w' := by
  have HA := hide (areWords_any w.heap.size [id] (w.alloc (.cells #[.int .i64 id] 3)) (by simp) (by simp) (by
    intro j hj
    obtain rfl : j = 0 := by simp at hj; omega
    simp))
  rw [show [id].all isW = false by simp [hi]] at HA
  clear hi
  go_enter Try.func28, Try.ntmps28
  go_wp2_with (go_at_call 55; refine HA.out.mono ?_; rintro e1 w1 ⟨rfl, rfl⟩)
  go_ret
  exact ⟨rfl, bel1 (Below.refl _ _) (Nat.le_refl _) _⟩
set_option maxRecDepth 100000 in
theorem arrive_no (g : Nat) (s : Sn) (H : List (Int × Int)) (L : List (Int × Pd)) (id h : Int) (tag : ByteArray) (settled : Bool) (w : World) (hi : isW id = true) (hS : SB w g s) (hT : TbI w s.bh H) (hL : TbP w s.bc L) (hh : wf64 h) (hE : noteE H L id h ≠ 0 ∨ settled = true) :
    Calls Try.prog 28 #[.pointer (some ⟨g, 0, none⟩), .int .i64 id, .int .i64 h, .string tag, .bool settled] w fun e w' => e = .returned (.int .i64 (noteE H L id h)) ∧ Below w.heap.size w w' := by
  obtain ⟨W0, hW0⟩ : ∃ W0, w.alloc (.cells #[.int .i64 id] 3) = W0 := ⟨_, rfl⟩
  have HB0 : Hid (Below w.heap.size w W0) := hW0 ▸ bel1 (Below.refl _ _) (Nat.le_refl _) _
  have hs0 : W0.heap.size = w.heap.size + 1 := by rw [← hW0]; simp
  have HA := hide (areWords_any w.heap.size [id] W0 (by omega) (by simp) (by
    intro j hj
    obtain rfl : j = 0 := by simp at hj; omega
    rw [← hW0]
    simp))
  rw [show [id].all isW = true by simp [hi]] at HA
  have hS0 := hS.at (HB0.out.block g hS.lt)
  have HN := hide (note_no g s H s.bc L id h tag settled W0 hS0 (hT.at (HB0.out.block _ hT.lt)) (hL.at (HB0.out.block _ hL.lt)) (wf_word (isW_iff.1 hi)) hh hE)
  obtain ⟨s0, s1, s2, s3, s4, s5, s6, s7, s8, s9, s10, s11, s12, s13, s14, s15, s16⟩ := hS0.facts
  have hl := hS0.lt
  have HW0 := hide hW0
  have HSz := hide hs0
  clear hi hS hT hL hh hE hS0 hs0 hW0
  go_enter Try.func28, Try.ntmps28
  go_wp2_with (first | (go_at_call 55; rw [HW0.out]; refine HA.out.mono ?_; rintro e1 w1 ⟨rfl, rfl⟩) | (go_at_call 56; refine HN.out.mono ?_; rintro e2 w2 ⟨rfl, hb2⟩))
  go_ret
  exact ⟨rfl, belOn HB0.out (by have := HSz.out; omega) hb2⟩
set_option maxRecDepth 100000 in
theorem arrive_yes (g : Nat) (s : Sn) (H : List (Int × Int)) (L : List (Int × Pd)) (id h : Int) (tag : ByteArray) (w : World) (hi : isW id = true) (hS : SB w g s) (hT : TbI w s.bh H) (hL : TbP w s.bc L) (hh : wf64 h) (hE : noteE H L id h = 0) (hm : L.length < maxLen) :
    Calls Try.prog 28 #[.pointer (some ⟨g, 0, none⟩), .int .i64 id, .int .i64 h, .string tag, .bool false] w fun e w' => e = .returned (.int .i64 0) ∧ TbP w' s.bc ((id, (id, h, tag)) :: L) ∧ Kp (fun q => q = s.bc) w w' := by
  obtain ⟨W0, hW0⟩ : ∃ W0, w.alloc (.cells #[.int .i64 id] 3) = W0 := ⟨_, rfl⟩
  have HB0 : Hid (Below w.heap.size w W0) := hW0 ▸ bel1 (Below.refl _ _) (Nat.le_refl _) _
  have hs0 : W0.heap.size = w.heap.size + 1 := by rw [← hW0]; simp
  have HA := hide (areWords_any w.heap.size [id] W0 (by omega) (by simp) (by
    intro j hj
    obtain rfl : j = 0 := by simp at hj; omega
    rw [← hW0]
    simp))
  rw [show [id].all isW = true by simp [hi]] at HA
  have hS0 := hS.at (HB0.out.block g hS.lt)
  have HN := hide (note_yes g s H s.bc L id h tag W0 hS0 (hT.at (HB0.out.block _ hT.lt)) (hL.at (HB0.out.block _ hL.lt)) (wf_word (isW_iff.1 hi)) hh hE hm)
  obtain ⟨s0, s1, s2, s3, s4, s5, s6, s7, s8, s9, s10, s11, s12, s13, s14, s15, s16⟩ := hS0.facts
  have hl := hS0.lt
  have HW0 := hide hW0
  clear hi hS hT hL hh hE hS0 hs0 hW0
  go_enter Try.func28, Try.ntmps28
  go_wp2_with (first | (go_at_call 55; rw [HW0.out]; refine HA.out.mono ?_; rintro e1 w1 ⟨rfl, rfl⟩) | (go_at_call 56; refine HN.out.mono ?_; rintro e2 w2 ⟨rfl, t2, k2⟩))
  go_ret
  exact ⟨rfl, t2, (Kp.ofBelow HB0.out).trans k2⟩
set_option maxRecDepth 100000 in
theorem forget_no (g : Nat) (s : Sn) (sending : Bool) (L : List (Int × Pd)) (id : Int) (w : World) (hS : SB w g s) (hT : TbP w (s.way sending) L) (hi : wf64 id) (hh : hasK L id = false) :
    Calls Try.prog 31 #[.pointer (some ⟨g, 0, none⟩), .bool sending, .int .i64 id] w fun e w' => e = .returned (.int .i64 131) ∧ Below w.heap.size w w' := by
  have HWy := hide (way_any g s sending w hS)
  have HP := hide (hasP_any (s.way sending) L id w hT hi)
  rw [hh] at HP
  clear hS hT hi hh
  go_enter Try.func31, Try.ntmps31
  go_wp2_with (first | (go_at_call 57; refine HWy.out.mono ?_; rintro e2 w2 ⟨rfl, rfl⟩) | (go_at_call 59; refine HP.out.mono ?_; rintro e3 w3 ⟨rfl, hb3⟩))
  go_ret
  exact ⟨rfl, hb3⟩
set_option maxRecDepth 100000 in
theorem forget_yes (g : Nat) (s : Sn) (sending : Bool) (L : List (Int × Pd)) (id : Int) (w : World) (hS : SB w g s) (hT : TbP w (s.way sending) L) (hi : wf64 id) (hh : hasK L id = true) :
    Calls Try.prog 31 #[.pointer (some ⟨g, 0, none⟩), .bool sending, .int .i64 id] w fun e w' => e = .returned (.int .i64 0) ∧ TbP w' (s.way sending) (L.filter fun p => p.1 != id) ∧ Kp (fun q => q = s.way sending) w w' := by
  have HWy := hide (way_any g s sending w hS)
  have HP := hide (hasP_any (s.way sending) L id w hT hi)
  have HT := hide hT
  have HI := hide hi
  rw [hh] at HP
  clear hS hT hi hh
  go_enter Try.func31, Try.ntmps31
  go_wp2_with (first | (go_at_call 57; refine HWy.out.mono ?_; rintro e2 w2 ⟨rfl, rfl⟩) | (go_at_call 59; refine HP.out.mono ?_; rintro e3 w3 ⟨rfl, hb3⟩) | (at_delete; refine del_P rfl _ _ rfl (s.way sending) rfl id rfl L (HT.out.at (hb3.block _ HT.out.lt)) HI.out ?_; intro w4 t4 k4 z4))
  go_ret
  exact ⟨rfl, t4, (Kp.ofBelow hb3).trans k4⟩
set_option maxRecDepth 100000 in
theorem local_any (g : Nat) (s : Sn) (R : List (Int × Int)) (remote : Int) (w : World) (hS : SB w g s) (hT : TbI w s.br R) (hi : wf64 remote) :
    Calls Try.prog 33 #[.pointer (some ⟨g, 0, none⟩), .int .i64 remote] w fun e w' => e = .returned (.tuple #[.int .i64 (lu 0 R remote), .bool (hasK R remote)]) ∧ w' = w := by
  obtain ⟨s0, s1, s2, s3, s4, s5, s6, s7, s8, s9, s10, s11, s12, s13, s14, s15, s16⟩ := hS.facts
  have hl := hS.lt
  have HT := hide hT
  have HI := hide hi
  clear hS hT hi
  go_enter Try.func33, Try.ntmps33
  go_wp2_with (at_lookup; refine look_I rfl _ _ rfl s.br rfl remote rfl R HT.out HI.out ?_)
  go_ret2
  exact ⟨rfl, rfl⟩
end Go.Proofs.Ytondbhdlccpklaa
