/- longshoreref02.All: what is told of a value, in a row. -/
import Derived.Test.YtaedlnliglmomaaDoorVGo
import Derived.Test.YtaedlnliglmomaaDoorVFlat
import Derived.Test.YtaedlnliglmomaaDoorVCopied
import Derived.Test.YtaedlnliglmomaaDoorVKeep
namespace Go.Proofs.YtaedlnliglmomaaDoor
open Go.RowKit
set_option linter.unusedVariables false
set_option linter.unusedSimpArgs false

theorem Tryd.infoT : (Tryd.prog.info? 48).map (fun i => (i.zero, i.size, i.bytes)) = some (some (.agg #[.int .i64 0, .int .i64 0, .int .u64 0, .string ⟨#[]⟩, .slice none 0 0, .int .i64 0]), 6, 72) := by kernel_rfl
theorem Tryd.underT : Tryd.prog.underlying 41 = some (.slice 48) := by kernel_rfl
/-- the words of what is told -/
def wordsT (p : Int × V) : List Value := .int .i64 p.1 :: words p.2
def flatT : List (Int × V) → List Value
  | [] => []
  | x :: l => wordsT x ++ flatT l
theorem flatT_append (l m : List (Int × V)) : flatT (l ++ m) = flatT l ++ flatT m := by
  induction l with
  | nil => rfl
  | cons x l ih => rw [List.cons_append, flatT, flatT, ih, List.append_assoc]
theorem flatT_length (l : List (Int × V)) : (flatT l).length = l.length * 6 := by
  induction l with
  | nil => rfl
  | cons x l ih => rw [flatT, List.length_append, ih]; simp [wordsT, words]; omega
theorem all_len : ∀ v : V, ∀ d : Int, (v.all d).length ≤ T.wt v.t := by
  refine V.ind ?_
  intro k n s a c e l ih d
  rw [V.all_of, V.t_of, T.wt_of, List.length_cons]
  have : ∀ d : Int, (V.alls d l).length ≤ T.wts (V.ts l) := by
    intro d'
    induction l with
    | nil => simp [V.alls]
    | cons x l ihl =>
      have h1 := ih x (by simp) d'
      have h2 := ihl (fun y hy => ih y (by simp [hy]))
      rw [V.alls, List.length_append, V.ts, T.wts]
      omega
  have := this (wrap64 (d + 1))
  omega
theorem alls_len (d : Int) (l : List V) : (V.alls d l).length ≤ T.wts (V.ts l) := by
  induction l with
  | nil => simp [V.alls]
  | cons x l ihl =>
    have h1 := all_len x d
    rw [V.alls, List.length_append, V.ts, T.wts]
    omega
theorem gr_trans {W a b : World} {o0 o1 : Option Nat} (h : W.grownBy a o0) (ho : o1 = o0 ∨ ∃ g, o1 = some g ∧ W.heap.size ≤ g) (k : a.grownBy b o1) : W.grownBy b o0 := by
  refine ⟨k.os.trans h.os, k.tape.trans h.tape, k.output.trans h.output, Nat.le_trans h.size k.size, fun q hq hne => ?_⟩
  have h1 := h.size
  refine (k.block q (by omega) (fun e => ?_)).trans (h.block q hq hne)
  rcases ho with ho | ⟨g, ho, hg⟩
  · exact hne (e.trans ho)
  · rw [ho] at e
    cases e
    omega
theorem tell_room (d : Int) (l : List V) (j : Nat) (hj : j < l.length) : (V.alls d (l.take j)).length + T.wt l[j].t ≤ T.wts (V.ts l) := by
  induction l generalizing j with
  | nil => simp at hj
  | cons x l ih =>
    cases j with
    | zero => simp [V.alls, V.ts, T.wts]
    | succ j =>
      have h1 := ih j (by simpa using hj)
      have h2 := all_len x d
      simp only [List.take_succ_cons, V.alls, V.ts, T.wts, List.getElem_cons_succ, List.length_append]
      omega
/-- what tell is asked, of a value x -/
def TellOk (x : V) : Prop := ∀ (d : Int) (L : List (Int × V)) (A : Option Addr) (C B n₀ : Nat) (w : World), n₀ ≤ B → B ≤ w.heap.size → Lies n₀ w x → L.length + T.wt x.t ≤ 1000000 → w.ownsRow B 48 6 (.slice A L.length C) L.length (flatT L) →
  Calls Tryd.prog 43 #[x.val, .int .i64 d, .slice A L.length C] w fun e w' => ∃ A' C', e = .returned (.slice A' (L ++ x.all d).length C') ∧
    Hid (w'.ownsRow B 48 6 (.slice A' (L ++ x.all d).length C') (L ++ x.all d).length (flatT (L ++ x.all d)) ∧ w.grownBy w' (Value.slice A L.length C).ownBlock ∧
      ((Value.slice A' (L ++ x.all d).length C').ownBlock = (Value.slice A L.length C).ownBlock ∨ ∃ g, (Value.slice A' (L ++ x.all d).length C').ownBlock = some g ∧ w.heap.size ≤ g))

set_option maxRecDepth 100000 in
set_option maxHeartbeats 2000000 in
theorem tell_any : ∀ x, TellOk x := by
  refine V.ind ?_
  intro k n s a c e l ih d L A C B n₀ w hnB hB hx hwt hown
  have HX := hide hx
  have IH := hide ih
  have ok := hx.ok
  have o2 := ok.l
  have o3 := ok.c
  rw [V.t_of, T.wt_of] at hwt
  clear ok hx ih
  obtain ⟨i0, hi0, hzz⟩ := Option.map_eq_some_iff.1 Tryd.infoT
  simp only [Prod.mk.injEq] at hzz
  obtain ⟨hz0, hz1, hz2⟩ := hzz
  have HOWN := hide hown
  clear hown
  rw [V.val_of]
  go_enter Tryd.func43, Tryd.ntmps43
  have HNEWS : Hid (∀ q u, (wordsT (d, V.of k n s a c e l))[q]? = some u → ((w.alloc (Obj.cells #[.int .i64 k, .int .u64 n, .string s, .slice a l.length c, .int .i64 e] 25)).alloc (Obj.cells #[.int .i64 d, .int .i64 k, .int .u64 n, .string s, .slice a l.length c, .int .i64 e] 48)).cell? ((⟨w.heap.size + 1, 0, none⟩ : Addr).add q) = some u) := fun q u hq => by
    have hql : q < 6 := by have := (List.getElem?_eq_some_iff.1 hq).1; simpa [wordsT, words] using this
    have hh := heap_at1 w (Obj.cells #[.int .i64 k, .int .u64 n, .string s, .slice a l.length c, .int .i64 e] 25) (Obj.cells #[.int .i64 d, .int .i64 k, .int .u64 n, .string s, .slice a l.length c, .int .i64 e] 48)
    have e1 : (⟨w.heap.size + 1, 0, none⟩ : Addr).add q = ⟨w.heap.size + 1, q, none⟩ := by by_cases h : q = 0 <;> simp [Addr.add, h]
    rw [e1]
    simp only [World.cell?, hh]
    have : q = 0 ∨ q = 1 ∨ q = 2 ∨ q = 3 ∨ q = 4 ∨ q = 5 := by omega
    rcases this with rfl | rfl | rfl | rfl | rfl | rfl <;> simpa [wordsT, words, V.k_of, V.n_of, V.s_of, V.a_of, V.l_of, V.c_of, V.e_of] using hq
  have HONE : Hid (∀ u ∈ wordsT (d, V.of k n s a c e l), u.oneCell' = true) := fun u hu => by
    rcases List.mem_cons.1 hu with rfl | hu
    · rfl
    · exact V.words_one _ u hu
  have HO2 : Hid (((w.alloc (Obj.cells #[.int .i64 k, .int .u64 n, .string s, .slice a l.length c, .int .i64 e] 25)).alloc (Obj.cells #[.int .i64 d, .int .i64 k, .int .u64 n, .string s, .slice a l.length c, .int .i64 e] 48)).ownsRow B 48 6 (.slice A L.length C) L.length (flatT L)) := (HOWN.out.alloc _).alloc _
  have HM1 : Hid (L.length + 1 ≤ maxLen) := by show L.length + 1 ≤ maxLen; unfold maxLen; omega
  have HM2 : Hid ((L.length + 1) * 72 ≤ 140737488355328) := by show (L.length + 1) * 72 ≤ 140737488355328; omega
  go_wp2_with (at_builtin; go_loud (refine wpList_append_own_at _ rfl (.tmp 8) (.tmp 12) 41 rfl B 48 i0 _ 6 72 Tryd.underT hi0 hz0 hz1 hz2 rfl (by decide) _ L.length (flatT L) rfl HO2.out ⟨w.heap.size + 1, 0, none⟩ 1 1 (wordsT (d, V.of k n s a c e l)) rfl rfl HNEWS.out HONE.out HM1.out HM2.out (by simp; omega) ?_; intro v' w2 hown' hgrow _ hat; obtain ⟨g', cap', rfl⟩ := ownsRow_succ hown'))
  have hgs := hgrow.size
  simp only [World.size_alloc] at hgs hat
  obtain ⟨o0, ho0⟩ : ∃ o0, (Value.slice A L.length C).ownBlock = o0 := ⟨_, rfl⟩
  have HAB : Hid (∀ g, o0 = some g → B ≤ g ∧ g < w.heap.size) := fun g hg => ownsRow_lt HOWN.out (ho0.trans hg)
  obtain ⟨W1, hW1⟩ : ∃ W1, w.alloc (Obj.cells #[.int .i64 k, .int .u64 n, .string s, .slice a l.length c, .int .i64 e] 25) = W1 := ⟨_, rfl⟩
  have hs1 : W1.heap.size = w.heap.size + 1 := by rw [← hW1]; simp
  have HB1 : Hid (W1.heap[w.heap.size]? = some (.cells #[.int .i64 k, .int .u64 n, .string s, .slice a l.length c, .int .i64 e] 25 (0, 0))) := by
    show W1.heap[w.heap.size]? = _
    rw [← hW1]; exact World.alloc_heap_new _ _
  have HG0 : Hid (w.grownBy W1 o0) := by
    show w.grownBy W1 o0
    rw [← hW1]
    exact ⟨rfl, rfl, rfl, by simp, fun q hq _ => Below.heap_alloc _ _ _ hq⟩
  have HG1 : Hid (W1.grownBy w2 o0) := by
    rw [hW1] at hgrow
    show W1.grownBy w2 o0
    refine ⟨hgrow.os, hgrow.tape, hgrow.output, by omega, fun q hq hne => ?_⟩
    refine (hgrow.block q (by simp; omega) (fun h => hne (h.trans ho0))).trans (Below.heap_alloc _ _ _ hq)
  have HAT : Hid ((Value.slice (some ⟨g', 0, none⟩) (L.length + 1) cap').ownBlock = o0 ∨ ∃ g, (Value.slice (some ⟨g', 0, none⟩) (L.length + 1) cap').ownBlock = some g ∧ W1.heap.size ≤ g) := hat.elim (fun h => .inl (h.trans ho0)) (fun h => .inr ⟨_, h, by omega⟩)
  have HOW := hide hown'
  have HO0 := hide ho0
  clear hgrow hat hown' HO2 HNEWS HONE HM1 HM2 hW1 ho0
  go_loopw [2, 7] (fun lv i wr => ∃ (j : Nat) (A' : Option Addr) (C' : Nat) (M : List (Int × V)), i = .int .i64 j ∧ lv = .slice A' M.length C' ∧ j ≤ l.length ∧ Hid (M = L ++ (d, V.of k n s a c e l) :: V.alls (wrap64 (d + 1)) (l.take j)) ∧
      Hid (wr.ownsRow B 48 6 (.slice A' M.length C') M.length (flatT M) ∧ W1.grownBy wr o0 ∧ ((Value.slice A' M.length C').ownBlock = o0 ∨ ∃ g, (Value.slice A' M.length C').ownBlock = some g ∧ W1.heap.size ≤ g))) (fun _ i _ => l.length - (intOf i).toNat)
  case atStart =>
    refine ⟨0, some ⟨g', 0, none⟩, cap', L ++ [(d, V.of k n s a c e l)], rfl, by simp, Nat.zero_le _, by show _ = _; simp [V.alls], ?_⟩
    have e2 : (L ++ [(d, V.of k n s a c e l)]).length = L.length + 1 := by simp
    rw [e2, flatT_append]
    refine ⟨?_, HG1.out, HAT.out⟩
    have := HOW.out
    simpa [flatT] using this
  case round =>
    obtain ⟨j, A', C', M, rfl, rfl, hj, HM, HT⟩ := hrel
    have hgw : wr.heap[w.heap.size]? = some (.cells #[.int .i64 k, .int .u64 n, .string s, .slice a l.length c, .int .i64 e] 25 (0, 0)) := (HT.out.2.1.block _ (by omega) (fun h => by have := (HAB.out _ h.symm).2; omega)).trans HB1.out
    have c3 : wr.cell? ⟨w.heap.size, 3, none⟩ = some (.slice a l.length c) := by simp [World.cell?, hgw]
    clear hgw
    have hsz := HT.out.2.1.size
    have hkeep : ∀ b, b < n₀ → wr.heap[b]? = w.heap[b]? := fun b hb => (HT.out.2.1.block b (by omega) (fun h => by have := (HAB.out _ h.symm).1; omega)).trans (HG0.out.block b (by omega) (fun h => by have := (HAB.out _ h.symm).1; omega))
    have HXr : Hid (Lies n₀ wr (V.of k n s a c e l)) := LiesIn.keep HX.out (fun b hb o => World.cell?_of_block (hkeep b hb)) (fun _ h => h)
    clear hkeep
    by_cases hjl : j < l.length
    · obtain ⟨b, o, rfl, hlt, hr⟩ := HXr.out.row (by omega)
      obtain ⟨x0, x1, x2, x3, x4⟩ := hr j hjl
      have hlw : (V.alls (wrap64 (d + 1)) (l.take j)).length + T.wt l[j].t ≤ T.wts (V.ts l) := tell_room (wrap64 (d + 1)) l j hjl
      have hml : M.length + T.wt l[j].t ≤ 1000000 := by
        rw [HM.out, List.length_append, List.length_cons]
        omega
      have hx := IH.out l[j] (List.getElem_mem hjl) (wrap64 (d + 1)) M A' C' B n₀ wr hnB (by omega) (HXr.out.sub _ (List.getElem_mem hjl)) hml HT.out.1
      obtain ⟨M', hM'⟩ : ∃ M', M ++ l[j].all (wrap64 (d + 1)) = M' := ⟨_, rfl⟩
      rw [V.val_eq, hM'] at hx
      have HM' : Hid (M' = L ++ (d, V.of k n s (some ⟨b, o, none⟩) c e l) :: V.alls (wrap64 (d + 1)) (l.take (j + 1))) := by
        show M' = _
        rw [← hM', HM.out, alls_snoc (wrap64 (d + 1)) l j hjl, List.append_assoc, List.cons_append]
      have HH := hide hx
      clear hx hr hM' hml
      go_wp2_with fail
      refine Calls.mono HH.out ?_
      rintro e1 w3 ⟨A3, C3, rfl, HR⟩
      go_wp2
      go_roundw
      case rel =>
        refine ⟨j + 1, A3, C3, M', by go_num, rfl, hjl, HM', HR.out.1, gr_trans HT.out.2.1 HT.out.2.2 HR.out.2.1, ?_⟩
        rcases HR.out.2.2 with h | ⟨g, h, hg⟩
        · rw [h]; exact HT.out.2.2
        · exact .inr ⟨g, h, by omega⟩
      case measure => simp [intOf]; omega
    · obtain rfl : j = l.length := by omega
      go_wp2
      go_ret
      have hT := HT.out
      have hMM := HM.out
      rw [List.take_length] at hMM
      rw [V.all_of, ← hMM]
      refine ⟨A', C', rfl, hT.1, ?_, ?_⟩
      · rw [HO0.out]; exact gr_trans HG0.out (.inl rfl) hT.2.1
      · rw [HO0.out]
        rcases hT.2.2 with h | ⟨g, h, hg⟩
        · exact .inl h
        · exact .inr ⟨g, h, by omega⟩
/-- All -/
theorem rall_any (x : V) (n₀ : Nat) (w : World) (hn : n₀ ≤ w.heap.size) (hx : Lies n₀ w x) (hw : T.wt x.t ≤ 100000) :
    Calls Tryd.prog 23 #[x.val] w fun e w' => ∃ g C, e = .returned (.slice (some ⟨g, 0, none⟩) (x.all 1).length C) ∧ Hid (w'.ownsRow w.heap.size 48 6 (.slice (some ⟨g, 0, none⟩) (x.all 1).length C) (x.all 1).length (flatT (x.all 1))) ∧ Below w.heap.size w w' := by
  have HF : Hid (∀ w1, Below w.heap.size w w1 → Calls Tryd.prog 43 #[x.val, .int .i64 1, .slice none 0 0] w1 fun e w' => ∃ A' C', e = .returned (.slice A' (x.all 1).length C') ∧
    Hid (w'.ownsRow w.heap.size 48 6 (.slice A' (x.all 1).length C') (x.all 1).length (flatT (x.all 1))) ∧ Below w1.heap.size w1 w') := by
    intro w1 hb
    have hs := hb.size
    have := tell_any x 1 [] none 0 w.heap.size n₀ w1 hn hs (hx.keep hb hn) (by simp; omega) (World.ownsRow_nil _ _ _ _)
    refine this.mono ?_
    rintro e w' ⟨A', C', rfl, HR⟩
    refine ⟨A', C', rfl, HR.out.1, ?_⟩
    have hg := HR.out.2.1
    exact ⟨hg.os, hg.tape, hg.output, hg.size, fun q hq => hg.block q hq (fun h => by cases h)⟩
  clear hx
  have hpos : 0 < (x.all 1).length := by
    obtain ⟨k, n, s, a, c, e, l, rfl⟩ := V.ex x
    rw [V.all_of]; simp
  rw [V.val_eq] at HF ⊢
  go_enter Tryd.func23, Tryd.ntmps23
  go_wp2_with fail
  first
    | refine Calls.mono (HF.out _ (Below.refl _ _)) ?_
    | refine Calls.mono (HF.out _ (bel1 (Below.refl _ _) (Nat.le_refl _) _)) ?_
  rintro e w1 ⟨A', C', rfl, HR, hb1⟩
  go_wp2
  go_ret
  have hr := HR.out
  rcases hr.2 with ⟨h, h0⟩ | ⟨g, cap, cur, h, hB, _⟩
  · omega
  · cases h
    refine ⟨g, C', rfl, hr, ?_⟩
    first | exact hb1 | exact belOn (bel1 (Below.refl w.heap.size w) (Nat.le_refl _) _) (by simp) hb1
end Go.Proofs.YtaedlnliglmomaaDoor
