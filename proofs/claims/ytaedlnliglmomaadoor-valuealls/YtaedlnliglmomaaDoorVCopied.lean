/- longshoreref02's Copied and CopiedAll. -/
import Derived.Test.YtaedlnliglmomaaDoorVTurnW
namespace Go.Proofs.YtaedlnliglmomaaDoor
open Go.RowKit
set_option linter.unusedVariables false
set_option linter.unusedSimpArgs false

/-- what longshoreref02.Copied is asked -/
def CopiedOk (x : V) : Prop := T.wt x.t ≤ 100000 → ∀ (n₀ : Nat) (w : World), n₀ ≤ w.heap.size → Lies n₀ w x →
  Calls Tryd.prog 38 #[x.val] w fun e w' => ∃ y : V, e = .returned (.agg #[.int .i64 y.k, .int .u64 y.n, .string y.s, .slice y.a y.l.length y.c, .int .i64 y.e]) ∧
    Hid (y.t = x.t ∧ LiesIn (fun b => w.heap.size ≤ b ∧ b < w'.heap.size) w' y) ∧ Below w.heap.size w w'

/-- how far the new list has come -/
def CopSoFar (l : List V) (B j : Nat) (lv : Value) (wr : World) : Prop := ∃ l' : List V, V.ts l' = V.ts (l.take j) ∧ wr.ownsRow B 25 5 lv j (flat l') ∧
  ∀ x ∈ l', LiesIn (fun b => B ≤ b ∧ b < wr.heap.size ∧ some b ≠ lv.ownBlock) wr x

theorem CopSoFar.next {l : List V} {B j A : Nat} {lv v' : Value} {wr w1 w2 : World} {y : V} (l' : List V) (h1 : V.ts l' = V.ts (l.take j)) (h2 : wr.ownsRow B 25 5 lv j (flat l')) (h3 : ∀ x ∈ l', LiesIn (fun b => B ≤ b ∧ b < wr.heap.size ∧ some b ≠ lv.ownBlock) wr x) (hj : j < l.length) (hB : B ≤ wr.heap.size) (hb : Below wr.heap.size wr w1) (ht : y.t = l[j].t)
    (hy : LiesIn (fun b => wr.heap.size ≤ b ∧ b < w1.heap.size) w1 y) (hs : w1.heap.size ≤ A) (hA : w2.ownsRow B 25 5 v' (j + 1) (flat l' ++ words y)) (hk : ∀ b, b < w1.heap.size → some b ≠ lv.ownBlock → Same w1 w2 b) (hs2 : w1.heap.size ≤ w2.heap.size)
    (hv : v'.ownBlock = lv.ownBlock ∨ v'.ownBlock = some A) : CopSoFar l B (j + 1) v' w2 := by
  have hlt : ∀ g, lv.ownBlock = some g → g < wr.heap.size := fun g hg => by
    rcases h2.2 with ⟨rfl, _⟩ | ⟨g', cap, cur, rfl, _, hgg, _⟩
    · cases hg
    · cases hg
      exact (Array.getElem?_eq_some_iff.1 hgg).1
  refine ⟨l' ++ [y], ?_, ?_, fun x hx => ?_⟩
  · rw [List.take_succ_eq_append_getElem hj]
    simp only [V.ts_map, List.map_append, List.map_cons, List.map_nil] at h1 ⊢
    rw [h1, ht]
  · rw [flat_append]
    rw [show flat [y] = words y by simp [flat]]
    exact hA
  · rcases List.mem_append.1 hx with hx | hx
    · refine (h3 x hx).keep (fun b hq o => ?_) (fun b hq => ?_)
      · have hsz := hb.size
        exact (hk b (by omega) hq.2.2 o).trans (hb.cell (p := ⟨b, o, none⟩) hq.2.1)
      · have hsz := hb.size
        refine ⟨hq.1, by omega, ?_⟩
        rcases hv with hv | hv
        · rw [hv]; exact hq.2.2
        · rw [hv]; intro e; cases e; omega
    · obtain rfl : x = y := by simpa using hx
      refine hy.keep (fun b hq o => ?_) (fun b hq => ?_)
      · refine hk b hq.2 (fun e => ?_) o
        have := hlt b e.symm
        omega
      · refine ⟨by omega, by omega, ?_⟩
        rcases hv with hv | hv
        · rw [hv]
          intro e
          have := hlt b e.symm
          omega
        · rw [hv]; intro e; cases e; omega

/-- a list copied -/
def CopiedRow (l : List V) (B : Nat) (A : Option Addr) (C : Nat) (w' : World) : Prop := ∃ l' : List V, V.ts l' = V.ts l ∧ l.length ≤ C ∧
  (0 < l.length → ∃ g, A = some ⟨g, 0, none⟩ ∧ B ≤ g ∧ g < w'.heap.size ∧ Row w' g 0 l') ∧ ∀ x ∈ l', LiesIn (fun b => B ≤ b ∧ b < w'.heap.size) w' x

set_option maxRecDepth 100000 in
set_option maxHeartbeats 1000000 in
theorem copiedAll_any (l : List V) (ih : ∀ x ∈ l, CopiedOk x) (hw : T.wts (V.ts l) ≤ 100000) (a : Option Addr) (c n₀ : Nat) (w : World) (hn : n₀ ≤ w.heap.size) (hc : l.length ≤ c) (hcc : l.length ≤ 2199023255552) (hr : 0 < l.length → ∃ b o, a = some ⟨b, o, none⟩ ∧ b < n₀ ∧ Row w b o l) (ls : ∀ x ∈ l, Lies n₀ w x) :
    Calls Tryd.prog 59 #[.slice a l.length c] w fun e w' => ∃ A C, e = .returned (.slice A l.length C) ∧ Hid (CopiedRow l w.heap.size A C w') ∧ Below w.heap.size w w' := by
  have hlw := len_wtsT l
  have LR := hide hr
  have LS := hide ls
  have IH := hide ih
  clear hr ls ih
  obtain ⟨i0, hi0, hzz⟩ := Option.map_eq_some_iff.1 Tryd.infoV
  simp only [Prod.mk.injEq] at hzz
  obtain ⟨hz0, hz1, hz2⟩ := hzz
  go_enter Tryd.func59, Tryd.ntmps59
  go_wp2
  go_loopw [3, 4] (fun lv i wr => ∃ (j : Nat) (A : Option Addr) (C : Nat), i = .int .i64 j ∧ lv = .slice A j C ∧ j ≤ l.length ∧ Below w.heap.size w wr ∧ Hid (CopSoFar l w.heap.size j (.slice A j C) wr)) (fun _ i _ => l.length - (intOf i).toNat)
  case atStart => exact ⟨0, none, 0, rfl, rfl, Nat.zero_le _, Below.refl _ _, [], by simp [V.ts], World.ownsRow_nil _ _ _ _, by simp⟩
  case round =>
    obtain ⟨j, A, C, rfl, rfl, hj, hb, HT⟩ := hrel
    have hsz := hb.size
    by_cases hjl : j < l.length
    · obtain ⟨b, o, rfl, hlt, hr⟩ := LR.out (by omega)
      obtain ⟨x0, x1, x2, x3, x4⟩ := (hr.below hb (by omega)) j hjl
      have hx := IH.out l[j] (List.getElem_mem hjl) (by have := wt_memT (List.getElem_mem hjl); omega) n₀ wr (by omega) ((LS.out _ (List.getElem_mem hjl)).keep hb hn)
      rw [V.val_eq] at hx
      have HH := hide hx
      clear hx hr
      go_wp2_with fail
      refine Calls.mono HH.out ?_
      rintro e1 w1 ⟨y, rfl, HY, hb1⟩
      have hs1 := hb1.size
      obtain ⟨l', t1, t2, t3⟩ := HT.out
      have hown : ((w1.alloc (Obj.cells #[.int .i64 y.k, .int .u64 y.n, .string y.s, .slice y.a y.l.length y.c, .int .i64 y.e] 25)).alloc (Obj.cells #[.int .i64 y.k, .int .u64 y.n, .string y.s, .slice y.a y.l.length y.c, .int .i64 y.e] 25)).ownsRow w.heap.size 25 5 (.slice A j C) j (flat l') :=
        ((t2.kept (grown_of_below hb1) (by cases (Value.slice A j C).ownBlock <;> simp)).alloc _).alloc _
      have HOWN := hide hown
      have hnews : ∀ q u, (words y)[q]? = some u → ((w1.alloc (Obj.cells #[.int .i64 y.k, .int .u64 y.n, .string y.s, .slice y.a y.l.length y.c, .int .i64 y.e] 25)).alloc (Obj.cells #[.int .i64 y.k, .int .u64 y.n, .string y.s, .slice y.a y.l.length y.c, .int .i64 y.e] 25)).cell? ((⟨w1.heap.size + 1, 0, none⟩ : Addr).add q) = some u := fun q u hq => by
        have hql : q < 5 := by have := (List.getElem?_eq_some_iff.1 hq).1; simpa [words] using this
        have hh := heap_at1 w1 (Obj.cells #[.int .i64 y.k, .int .u64 y.n, .string y.s, .slice y.a y.l.length y.c, .int .i64 y.e] 25) (Obj.cells #[.int .i64 y.k, .int .u64 y.n, .string y.s, .slice y.a y.l.length y.c, .int .i64 y.e] 25)
        have e1 : (⟨w1.heap.size + 1, 0, none⟩ : Addr).add q = ⟨w1.heap.size + 1, q, none⟩ := by by_cases h : q = 0 <;> simp [Addr.add, h]
        rw [e1]
        simp only [World.cell?, hh]
        have : q = 0 ∨ q = 1 ∨ q = 2 ∨ q = 3 ∨ q = 4 := by omega
        rcases this with rfl | rfl | rfl | rfl | rfl <;> simpa [words] using hq
      have HNEWS := hide hnews
      have T1 := hide t1
      have T2 := hide t2
      have T3 := hide t3
      have HB1 := hide hb1
      clear hown hnews t1 t2 t3
      have hszB : w.heap.size ≤ w1.heap.size + 2 := by omega
      go_wp2_with (at_builtin; refine wpList_append_own_at _ rfl (.tmp 17) (.tmp 19) 23 rfl w.heap.size 25 i0 _ 5 64 Tryd.underlying23 hi0 hz0 hz1 hz2 rfl (by decide) _ j (flat l') rfl HOWN.out ⟨w1.heap.size + 1, 0, none⟩ 1 1 (words y) rfl rfl HNEWS.out (V.words_one y) (by simp [maxLen]; omega) (by omega) (by simp; omega) ?_; intro v' w2 hown' hgrow _ hat; obtain ⟨g', cap', rfl⟩ := ownsRow_succ hown')
      have hgs := hgrow.size
      simp only [World.size_alloc] at hgs hat
      have hk : ∀ b', b' < w1.heap.size → some b' ≠ (Value.slice A j C).ownBlock → w2.heap[b']? = w1.heap[b']? := fun b' q1 q2 => (hgrow.block b' (by simp; omega) q2).trans ((Below.heap_alloc _ _ _ (by simp; omega)).trans (Below.heap_alloc _ _ _ q1))
      have hbl : ∀ g, (Value.slice A j C).ownBlock = some g → w.heap.size ≤ g := fun g hg => by
        rcases T2.out.2 with ⟨h, _⟩ | ⟨g'', cap, cur, h, hB, _⟩
        · rw [h] at hg; cases hg
        · rw [h] at hg; cases hg; exact hB
      have hb2 : Below w.heap.size w w2 := by
        have hB1 := belOn hb hsz HB1.out
        refine ⟨hgrow.os.trans hB1.os, hgrow.tape.trans hB1.tape, hgrow.output.trans hB1.output, by omega, fun q hq => ?_⟩
        refine (hk q (by omega) (fun e => ?_)).trans (hB1.block q hq)
        have := hbl q e.symm
        omega
      have HTN : Hid (CopSoFar l w.heap.size (j + 1) (.slice (some ⟨g', 0, none⟩) (j + 1) cap') w2) := CopSoFar.next (A := w1.heap.size + 1 + 1) l' T1.out T2.out T3.out hjl hsz HB1.out HY.out.1 HY.out.2 (by omega) hown' (fun b' q1 q2 o' => World.cell?_of_block (hk b' q1 q2)) (by omega) hat
      go_roundw
      case rel => exact ⟨j + 1, some ⟨g', 0, none⟩, cap', by go_num, rfl, hjl, hb2, HTN⟩
      case measure => simp [intOf]; omega
    · obtain rfl : j = l.length := by omega
      go_wp2
      go_ret
      refine ⟨A, C, rfl, ?_, hb⟩
      obtain ⟨l', h1, h2, h3⟩ := HT.out
      rw [List.take_length] at h1
      refine ⟨l', h1, ?_, ?_, fun x hx => (h3 x hx).keep (fun b hq o => rfl) (fun b hq => ⟨hq.1, hq.2.1⟩)⟩
      · rcases h2.2 with ⟨h, h0⟩ | ⟨g, cap, cur, h, hB, hgg, hnc, hm, hcs, _⟩
        · omega
        · simp only [Value.slice.injEq] at h
          obtain ⟨rfl, _, rfl⟩ := h
          exact hnc
      · intro h0'
        rcases h2.2 with ⟨h, h0⟩ | ⟨g, cap, cur, h, hB, hgg, hnc, hm, hcs, _⟩
        · omega
        · simp only [Value.slice.injEq] at h
          obtain ⟨rfl, _, rfl⟩ := h
          exact ⟨g, rfl, hB, (Array.getElem?_eq_some_iff.1 hgg).1, flat_row h2⟩

set_option maxRecDepth 100000 in
set_option maxHeartbeats 1000000 in
theorem rcopied_any : ∀ x, CopiedOk x := by
  refine V.ind ?_
  intro k n s a c e l ih hw n₀ w hn hx
  rw [V.t_of, T.wt_of] at hw
  have hlw := len_wtsT l
  have HF : Hid (∀ w1, Below w.heap.size w w1 → Calls Tryd.prog 59 #[.slice a l.length c] w1 fun e w' => ∃ A C, e = .returned (.slice A l.length C) ∧ Hid (CopiedRow l w1.heap.size A C w') ∧ Below w1.heap.size w1 w') := by
    intro w1 hb
    have hx1 := hx.keep hb hn
    have hsz := hb.size
    exact copiedAll_any l ih (by omega) a c n₀ w1 (by omega) hx1.ok.l hx1.ok.c hx1.row hx1.sub
  have OK := hide hx.ok
  clear ih hx
  rw [V.val_of]
  go_enter Tryd.func38, Tryd.ntmps38
  go_wp2_with fail
  refine Calls.mono (HF.out _ (bel2 (Below.refl _ _) (Nat.le_refl _) _ _)) ?_
  rintro e' w1 ⟨A, C, rfl, HL, hb1⟩
  have hz : w.heap.size + 1 < w1.heap.size := by have := hb1.size; simp at this; omega
  obtain ⟨g1, g2, g3, g4⟩ := box_cells hb1
  have k0 := g1 0
  have k1 := g1 1
  have k2 := g1 2
  have k3 := g1 3
  have k4 := g1 4
  have j0 := g2 0
  have j1 := g2 1
  have j2 := g2 2
  have j3 := g2 3
  have j4 := g2 4
  simp only [List.getElem?_toArray, List.getElem?_cons_zero, List.getElem?_cons_succ] at k0 k1 k2 k3 k4 j0 j1 j2 j3 j4
  have HB1 := hide hb1
  clear hb1 g1 g2
  go_wp2
  have ok := OK.out
  obtain ⟨l', h1, hC, hR, hS⟩ := HL.out
  simp only [World.size_alloc] at hR hS
  have hlen : l'.length = l.length := by simpa [V.ts_length] using congrArg List.length h1
  have hsm : ∀ b', b' ≠ w.heap.size → b' ≠ w.heap.size + 1 → Same w1 (put5 (w1.setCell ⟨w.heap.size, 3, none⟩ (.slice A l'.length C)) (w.heap.size + 1) 0 (.of k n s A C e l')) b' := fun b' n1 n2 o' =>
    (put5_same _ _ _ _ _ n2 o').trans (World.cell?_setCell_other _ _ _ _ (fun e => n1 (by cases e; rfl)))
  have hbz : Below w.heap.size w _ := put5_below (y := .of k n s A C e l') (o := 0) (b := w.heap.size + 1) ((belOn (bel2 (Below.refl w.heap.size w) (Nat.le_refl _) _ _) (by simp; omega) HB1.out).setCell (p := ⟨w.heap.size, 3, none⟩) (Nat.le_refl _) (.slice A l'.length C)) (by omega)
  rw [← put5_of] at hsm hbz
  rw [hlen] at hsm hbz
  refine bodyPost_ret (v := .agg #[.int .i64 k, .int .u64 n, .string s, .slice A l.length C, .int .i64 e]) (by simp [results, Tryd.results38, go_sem, j0, j1, j2, j3, j4]) rfl ⟨.of k n s A C e l', by rw [V.l_of, hlen]; rfl, ⟨by rw [V.t_of, V.t_of, h1], .mk ⟨ok.k, ok.n, ok.s, ok.e, by omega, by have := ok.c; omega⟩ (fun hl0 => ?_) (fun x hx => ?_)⟩, hbz⟩
  · obtain ⟨g, rfl, q1, q2, q3⟩ := hR (by omega)
    refine ⟨g, 0, rfl, ?_, q3.same (hsm g (by omega) (by omega))⟩
    simp [World.setCell]; omega
  · refine (hS x hx).keep (fun b hq => hsm b (by omega) (by omega)) (fun b hq => ?_)
    simp [World.setCell]; omega
end Go.Proofs.YtaedlnliglmomaaDoor
