/- VKeep, VTurnW -/
import Derived.Test.YthhlpjhkeendcaaGreatDoorS16
import Derived.OwnWalk
namespace Go.Proofs.YthhlpjhkeendcaaGreatDoor
open Go.RowKit
set_option linter.unusedVariables false
set_option linter.unusedSimpArgs false
theorem ownsRow_keep {w w' : World} {base : Nat} {e : TypeId} {size : Nat} {v : Value} {n : Nat} {xs : List Value} (h : w.ownsRow base e size v n xs) (hk : ∀ g, v.ownBlock = some g → w'.heap[g]? = w.heap[g]?) : w'.ownsRow base e size v n xs := by
  refine ⟨h.1, ?_⟩
  rcases h.2 with hn | ⟨g, cap, cur, rfl, h1, h2, h3⟩
  · exact .inl hn
  · exact .inr ⟨g, cap, cur, rfl, h1, (hk g rfl).trans h2, h3⟩
theorem ownsRow_lt {w : World} {base : Nat} {e : TypeId} {size : Nat} {v : Value} {n : Nat} {xs : List Value} (h : w.ownsRow base e size v n xs) {g : Nat} (hg : v.ownBlock = some g) : base ≤ g ∧ g < w.heap.size := by
  rcases h.2 with ⟨rfl, _⟩ | ⟨g', cap, cur, rfl, h1, h2, h3⟩
  · cases hg
  · cases hg
    exact ⟨h1, (Array.getElem?_eq_some_iff.1 h2).1⟩
theorem news5 (W : World) (y : V) (q : Nat) (u : Value) (hq : (words y)[q]? = some u) : (W.alloc (Obj.cells #[.int .i64 y.k, .int .u64 y.n, .string y.s, .slice y.a y.l.length y.c, .int .i64 y.e] 25)).cell? ((⟨W.heap.size, 0, none⟩ : Addr).add q) = some u := by
  have hql : q < 5 := by have := (List.getElem?_eq_some_iff.1 hq).1; simpa [words] using this
  have hh := World.alloc_heap_new W (Obj.cells #[.int .i64 y.k, .int .u64 y.n, .string y.s, .slice y.a y.l.length y.c, .int .i64 y.e] 25)
  have e1 : (⟨W.heap.size, 0, none⟩ : Addr).add q = ⟨W.heap.size, q, none⟩ := by by_cases h : q = 0 <;> simp [Addr.add, h]
  rw [e1]
  simp only [World.cell?, hh]
  have : q = 0 ∨ q = 1 ∨ q = 2 ∨ q = 3 ∨ q = 4 := by omega
  rcases this with rfl | rfl | rfl | rfl | rfl <;> simpa [words] using hq
theorem wt_memT {l : List V} {x : V} (h : x ∈ l) : T.wt x.t ≤ T.wts (V.ts l) := by
  induction l with
  | nil => simp at h
  | cons y l ih =>
    rw [V.ts, T.wts]
    rcases List.mem_cons.1 h with rfl | h
    · omega
    · have := ih h
      omega
theorem len_wtsT (l : List V) : l.length ≤ T.wts (V.ts l) := by
  induction l with
  | nil => simp
  | cons x l ih =>
    have : 1 ≤ T.wt x.t := by
      obtain ⟨k, n, s, a, c, e, l, rfl⟩ := V.ex x
      rw [V.t_of, T.wt_of]
      omega
    rw [V.ts, T.wts, List.length_cons]
    omega
set_option maxRecDepth 100000 in
set_option maxHeartbeats 1000000 in
theorem turned_any : ∀ x, TurnOk x := by
  refine V.ind ?_
  intro k n s a c e l ih hw n₀ w hn hx
  rw [V.t_of, T.wt_of] at hw
  have hlw := len_wtsT l
  have HX := hide hx
  have IH := hide ih
  have OK := hide hx.ok
  have o2 := hx.ok.l
  have o3 := hx.ok.c
  clear hx ih
  obtain ⟨i0, hi0, hzz⟩ := Option.map_eq_some_iff.1 Tryz.infoV
  simp only [Prod.mk.injEq] at hzz
  obtain ⟨hz0, hz1, hz2⟩ := hzz
  rw [V.val_of]
  go_enter Tryz.func12, Tryz.ntmps12
  go_wp2
  obtain ⟨nx, hnx⟩ : ∃ nx, bits BinOp.xor IntKind.u64 n 1 = nx := ⟨_, rfl⟩
  rw [hnx]
  have HNX := hide hnx
  clear hnx
  obtain ⟨W0, hW0⟩ : ∃ W0, (w.alloc (Obj.cells #[.int .i64 k, .int .u64 nx, .string s, .slice a l.length c, .int .i64 e] 25)).alloc (Obj.cells #[.int .i64 0, .int .u64 0, .string ⟨#[]⟩, .slice none 0 0, .int .i64 0] 25) = W0 := ⟨_, rfl⟩
  have hs0 : W0.heap.size = w.heap.size + 2 := by rw [← hW0]; simp
  have hb0 : Below w.heap.size w W0 := by rw [← hW0]; exact bel2 (Below.refl _ _) (Nat.le_refl _) _ _
  have hBX : ∀ wr, Below W0.heap.size W0 wr → (∀ o, wr.cell? ⟨w.heap.size, o, none⟩ = (#[.int .i64 k, .int .u64 nx, .string s, .slice a l.length c, .int .i64 e] : Array Value)[o]?) ∧ (∀ o, wr.cell? ⟨w.heap.size + 1, o, none⟩ = (#[.int .i64 0, .int .u64 0, .string ⟨#[]⟩, .slice none 0 0, .int .i64 0] : Array Value)[o]?) ∧ (∀ o, wr.frozen? ⟨w.heap.size, o, none⟩ = false) ∧ (∀ o, wr.frozen? ⟨w.heap.size + 1, o, none⟩ = false) := fun wr h => box_cells (by rw [hW0]; exact h)
  have HBX := hide hBX
  rw [hW0]
  clear hW0 hBX
  go_loopw [3, 4] (fun lv i wr => ∃ (j : Nat) (A : Option Addr) (C : Nat), i = .int .i64 j ∧ lv = .slice A j C ∧ j ≤ l.length ∧ Below W0.heap.size W0 wr ∧ Hid (TurnSoFar l W0.heap.size j (.slice A j C) wr)) (fun _ i _ => l.length - (intOf i).toNat)
  case atStart => exact ⟨0, none, 0, rfl, rfl, Nat.zero_le _, Below.refl _ _, [], by simp [V.ts], World.ownsRow_nil _ _ _ _, by simp⟩
  case round =>
    obtain ⟨j, A, C, rfl, rfl, hj, hb, HT⟩ := hrel
    have hsz := hb.size
    obtain ⟨g1, g2, g3, g4⟩ := HBX.out wr hb
    have k3 := g1 3
    simp only [List.getElem?_toArray, List.getElem?_cons_zero, List.getElem?_cons_succ] at k3
    by_cases hjl : j < l.length
    · clear g1 g2 g3 g4
      obtain ⟨b, o, rfl, hlt, hr⟩ := HX.out.row (by omega)
      have hbw : Below w.heap.size w wr := belOn hb0 (by omega) hb
      obtain ⟨x0, x1, x2, x3, x4⟩ := (hr.below hbw (by omega)) j hjl
      have hx := IH.out l[j] (List.getElem_mem hjl) (by have := wt_memT (List.getElem_mem hjl); omega) n₀ wr (by omega) ((HX.out.sub _ (List.getElem_mem hjl)).keep hbw hn)
      rw [V.val_eq] at hx
      have HH := hide hx
      clear hx
      go_wp2_with fail
      refine Calls.mono HH.out ?_
      rintro e1 w1 ⟨y, rfl, HY, hb1⟩
      have hs1 := hb1.size
      obtain ⟨l', t1, t2, t3⟩ := HT.out
      have hown : ((w1.alloc (Obj.cells #[.int .i64 y.k, .int .u64 y.n, .string y.s, .slice y.a y.l.length y.c, .int .i64 y.e] 25)).alloc (Obj.cells #[.int .i64 y.k, .int .u64 y.n, .string y.s, .slice y.a y.l.length y.c, .int .i64 y.e] 25)).ownsRow W0.heap.size 25 5 (.slice A j C) j (flat l') :=
        ((t2.kept (grown_of_below hb1) (by cases (Value.slice A j C).ownBlock <;> simp)).alloc _).alloc _
      have HOWN := hide hown
      have hnews : ∀ q u, (words y)[q]? = some u → ((w1.alloc (Obj.cells #[.int .i64 y.k, .int .u64 y.n, .string y.s, .slice y.a y.l.length y.c, .int .i64 y.e] 25)).alloc (Obj.cells #[.int .i64 y.k, .int .u64 y.n, .string y.s, .slice y.a y.l.length y.c, .int .i64 y.e] 25)).cell? ((⟨w1.heap.size + 1, 0, none⟩ : Addr).add q) = some u := fun q u hq => by
        have hql : q < 5 := by have := (List.getElem?_eq_some_iff.1 hq).1; simpa [words] using this
        have hh := heap_at1 w1 (Obj.cells #[.int .i64 y.k, .int .u64 y.n, .string y.s, .slice y.a y.l.length y.c, .int .i64 y.e] 25) (Obj.cells #[.int .i64 y.k, .int .u64 y.n, .string y.s, .slice y.a y.l.length y.c, .int .i64 y.e] 25)
        have e1 : (⟨w1.heap.size + 1, 0, none⟩ : Addr).add q = ⟨w1.heap.size + 1, q, none⟩ := by by_cases h : q = 0 <;> simp [Addr.add, h]
        rw [e1]
        simp only [World.cell?, hh]
        have : q = 0 ∨ q = 1 ∨ q = 2 ∨ q = 3 ∨ q = 4 := by omega
        rcases this with rfl | rfl | rfl | rfl | rfl <;> simpa [words] using hq
      have HNEWS := hide hnews
      have T1 := hide t1
      have T2 := hide t2
      have T3 := hide t3
      have HB1 := hide hb1
      clear hown hnews t1 t2 t3
      have hszB : W0.heap.size ≤ w1.heap.size + 2 := by omega
      go_wp2_with (at_builtin; refine wpList_append_own_at _ rfl (.tmp 23) (.tmp 25) 23 rfl W0.heap.size 25 i0 _ 5 64 Tryz.underlying23 hi0 hz0 hz1 hz2 rfl (by decide) _ j (flat l') rfl HOWN.out ⟨w1.heap.size + 1, 0, none⟩ 1 1 (words y) rfl rfl HNEWS.out (V.words_one y) (by simp [maxLen]; omega) (by omega) (by simp; omega) ?_; intro v' w2 hown' hgrow _ hat; obtain ⟨g', cap', rfl⟩ := ownsRow_succ hown')
      have hgs := hgrow.size
      simp only [World.size_alloc] at hgs hat
      have hk : ∀ b', b' < w1.heap.size → some b' ≠ (Value.slice A j C).ownBlock → w2.heap[b']? = w1.heap[b']? := fun b' q1 q2 => (hgrow.block b' (by simp; omega) q2).trans ((Below.heap_alloc _ _ _ (by simp; omega)).trans (Below.heap_alloc _ _ _ q1))
      have hbl : ∀ g, (Value.slice A j C).ownBlock = some g → W0.heap.size ≤ g := fun g hg => by
        rcases T2.out.2 with ⟨h, _⟩ | ⟨g'', cap, cur, h, hB, _⟩
        · rw [h] at hg; cases hg
        · rw [h] at hg; cases hg; exact hB
      have hb2 : Below W0.heap.size W0 w2 := by
        have hB1 := belOn hb hsz HB1.out
        refine ⟨hgrow.os.trans hB1.os, hgrow.tape.trans hB1.tape, hgrow.output.trans hB1.output, by omega, fun q hq => ?_⟩
        refine (hk q (by omega) (fun e => ?_)).trans (hB1.block q hq)
        have := hbl q e.symm
        omega
      have HTN : Hid (TurnSoFar l W0.heap.size (j + 1) (.slice (some ⟨g', 0, none⟩) (j + 1) cap') w2) := TurnSoFar.next (A := w1.heap.size + 1 + 1) l' T1.out T2.out T3.out hjl hsz HB1.out HY.out.1 HY.out.2 (by omega) hown' (fun b' q1 q2 o' => World.cell?_of_block (hk b' q1 q2)) (by omega) hat
      go_roundw
      case rel => exact ⟨j + 1, some ⟨g', 0, none⟩, cap', by go_num, rfl, hjl, hb2, HTN⟩
      case measure => simp [intOf]; omega
    · obtain rfl : j = l.length := by omega
      have k0 := g1 0
      have k1 := g1 1
      have k2 := g1 2
      have k4 := g1 4
      have j0 := g2 0
      have j1 := g2 1
      have j2 := g2 2
      have j3 := g2 3
      have j4 := g2 4
      simp only [List.getElem?_toArray, List.getElem?_cons_zero, List.getElem?_cons_succ] at k0 k1 k2 k4 j0 j1 j2 j3 j4
      clear g1 g2
      go_wp2
      obtain ⟨l', h1, h2, h3⟩ := HT.out
      rw [List.take_length] at h1
      have ok := OK.out
      have hlen : l'.length = l.length := by simpa [V.ts_length] using congrArg List.length h1
      have hxr := xor_range ok.n.1 ok.n.2
      rw [HNX.out] at hxr
      have hsm : ∀ b', b' ≠ w.heap.size → b' ≠ w.heap.size + 1 → Same wr (put5 (wr.setCell ⟨w.heap.size, 3, none⟩ (.slice A l'.length C)) (w.heap.size + 1) 0 (.of k nx s A C e l')) b' := fun b' n1 n2 o' =>
        (put5_same _ _ _ _ _ n2 o').trans (World.cell?_setCell_other _ _ _ _ (fun e => n1 (by cases e; rfl)))
      have hbz : Below w.heap.size w _ := put5_below (y := .of k nx s A C e l') (o := 0) (b := w.heap.size + 1) ((belOn hb0 (by omega) hb).setCell (p := ⟨w.heap.size, 3, none⟩) (Nat.le_refl _) (.slice A l'.length C)) (by omega)
      rw [← put5_of] at hsm hbz
      rw [hlen] at hsm hbz
      have hC : l.length ≤ C ∧ (0 < l.length → ∃ g, A = some ⟨g, 0, none⟩ ∧ W0.heap.size ≤ g ∧ g < wr.heap.size ∧ Row wr g 0 l') := by
        rcases h2.2 with ⟨h, h0⟩ | ⟨g, cap, cur, h, hB, hgg, hnc, hm, hcs, _⟩
        · exact ⟨by omega, fun h => by omega⟩
        · simp only [Value.slice.injEq] at h
          obtain ⟨rfl, _, rfl⟩ := h
          exact ⟨hnc, fun _ => ⟨g, rfl, hB, (Array.getElem?_eq_some_iff.1 hgg).1, flat_row h2⟩⟩
      refine bodyPost_ret (v := .agg #[.int .i64 k, .int .u64 nx, .string s, .slice A l.length C, .int .i64 e]) (by simp [results, Tryz.results12, go_sem, j0, j1, j2, j3, j4]) rfl ⟨.of k nx s A C e l', by rw [V.l_of, hlen]; rfl, ⟨by rw [V.t_of, V.t_of, T.turn_of, h1, HNX.out], .mk ⟨ok.k, hxr, ok.s, ok.e, by omega, by omega⟩ (fun hl0 => ?_) (fun x hx => ?_)⟩, hbz⟩
      · obtain ⟨g, rfl, q1, q2, q3⟩ := hC.2 (by omega)
        refine ⟨g, 0, rfl, ?_, q3.same (hsm g (by omega) (by omega))⟩
        simp [World.setCell]; omega
      · refine (h3 x hx).keep (fun b hq => hsm b (by omega) (by omega)) (fun b hq => ?_)
        simp [World.setCell]; omega
end Go.Proofs.YthhlpjhkeendcaaGreatDoor
