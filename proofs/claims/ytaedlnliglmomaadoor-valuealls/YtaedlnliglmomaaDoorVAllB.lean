/- value.goThrough, walk and All again, for bodies that keep a book (VLawB). -/
import Derived.Test.YtaedlnliglmomaaDoorVLawB
import Derived.Test.YtaedlnliglmomaaDoorVAll
import Derived.Test.YtaedlnliglmomaaDoorVCopyO
namespace Go.Proofs.YtaedlnliglmomaaDoor.B
open Go.RowKit Go.Shelf
set_option linter.unusedVariables false
attribute [local go_sem] Oper.semAt_some

theorem _root_.Go.Proofs.YtaedlnliglmomaaDoor.Owns.lower {w : World} {lo lo' hi : Nat} {S : List Value} (h : Owns w lo hi S) (hl : lo' ≤ lo) : Owns w lo' hi S :=
  ⟨fun s hs => (h.1 s hs).elim .inl (fun ⟨g, n, e, h1, h2, h3⟩ => .inr ⟨g, n, e, Nat.le_trans hl h1, h2, h3⟩), h.2⟩
/-- what goThrough is asked, of a value x -/
def GoOk (M : Nat) (X Q : Nat → Prop) (P : Int × V → Prop) (x : V) : Prop := ∀ (l N : Nat) (J Jx : List (Int × V) → World → Prop), (∀ pre W o, J pre W → J pre (W.alloc o)) →
  (∀ m pre y W, P y → J pre W → pre.length < N → YieldAt Fence.wide m Tryd.prog l (encV y) W fun e W' => (e = .returned (.bool true) ∧ J (pre ++ [y]) W' ∧ KpX M X W W') ∨ (e = .returned (.bool false) ∧ Jx (pre ++ [y]) W')) →
  ∀ (n : Nat) (d : Int) (pre : List (Int × V)) (W : World), (∀ y ∈ x.all d, P y) → LiesIn Q W x → (∀ b, X b → b < W.heap.size) → J pre W → pre.length + (x.all d).length ≤ N →
    CallsIn Fence.wide n Tryd.prog 52 #[x.val, .int .i64 d, .func (.yield l) #[] #[]] W fun e W' =>
      (e = .returned (.bool true) ∧ J (pre ++ x.all d) W' ∧ KpX M X W W') ∨ (e = .returned (.bool false) ∧ ∃ q, q <+: x.all d ∧ Jx (pre ++ q) W')

set_option maxRecDepth 100000 in
set_option maxHeartbeats 2000000 in
theorem go_any (M : Nat) (X Q : Nat → Prop) (P : Int × V → Prop) (hq : ∀ b, Q b → ¬ X b) (hn : ∀ b, Q b → b < M) : ∀ x, GoOk M X Q P x := by
  refine V.ind ?_
  intro k n s a c e l ih yl N J Jx hJa hY m d pre W hP hx hX hJ hN
  have HX := hide hx
  have IH := hide ih
  have ok := hx.ok
  have o2 := ok.l
  have o3 := ok.c
  clear hx ih ok
  have HY := hide hY
  have HA := hide hJa
  have HQ := hide hq
  have HN := hide hn
  have HP := hide hP
  clear hY hJa hq hn hP
  have hJ0 := HA.out _ _ (Obj.cells #[.int .i64 k, .int .u64 n, .string s, .slice a l.length c, .int .i64 e] 25) hJ
  have hYv := HY.out (m - 1) pre (d, .of k n s a c e l) _ (HP.out _ (by rw [V.all_of]; simp)) hJ0 (by rw [V.all_of] at hN; simp at hN; omega)
  have hdd : ∀ k : Nat, (Fence.wide.depth.isSome = true → 1 ≤ k) := fun k h => by cases h
  have hYw := YieldAt.mono hYv (R' := fun e' W1 => (e' = .returned (.bool true) ∧ J (pre ++ [(d, .of k n s a c e l)]) W1 ∧ Hid (KpX M X (W.alloc (Obj.cells #[.int .i64 k, .int .u64 n, .string s, .slice a l.length c, .int .i64 e] 25)) W1) ∧ W1.cell? ⟨W.heap.size, 3, none⟩ = some (.slice a l.length c)) ∨ (e' = .returned (.bool false) ∧ Jx (pre ++ [(d, .of k n s a c e l)]) W1))
    (fun e' W1 h => h.elim (fun ⟨h1, h2, h3⟩ => .inl ⟨h1, h2, h3, by simp [World.cell?, h3.2 _ _ (fun hX' => by have := hX _ hX'; omega) (.inr (keeps_cells (by decide))) (World.alloc_heap_new W _)]⟩) .inr)
  clear hYv
  obtain ⟨fn, tmps, assign, body, hy, hR⟩ := hYw
  simp only [encV, V.val_of] at hy
  rw [V.val_of]
  refine callsIn_of_wp Tryd.func52 rfl trivial ?_ rfl
  simp only [Tryd.ntmps52, List.size_toArray, List.length_cons, List.length_nil, Nat.reduceAdd, Nat.reduceSub, Array.replicate_succ, Array.replicate_zero, List.push_toArray, List.append_toArray, List.nil_append, List.cons_append]
  gi_wp2_with ((try refine ⟨hdd _, ?_⟩); refine hR.mono ?_; clear hR; rintro e' W1 (⟨rfl, hJ1, HK1, c3⟩ | ⟨rfl, hx1⟩))
  · gi_loopw [17] (fun i wr => ∃ j : Nat, i = .int .i64 j ∧ j ≤ l.length ∧ W.heap.size ≤ wr.heap.size ∧ Hid (J (pre ++ (d, .of k n s a c e l) :: V.alls (wrap64 (d + 1)) (l.take j)) wr ∧ KpX M X W wr)) (fun i _ => l.length - (intOf i).toNat)
    case atStart =>
      refine ⟨0, rfl, Nat.zero_le _, ?_, by simpa [V.alls] using hJ1, ((KpX.refl M X W).alloc _).trans HK1.out⟩
      have := HK1.out.1
      simp at this
      omega
    case round =>
      obtain ⟨j, rfl, hj, hsz, HJ⟩ := hrel
      by_cases hjl : j < l.length
      · obtain ⟨b, o, rfl, hlt, hr⟩ := (lies_kp HX.out HJ.out.2 HQ.out HN.out).row (by omega)
        obtain ⟨x0, x1, x2, x3, x4⟩ := hr j hjl
        have hbw : b < wr.heap.size := by
          obtain ⟨cs, t, f, hh⟩ := cells_of_cell x0
          exact (Array.getElem?_eq_some_iff.1 hh).1
        have hst := alls_snoc (wrap64 (d + 1)) l j hjl
        have hlen : (pre ++ (d, .of k n s (some ⟨b, o, none⟩) c e l) :: V.alls (wrap64 (d + 1)) (l.take j)).length + (l[j].all (wrap64 (d + 1))).length ≤ N := by
          obtain ⟨r, hr⟩ := alls_pre (wrap64 (d + 1)) l (j + 1)
          rw [hst] at hr
          have h1 := congrArg List.length hr
          rw [V.all_of] at hN
          simp at hN h1 ⊢
          omega
        have hx := IH.out l[j] (List.getElem_mem hjl) yl N J Jx HA.out HY.out (m - 1) (wrap64 (d + 1)) _ _ (fun y hy => HP.out y (by rw [V.all_of]; exact List.mem_cons_of_mem _ ((alls_pre (wrap64 (d + 1)) l (j + 1)).subset (by rw [hst]; exact List.mem_append_right _ hy)))) (lies_kp ((lies_kp HX.out HJ.out.2 HQ.out HN.out).sub _ (List.getElem_mem hjl)) ((KpX.refl M X wr).alloc (Obj.cells #[.int .i64 l[j].k, .int .u64 l[j].n, .string l[j].s, .slice l[j].a l[j].l.length l[j].c, .int .i64 l[j].e] 25)) HQ.out HN.out) (fun b' hb' => by have := hX _ hb'; simp; omega) (HA.out _ _ _ HJ.out.1) hlen
        rw [V.val_eq] at hx
        have HK := hide HJ.out.2
        have HST := hide hst
        clear HJ hst
        gi_wp2_with ((try refine ⟨trivial, hdd _, ?_⟩); gi_at_call 52; refine hx.mono ?_; clear hx; rintro e' W2 (⟨rfl, hJ2, hK2⟩ | ⟨rfl, q, hq, hx2⟩))
        · go_roundw
          case rel =>
            refine ⟨j + 1, by go_num, hjl, ?_, ?_, HK.out.trans (((KpX.refl M X wr).alloc _).trans hK2)⟩
            · have := hK2.1
              simp at this
              omega
            · rw [HST.out]
              simpa using hJ2
          case measure => simp [intOf]; omega
        · go_ret
          refine .inr ⟨rfl, (d, .of k n s (some ⟨b, o, none⟩) c e l) :: (V.alls (wrap64 (d + 1)) (l.take j) ++ q), ?_, by simpa using hx2⟩
          rw [V.all_of]
          refine List.cons_prefix_cons.2 ⟨rfl, ?_⟩
          have h1 := alls_pre (wrap64 (d + 1)) l (j + 1)
          rw [HST.out] at h1
          exact ((List.prefix_append_right_inj _).2 hq).trans h1
      · obtain rfl : j = l.length := by omega
        gi_wp2
        go_ret
        refine .inl ⟨rfl, ?_, HJ.out.2⟩
        rw [V.all_of]
        have := HJ.out.1
        rwa [List.take_length] at this
  · go_ret
    exact .inr ⟨rfl, [(d, .of k n s a c e l)], by rw [V.all_of]; exact List.cons_prefix_cons.2 ⟨rfl, List.nil_prefix⟩, hx1⟩

set_option maxRecDepth 100000 in
set_option maxHeartbeats 2000000 in
theorem walk_seq (M : Nat) (X Y Q : Nat → Prop) (P : Int × V → Prop) (hq : ∀ b, Q b → ¬ X b) (v : V) (hP : ∀ y ∈ v.all 1, P y) (B : Nat) (w : World) (hB : BoxV w B v) (hl : LiesIn Q w v) (hM : ∀ b, Q b → b < M) (hQ : ∀ b, Q b → b < w.heap.size) (hX : ∀ b, X b → b < w.heap.size) :
    SeqW Tryd.prog 51 #[.pointer (some ⟨B, 0, none⟩)] encV (fun y _ _ => P y) M X Y (fun xs => xs = v.all 1) (fun pre => pre <+: v.all 1) (v.all 1).length w := by
  intro l n J Jx W _ hW hJ hJx hY h0
  have hsz := hW.size
  have hlt := hB.lt
  have hl1 : LiesIn Q W v := hl.keep (fun b hb o => hW.cell (p := ⟨b, o, none⟩) (hQ b hb)) (fun _ h => h)
  obtain ⟨c0, c1, c2, c3, c4⟩ := (hB.below hW hlt).cells
  have hg := go_any M X Q P hq hM v l (v.all 1).length J Jx (fun pre W o h => hJ.alloc o h) (fun m pre y W1 hy hj hlen => YieldAt.mono (hY m pre y W1 W1 hj (Below.refl _ _) hy hlen) (fun e W' h => h.elim .inl (fun h => .inr ⟨h.1, h.2.1⟩))) (n - 1) 1 [] W hP hl1 (fun b hb => by have := hX b hb; omega) h0 (by simp)
  rw [V.val_eq] at hg
  have hdd : ∀ k : Nat, (Fence.wide.depth.isSome = true → 1 ≤ k) := fun k h => by cases h
  have HG := hide hg
  clear hg hY
  refine callsIn_of_wp Tryd.func51 rfl trivial ?_ rfl
  simp only [Tryd.ntmps51, List.size_toArray, List.length_cons, List.length_nil, Nat.reduceAdd, Nat.reduceSub, Array.replicate_succ, Array.replicate_zero, List.push_toArray, List.append_toArray, List.nil_append, List.cons_append]
  gi_wp2_with ((try refine ⟨trivial, hdd _, ?_⟩); gi_at_call 52; refine HG.out.mono ?_; clear HG; rintro e W1 (⟨rfl, hJ1, hK1⟩ | ⟨rfl, q, hq1, hx1⟩))
  · go_end0
    exact ⟨⟨_, rfl⟩, .inl ⟨_, rfl, by simpa using hJ1⟩⟩
  · go_end0
    exact ⟨⟨_, rfl⟩, .inr ⟨q, hq1, by simpa using hx1⟩⟩

set_option maxRecDepth 100000 in
set_option maxHeartbeats 2000000 in
theorem all_seq (M : Nat) (X Y Q : Nat → Prop) (hXY : ∀ b, X b → Y b) (hq : ∀ b, Q b → ¬ X b) (v : V) (B : Nat) (hB' : ¬ X B) (w : World) (hB : BoxV w B v) (hl : LiesIn Q w v) (hM : ∀ b, Q b → b < M) (hQ : ∀ b, Q b → b < w.heap.size) (hX : ∀ b, Y b → b < w.heap.size) :
    SeqW Tryd.prog 44 #[.pointer (some ⟨B, 0, none⟩)] encV (fun y lo W => LiesIn (fun b => lo ≤ b ∧ b < W.heap.size) W y.2 ∧ Owns W lo W.heap.size y.2.slots ∧ ∃ q ∈ v.all 1, q.1 = y.1 ∧ q.2.t = y.2.t) M X Y (fun xs => bare xs = bare (v.all 1)) (fun pre => bare pre <+: bare (v.all 1)) (v.all 1).length w := by
  intro yl n J Jx W hyl hW hJ hJx hY h0
  have hsz := hW.size
  have hlt := hB.lt
  have hl1 : LiesIn Q W v := hl.keep (fun b hb o => hW.cell (p := ⟨b, o, none⟩) (hQ b hb)) (fun _ h => h)
  have hB1 := hB.below hW hlt
  obtain ⟨c0, c1, c2, c3, c4⟩ := hB1.cells
  have hdd : ∀ k : Nat, (Fence.wide.depth.isSome = true → 1 ≤ k) := fun k h => by cases h
  refine callsIn_of_wp_marks Tryd.func44 rfl trivial ?_ rfl
  simp only [Tryd.ntmps44, List.size_toArray, List.length_cons, List.length_nil, Nat.reduceAdd, Nat.reduceSub, Array.replicate_succ, Array.replicate_zero, List.push_toArray, List.append_toArray, List.nil_append, List.cons_append]
  have hBW : B < W.heap.size := by omega
  gi_wp2_with ((first | refine ⟨trivial, hdd _, ?_⟩ | refine ⟨trivial, ?_⟩); gi_at_call 34; refine (callsIn_wide.2 (walk_any v _)).mono ?_; rintro e w' ⟨rfl, rfl⟩)
  obtain ⟨W0, hW0⟩ : ∃ W0, (W.alloc (Obj.cells #[.func (.yield yl) #[] #[]] 63)).alloc (Obj.cells #[.int .i64 v.k, .int .u64 v.n, .string v.s, .slice v.a v.l.length v.c, .int .i64 v.e] 25) = W0 := ⟨_, rfl⟩
  have hs0 : W0.heap.size = W.heap.size + 2 := by rw [← hW0]; simp
  have hb0 : Below W.heap.size W W0 := by rw [← hW0]; exact bel2 (Below.refl _ _) (Nat.le_refl _) _ _
  have hB0 : BoxV W0 (W.heap.size + 1) v := by rw [← hW0]; exact heap_at1 _ _ _
  have hY0 : Boxed W0 W.heap.size 63 (.func (.yield yl) #[] #[]) := by rw [← hW0]; exact heap_past (World.alloc_heap_new _ _) _
  have hJ0 : J [] W0 := by rw [← hW0]; exact hJ.alloc _ (hJ.alloc _ h0)
  rw [hW0]
  clear hW0
  have hQW : ∀ b, Q b → b < W.heap.size := fun b h => by have := hQ b h; omega
  have hXW : ∀ b, Y b → b < W.heap.size := fun b h => by have := hX b h; omega
  have hl0 : LiesIn Q W0 v := hl1.keep (fun b hb o => hb0.cell (p := ⟨b, o, none⟩) (hQW b hb)) (fun _ h => h)
  have hst := walk_seq M X (fun b => Y b ∨ b = yl) Q (fun y => LiesIn Q W0 y.2 ∧ y ∈ v.all 1) hq v (fun y hy => ⟨all_lies 1 v hl0 y hy, hy⟩) (W.heap.size + 1) W0 hB0 hl0 hM (fun b h => by have := hQW b h; omega) (fun b h => by have := hXW b (hXY b h); omega)
  refine range_own (gf := 51) (lb := #[.pointer (some ⟨W.heap.size + 1, 0, none⟩)]) rfl (enters_of Tryd.func51 (by kernel_rfl) rfl) hst (fun b h => by have := hXW b (hXY b h); omega) (fun b h => .inl (hXY b h)) (fun b h => h.elim (fun h => by have := hXW b h; omega) (fun h => by omega)) (fun _ => rfl)
    (fun pre W' => (∃ p, bare p = bare pre ∧ J p W') ∧ Boxed W' W.heap.size 63 (.func (.yield yl) #[] #[]) ∧ KpX M X W0 W')
    (fun c pre W' => c = .ret ∧ ∃ p, bare p = bare pre ∧ Jx p W')
    ?hI ?hIx ⟨⟨[], rfl, hJ0⟩, hY0, KpX.refl _ _ _⟩
    (fun _ x a' W' => (LiesIn Q W0 x.2 ∧ x ∈ v.all 1) ∧ ∃ Bx, BoxV W' Bx x.2 ∧ a' = { tmps := #[.func (.yield yl) #[] #[], .pointer (some ⟨B, 0, none⟩), .pointer (some ⟨W.heap.size, 0, none⟩), .int .i64 x.1, .pointer (some ⟨Bx, 0, none⟩), .agg #[.int .i64 v.k, .int .u64 v.n, .string v.s, .slice v.a v.l.length v.c, .int .i64 v.e], .func (.func 51) #[] #[.pointer (some ⟨W.heap.size + 1, 0, none⟩)], .int .i64 x.1, .agg #[.int .i64 x.2.k, .int .u64 x.2.n, .string x.2.s, .slice x.2.a x.2.l.length x.2.c, .int .i64 x.2.e], undef, undef, undef, undef, undef, undef], defers := [] })
    ?hAx ?assign ?body ?done ?stop
  case hI =>
    refine OwnFrom.and ?_ (OwnFrom.and (Own.from (boxed_own _ _ _) _) ?_)
    · rintro pre A B row ⟨p, h1, h2⟩ hg hr
      exact ⟨p, h1, hJ p A B row h2 hg (fun r e => ⟨by have := (hr r e).1; omega, (hr r e).2⟩)⟩
    · rintro pre A B row h hg hr
      refine ⟨Nat.le_trans h.1 hg.size, fun b o hx hn hb => ?_⟩
      have hA := h.2 b o hx hn hb
      exact (hg.block b (Array.getElem?_eq_some_iff.1 hA).1 (fun e => by have := (hr b e.symm).1; have := (Array.getElem?_eq_some_iff.1 hb).1; omega)).trans hA
  case hIx =>
    rintro c pre A B row ⟨h0, p, h1, h2⟩ hg hr
    exact ⟨h0, p, h1, hJx p A B row h2 hg (fun r e => ⟨by have := (hr r e).1; omega, (hr r e).2⟩)⟩
  case hAx =>
    rintro pre x a' _ A B row ⟨h1, Bx, h2, h3⟩ hg hr
    refine ⟨h1, Bx, ?_, h3⟩
    exact (hg.block Bx h2.lt (fun e => by
      obtain ⟨_, o, ho, hc⟩ := hr Bx e.symm
      rw [show A.heap[Bx]? = _ from h2] at ho
      cases ho
      cases hc)).trans h2
  case assign =>
    rintro l pre x Wp W' K _ _ hR ⟨⟨p, hp, hj⟩, hv, hk⟩ hK
    simp only [encV, V.val_eq]
    gi_wp2
    exact hK _ _ ((KpX.refl _ _ W').alloc _) ⟨⟨p, hp, hJ.alloc _ hj⟩, hv.alloc _, hk.alloc _⟩ ⟨hR, W'.heap.size, BoxV.new W' x.2, rfl⟩
  case body =>
    rintro l pre x a' W' hl' hr ⟨⟨p, hp, hj⟩, hv, hk⟩ ⟨⟨hx, hxm⟩, Bx, bX, rfl⟩ hlt'
    obtain ⟨d0, d1, d2, d3, d4⟩ := bX.cells
    have hc := hv.cell
    have HC : Hid (∀ W2, Below W'.heap.size W' W2 → Calls Tryd.prog 37 #[.agg #[.int .i64 x.2.k, .int .u64 x.2.n, .string x.2.s, .slice x.2.a x.2.l.length x.2.c, .int .i64 x.2.e]] W2 fun e w1 => ∃ y : V, e = .returned (.agg #[.int .i64 y.k, .int .u64 y.n, .string y.s, .slice y.a y.l.length y.c, .int .i64 y.e]) ∧
        w1.cell? ⟨W.heap.size, 0, none⟩ = some (.func (.yield yl) #[] #[]) ∧ YieldAt Fence.wide (n - 1) Tryd.prog yl #[.int .i64 x.1, .agg #[.int .i64 y.k, .int .u64 y.n, .string y.s, .slice y.a y.l.length y.c, .int .i64 y.e]] w1 fun e W3 =>
          ∃ t : Bool, e = .returned (.bool t) ∧ Hid ((t = true → KpX M X W' W3 ∧ (∃ p, bare p = bare (pre ++ [x]) ∧ J p W3) ∧ Boxed W3 W.heap.size 63 (.func (.yield yl) #[] #[]) ∧ KpX M X W0 W3) ∧
          (t = false → KpX M (fun b => Y b ∨ b = yl) W' W3 ∧ ∃ p, bare p = bare (pre ++ [x]) ∧ Jx p W3))) := by
      intro W2 hb2
      have hsz2 := hb2.size
      have hlx : Lies W0.heap.size W2 x.2 := by
        refine LiesIn.keep (lies_kp hx (hk.trans (KpX.of_below hb2)) hq hM) (fun _ _ _ => rfl) (fun b h => ?_)
        have := hQW b h
        show b < W0.heap.size
        omega
      have hcp := copiedO_any x.2 W0.heap.size W2 (by have := hk.1; omega) hlx
      rw [V.val_eq] at hcp
      refine hcp.mono ?_
      rintro e w1 ⟨y, rfl, HY, hb3⟩
      obtain ⟨⟨ht, hly⟩, hown⟩ := HY.out
      have hk1 : ∀ Z, KpX M Z W' w1 := fun Z => (KpX.of_below hb2).trans (KpX.of_below hb3)
      have hj1 : J p w1 := hJ p W2 w1 none (hJ p W' W2 none hj ⟨hb2.os, hb2.tape, hb2.output, hb2.size, fun k hk _ => hb2.block k hk⟩ (fun r e => by cases e)) ⟨hb3.os, hb3.tape, hb3.output, hb3.size, fun k hk _ => hb3.block k hk⟩ (fun r e => by cases e)
      have hbare : bare (p ++ [(x.1, y)]) = bare (pre ++ [x]) := by
        unfold bare at hp ⊢
        rw [List.map_append, List.map_append, hp]
        simp [ht]
      have nW : ¬ X W.heap.size := fun h => by have := hXW _ (hXY _ h); omega
      have hlen : p.length < (v.all 1).length := by
        have := congrArg List.length hp
        simp [bare] at this
        omega
      refine ⟨y, rfl, by simp [World.cell?, (hk1 X).2 _ _ nW (.inr (keeps_cells (by decide))) hv], ?_⟩
      have hyy := hY (n - 1) p (x.1, y) W' w1 hj (belOn hb2 hsz2 hb3) ⟨hly.keep (fun _ _ _ => rfl) (fun b h => ⟨Nat.le_trans hsz2 h.1, h.2⟩), hown.lower hsz2, x, hxm, rfl, ht.symm⟩ hlen
      simp only [encV, V.val_eq] at hyy
      refine YieldAt.mono hyy ?_
      rintro e W3 (⟨rfl, h1, h2⟩ | ⟨rfl, h1, h2⟩)
      · exact ⟨true, rfl, fun _ => ⟨(hk1 X).trans h2, ⟨_, hbare, h1⟩, h2.2 _ _ nW (.inr (keeps_cells (by decide))) ((hk1 X).2 _ _ nW (.inr (keeps_cells (by decide))) hv), hk.trans ((hk1 X).trans h2)⟩, fun h => by cases h⟩
      · exact ⟨false, rfl, (fun h => by cases h), fun _ => ⟨(hk1 _).trans h2, _, hbare, h1⟩⟩
    have hmx : Tryd.prog.follows .mixedOrders = true := by kernel_rfl
    gi_wp2_with fail
    gi_region_with_o (first
      | ((try refine ⟨trivial, hdd _, ?_⟩); gi_at_call 37; refine (CallsIn.inRound l (callsIn_wide.2 (HC.out _ (by first | exact Below.refl _ _ | exact (Below.refl _ _).drew | exact (Below.refl _ _).drew.drew)))).mono ?_; rintro e w1 ⟨y, rfl, hc1, fn, tmps, assign, body, hy, hR⟩)
      | ((try refine ⟨hdd _, ?_⟩); refine (round_in l hR).mono ?_; rintro e W3 ⟨t, rfl, HT⟩))
    all_goals
      cases t with
      | true =>
        gi_wp2
        exact ⟨(HT.out.1 (by simp)).1, (HT.out.1 (by simp)).2⟩
      | false =>
        gi_wp2
        exact ⟨(HT.out.2 (by simp)).1, rfl, (HT.out.2 (by simp)).2⟩
  case done =>
    rintro D ys W' hD rfl ⟨⟨p, hp, hj⟩, hv, hk⟩ hK
    gi_wp2
    refine ⟨by simp, .inl ⟨_, _, rfl, run_takeDeferred hK, ?_⟩⟩
    exact ⟨.tuple #[], by simp [results, Tryd.f44, go_sem], ⟨_, rfl⟩, .inl ⟨p, hp, hJ.putObj _ hj (by omega) hK rfl⟩⟩
  case stop =>
    rintro D c pre W' hD hpre ⟨rfl, p, hp, hj⟩ hK
    gi_wp2
    refine ⟨by simp, .inl ⟨_, _, rfl, run_takeDeferred hK, ?_⟩⟩
    refine ⟨.tuple #[], by simp [results, Tryd.f44, go_sem], ⟨_, rfl⟩, .inr ⟨p, ?_, hJx.putObj _ hj (by omega) hK rfl⟩⟩
    rw [hp]
    exact hpre.map _
end Go.Proofs.YtaedlnliglmomaaDoor.B
