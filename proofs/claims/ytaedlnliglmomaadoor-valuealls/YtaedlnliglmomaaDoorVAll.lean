/- value.All. -/
import Derived.Test.YtaedlnliglmomaaDoorVWalk
import Derived.Test.YtaedlnliglmomaaDoorVCopy
import Derived.Test.YtaedlnliglmomaaDoorVCheck
namespace Go.Proofs.YtaedlnliglmomaaDoor
open Go.RowKit Go.Shelf
set_option linter.unusedVariables false
attribute [local go_sem] Oper.semAt_some

theorem round_in {m : Nat} {P : Program} {l : Nat} {f : FuncId} {tmps : Array Value} {assign body : Code} {w : World} {R : Ending → World → Prop} (l' : Nat)
    (h : RoundIn Fence.wide m P l f tmps assign body w R) : RoundIn (Fence.wide.inRound l') m P l f tmps assign body w R := h
/-- a row of what is told, without its places -/
def bare (l : List (Int × V)) : List (Int × T) := l.map fun y => (y.1, y.2.t)

set_option maxRecDepth 100000 in
set_option maxHeartbeats 2000000 in
theorem all_seq (X Y Q : Nat → Prop) (hXY : ∀ b, X b → Y b) (hq : ∀ b, Q b → ¬ X b) (v : V) (B : Nat) (hB' : ¬ X B) (w : World) (hB : BoxV w B v) (hl : LiesIn Q w v) (hQ : ∀ b, Q b → b < w.heap.size) (hX : ∀ b, Y b → b < w.heap.size) :
    SeqW Tryd.prog 44 #[.pointer (some ⟨B, 0, none⟩)] encV (fun y W => LiesIn (fun b => b < W.heap.size) W y.2) X Y (fun xs => bare xs = bare (v.all 1)) (fun pre => bare pre <+: bare (v.all 1)) (v.all 1).length w := by
  intro yl n J Jx W hyl hW hJ hJx hY h0
  have hsz := hW.size
  have hlt := hB.lt
  have hl1 : LiesIn Q W v := hl.keep (fun b hb o => hW.cell (p := ⟨b, o, none⟩) (hQ b hb)) (fun _ h => h)
  have hB1 := hB.below hW hlt
  obtain ⟨c0, c1, c2, c3, c4⟩ := hB1.cells
  have hdd : ∀ k : Nat, (Fence.wide.depth.isSome = true → 1 ≤ k) := fun k h => by cases h
  refine callsIn_of_wp_marks Tryd.func44 rfl trivial ?_ rfl
  simp only [Tryd.ntmps44, List.size_toArray, List.length_cons, List.length_nil, Nat.reduceAdd, Nat.reduceSub, Array.replicate_succ, Array.replicate_zero, List.push_toArray, List.append_toArray, List.nil_append, List.cons_append]
  have hBW : B < W.heap.size := by omega
  gi_wp2_with ((first | refine ⟨trivial, hdd _, ?_⟩ | refine ⟨trivial, ?_⟩); gi_at_call 34; refine (callsIn_wide.2 (walk_any v _)).mono ?_; rintro e w' ⟨rfl, rfl⟩)
  obtain ⟨W0, hW0⟩ : ∃ W0, (W.alloc (Obj.cells #[.func (.yield yl) #[] #[]] 63)).alloc (Obj.cells #[.int .i64 v.k, .int .u64 v.n, .string v.s, .slice v.a v.l.length v.c, .int .i64 v.e] 25) = W0 := ⟨_, rfl⟩
  have hs0 : W0.heap.size = W.heap.size + 2 := by rw [← hW0]; simp
  have hb0 : Below W.heap.size W W0 := by rw [← hW0]; exact bel2 (Below.refl _ _) (Nat.le_refl _) _ _
  have hB0 : BoxV W0 (W.heap.size + 1) v := by rw [← hW0]; exact heap_at1 _ _ _
  have hY0 : Boxed W0 W.heap.size 63 (.func (.yield yl) #[] #[]) := by rw [← hW0]; exact heap_past (World.alloc_heap_new _ _) _
  have hJ0 : J [] W0 := by rw [← hW0]; exact hJ.alloc _ (hJ.alloc _ h0)
  rw [hW0]
  clear hW0
  have hQW : ∀ b, Q b → b < W.heap.size := fun b h => by have := hQ b h; omega
  have hXW : ∀ b, Y b → b < W.heap.size := fun b h => by have := hX b h; omega
  have hl0 : LiesIn Q W0 v := hl1.keep (fun b hb o => hb0.cell (p := ⟨b, o, none⟩) (hQW b hb)) (fun _ h => h)
  have hst := walk_seq X (fun b => Y b ∨ b = yl) Q (fun y => LiesIn Q W0 y.2) hq v (fun y hy => all_lies 1 v hl0 y hy) (W.heap.size + 1) W0 hB0 hl0 (fun b h => by have := hQW b h; omega) (fun b h => by have := hXW b (hXY b h); omega)
  refine range_own (gf := 51) (lb := #[.pointer (some ⟨W.heap.size + 1, 0, none⟩)]) rfl (enters_of Tryd.func51 (by kernel_rfl) rfl) hst (fun b h => by have := hXW b (hXY b h); omega) (fun b h => .inl (hXY b h)) (fun b h => h.elim (fun h => by have := hXW b h; omega) (fun h => by omega)) (fun _ => rfl)
    (fun pre W' => (∃ p, bare p = bare pre ∧ J p W') ∧ Boxed W' W.heap.size 63 (.func (.yield yl) #[] #[]) ∧ KpX X W0 W')
    (fun c pre W' => c = .ret ∧ ∃ p, bare p = bare pre ∧ Jx p W')
    ?hI ?hIx ⟨⟨[], rfl, hJ0⟩, hY0, KpX.refl _ _⟩
    (fun x a' W' => LiesIn Q W0 x.2 ∧ ∃ Bx, BoxV W' Bx x.2 ∧ a' = { tmps := #[.func (.yield yl) #[] #[], .pointer (some ⟨B, 0, none⟩), .pointer (some ⟨W.heap.size, 0, none⟩), .int .i64 x.1, .pointer (some ⟨Bx, 0, none⟩), .agg #[.int .i64 v.k, .int .u64 v.n, .string v.s, .slice v.a v.l.length v.c, .int .i64 v.e], .func (.func 51) #[] #[.pointer (some ⟨W.heap.size + 1, 0, none⟩)], .int .i64 x.1, .agg #[.int .i64 x.2.k, .int .u64 x.2.n, .string x.2.s, .slice x.2.a x.2.l.length x.2.c, .int .i64 x.2.e], undef, undef, undef, undef, undef, undef], defers := [] })
    ?hAx ?assign ?body ?done ?stop
  case hI =>
    refine OwnFrom.and ?_ (OwnFrom.and (Own.from (boxed_own _ _ _) _) ?_)
    · rintro pre A B row ⟨p, h1, h2⟩ hg hr
      exact ⟨p, h1, hJ p A B row h2 hg (fun r e => ⟨by have := (hr r e).1; omega, (hr r e).2⟩)⟩
    · rintro pre A B row h hg hr
      refine ⟨Nat.le_trans h.1 hg.size, fun b o hx hb => ?_⟩
      have hA := h.2 b o hx hb
      exact (hg.block b (Array.getElem?_eq_some_iff.1 hA).1 (fun e => by have := (hr b e.symm).1; have := (Array.getElem?_eq_some_iff.1 hb).1; omega)).trans hA
  case hIx =>
    rintro c pre A B row ⟨h0, p, h1, h2⟩ hg hr
    exact ⟨h0, p, h1, hJx p A B row h2 hg (fun r e => ⟨by have := (hr r e).1; omega, (hr r e).2⟩)⟩
  case hAx =>
    rintro x a' _ A B row ⟨h1, Bx, h2, h3⟩ hg hr
    refine ⟨h1, Bx, ?_, h3⟩
    exact (hg.block Bx h2.lt (fun e => by
      obtain ⟨_, o, ho, hc⟩ := hr Bx e.symm
      rw [show A.heap[Bx]? = _ from h2] at ho
      cases ho
      cases hc)).trans h2
  case assign =>
    rintro l pre x W' K hR ⟨⟨p, hp, hj⟩, hv, hk⟩ hK
    simp only [encV, V.val_eq]
    gi_wp2
    exact hK _ _ ((KpX.refl _ W').alloc _) ⟨⟨p, hp, hJ.alloc _ hj⟩, hv.alloc _, hk.alloc _⟩ ⟨hR, W'.heap.size, BoxV.new W' x.2, rfl⟩
  case body =>
    rintro l pre x a' W' hl' hr ⟨⟨p, hp, hj⟩, hv, hk⟩ ⟨hx, Bx, bX, rfl⟩ hlt'
    obtain ⟨d0, d1, d2, d3, d4⟩ := bX.cells
    have hc := hv.cell
    have HC : Hid (∀ W2, Below W'.heap.size W' W2 → Calls Tryd.prog 37 #[.agg #[.int .i64 x.2.k, .int .u64 x.2.n, .string x.2.s, .slice x.2.a x.2.l.length x.2.c, .int .i64 x.2.e]] W2 fun e w1 => ∃ y : V, e = .returned (.agg #[.int .i64 y.k, .int .u64 y.n, .string y.s, .slice y.a y.l.length y.c, .int .i64 y.e]) ∧
        w1.cell? ⟨W.heap.size, 0, none⟩ = some (.func (.yield yl) #[] #[]) ∧ YieldAt Fence.wide (n - 1) Tryd.prog yl #[.int .i64 x.1, .agg #[.int .i64 y.k, .int .u64 y.n, .string y.s, .slice y.a y.l.length y.c, .int .i64 y.e]] w1 fun e W3 =>
          ∃ t : Bool, e = .returned (.bool t) ∧ Hid ((t = true → KpX X W' W3 ∧ (∃ p, bare p = bare (pre ++ [x]) ∧ J p W3) ∧ Boxed W3 W.heap.size 63 (.func (.yield yl) #[] #[]) ∧ KpX X W0 W3) ∧
          (t = false → KpX (fun b => Y b ∨ b = yl) W' W3 ∧ ∃ p, bare p = bare (pre ++ [x]) ∧ Jx p W3))) := by
      intro W2 hb2
      have hsz2 := hb2.size
      have hlx : Lies W0.heap.size W2 x.2 := by
        refine LiesIn.keep (LiesIn.kp hx (hk.trans (KpX.of_below hb2)) hq) (fun _ _ _ => rfl) (fun b h => ?_)
        have := hQW b h
        show b < W0.heap.size
        omega
      have hcp := copied_any x.2 W0.heap.size W2 (by have := hk.1; omega) hlx
      rw [V.val_eq] at hcp
      refine hcp.mono ?_
      rintro e w1 ⟨y, rfl, HY, hb3⟩
      obtain ⟨ht, hly⟩ := HY.out
      have hk1 : ∀ Z, KpX Z W' w1 := fun Z => (KpX.of_below hb2).trans (KpX.of_below hb3)
      have hj1 : J p w1 := hJ p W2 w1 none (hJ p W' W2 none hj ⟨hb2.os, hb2.tape, hb2.output, hb2.size, fun k hk _ => hb2.block k hk⟩ (fun r e => by cases e)) ⟨hb3.os, hb3.tape, hb3.output, hb3.size, fun k hk _ => hb3.block k hk⟩ (fun r e => by cases e)
      have hbare : bare (p ++ [(x.1, y)]) = bare (pre ++ [x]) := by
        unfold bare at hp ⊢
        rw [List.map_append, List.map_append, hp]
        simp [ht]
      have nW : ¬ X W.heap.size := fun h => by have := hXW _ (hXY _ h); omega
      have hlen : p.length < (v.all 1).length := by
        have := congrArg List.length hp
        simp [bare] at this
        omega
      refine ⟨y, rfl, (hk1 X).cell nW hc, ?_⟩
      have hyy := hY (n - 1) p (x.1, y) w1 (hly.keep (fun _ _ _ => rfl) (fun b h => h.2)) hj1 hlen
      simp only [encV, V.val_eq] at hyy
      refine YieldAt.mono hyy ?_
      rintro e W3 (⟨rfl, h1, h2⟩ | ⟨rfl, h1, h2⟩)
      · exact ⟨true, rfl, fun _ => ⟨(hk1 X).trans h2, ⟨_, hbare, h1⟩, h2.2 _ _ nW ((hk1 X).2 _ _ nW hv), hk.trans ((hk1 X).trans h2)⟩, fun h => by cases h⟩
      · exact ⟨false, rfl, (fun h => by cases h), fun _ => ⟨(hk1 _).trans h2, _, hbare, h1⟩⟩
    have hmx : Tryd.prog.follows .mixedOrders = true := by kernel_rfl
    gi_wp2_with fail
    gi_region_with_o (first
      | ((try refine ⟨trivial, hdd _, ?_⟩); gi_at_call 37; refine (CallsIn.inRound l (callsIn_wide.2 (HC.out _ (by first | exact Below.refl _ _ | exact (Below.refl _ _).drew | exact (Below.refl _ _).drew.drew)))).mono ?_; rintro e w1 ⟨y, rfl, hc1, fn, tmps, assign, body, hy, hR⟩)
      | ((try refine ⟨hdd _, ?_⟩); refine (round_in l hR).mono ?_; rintro e W3 ⟨t, rfl, HT⟩))
    all_goals
      cases t with
      | true =>
        gi_wp2
        exact ⟨(HT.out.1 (by simp)).1, (HT.out.1 (by simp)).2⟩
      | false =>
        gi_wp2
        exact ⟨(HT.out.2 (by simp)).1, rfl, (HT.out.2 (by simp)).2⟩
  case done =>
    rintro D ys W' hD rfl ⟨⟨p, hp, hj⟩, hv, hk⟩ hK
    gi_wp2
    refine ⟨by simp, .inl ⟨_, _, rfl, run_takeDeferred hK, ?_⟩⟩
    exact ⟨.tuple #[], by simp [results, Tryd.f44, go_sem], ⟨_, rfl⟩, .inl ⟨p, hp, hJ.putObj _ hj (by omega) hK rfl⟩⟩
  case stop =>
    rintro D c pre W' hD hpre ⟨rfl, p, hp, hj⟩ hK
    gi_wp2
    refine ⟨by simp, .inl ⟨_, _, rfl, run_takeDeferred hK, ?_⟩⟩
    refine ⟨.tuple #[], by simp [results, Tryd.f44, go_sem], ⟨_, rfl⟩, .inr ⟨p, ?_, hJx.putObj _ hj (by omega) hK rfl⟩⟩
    rw [hp]
    exact hpre.map _
end Go.Proofs.YtaedlnliglmomaaDoor
