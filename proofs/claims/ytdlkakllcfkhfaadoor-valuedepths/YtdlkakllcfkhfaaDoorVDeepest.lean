/- longshorelaw02.deepest. -/
import Derived.Test.YtdlkakllcfkhfaaDoorVAll
import Derived.Test.YtdlkakllcfkhfaaDoorVList
import Derived.Test.YtdlkakllcfkhfaaDoorVDep
namespace Go.Proofs.YtdlkakllcfkhfaaDoor
open Go.RowKit Go.Shelf
set_option linter.unusedVariables false
attribute [local go_sem] Oper.semAt_some

theorem mx_bare {l m : List (Int × V)} (h : bare l = bare m) : mx l = mx m := by
  have e : l.map (·.1) = m.map (·.1) := by
    have := congrArg (List.map Prod.fst) h
    unfold bare at this
    rw [List.map_map, List.map_map] at this
    exact this
  have f : ∀ l : List (Int × V), mx l = List.foldl (fun m x => max m x) 0 (l.map (·.1)) := fun l => by unfold mx; rw [List.foldl_map]
  rw [f, f, e]

set_option maxRecDepth 100000 in
set_option maxHeartbeats 2000000 in
theorem deepest_any (v : V) (n₀ : Nat) (w : World) (hn : n₀ ≤ w.heap.size) (hl : Lies n₀ w v) (hw : T.wt v.t ≤ 100000) :
    Calls Tryd.prog 26 #[v.val] w fun e w' => e = .returned (.int .i64 (T.dep v.t : Int)) ∧ Below w.heap.size w w' := by
  refine (callsIn_wide (n := 3)).1 ?_
  have hdd : ∀ k : Nat, (Fence.wide.depth.isSome = true → 1 ≤ k) := fun k h => by cases h
  rw [V.val_eq]
  have HL := hide hl
  clear hl
  refine callsIn_of_wp_marks Tryd.func26 rfl trivial ?_ rfl
  simp only [Tryd.ntmps26, List.size_toArray, List.length_cons, List.length_nil, Nat.reduceAdd, Nat.reduceSub, Array.replicate_succ, Array.replicate_zero, List.push_toArray, List.append_toArray, List.nil_append, List.cons_append]
  gi_wp2_with fail
  refine ⟨trivial, ?_⟩
  have hb1 := bel1 (Below.refl w.heap.size w) (Nat.le_refl _) (Obj.cells #[.int .i64 v.k, .int .u64 v.n, .string v.s, .slice v.a v.l.length v.c, .int .i64 v.e] 25)
  refine (callsIn_wide.2 (allf_any v n₀ _ (by simp; omega) (HL.out.keep hb1 hn))).mono ?_
  rintro e w2 ⟨B, y2, rfl, HY2, hb3⟩
  have hsz2 : w.heap.size + 1 ≤ w2.heap.size := by have := hb3.size; simpa using this
  have hb4 : Below w.heap.size w w2 := hb1.trans (hb3.mono (by simp))
  clear hb1 hb3
  have heq : ∀ u, (binOp BinOp.eql 46 (.func (.func 52) #[] #[.pointer (some ⟨B, 0, none⟩)]) .nilFunc).run Tryd.prog u = .ok (.bool false) u := fun u => by
    first | rfl | (simp [binOp, Tryd.underlying46, go_sem]; done)
  gi_wp2_with fail
  obtain ⟨hy2, hB2, hB3, hl2⟩ := HY2.out
  simp only [World.size_alloc] at hB3 hl2
  have hBlt := hB2.lt
  have hb5 := bel1 (Below.refl w2.heap.size w2) (Nat.le_refl _) (Obj.cells #[.int .i64 0] 3)
  have hN0 : Boxed (w2.alloc (Obj.cells #[.int .i64 0] 3)) w2.heap.size 3 (.int .i64 0) := World.alloc_heap_new _ _
  obtain ⟨W0, hW0⟩ : ∃ W0, w2.alloc (Obj.cells #[.int .i64 0] 3) = W0 := ⟨_, rfl⟩
  have hs0 : W0.heap.size = w2.heap.size + 1 := by rw [← hW0]; simp
  rw [hW0] at hb5 hN0
  rw [hW0]
  clear hW0
  have hst := all_seq (fun b => b = w2.heap.size) (fun b => b = w2.heap.size) (fun b => w.heap.size + 1 ≤ b ∧ b < w2.heap.size) (fun _ h => h) (fun b h1 h2 => by omega) y2 B (by show ¬ B = w2.heap.size; omega) W0 (hB2.below hb5 hBlt) (hl2.keep (fun b hb o => hb5.cell (p := ⟨b, o, none⟩) hb.2) (fun _ h => h)) (fun b h => by omega) (fun b h => by omega)
  refine range_own (gf := 52) (lb := #[.pointer (some ⟨B, 0, none⟩)]) rfl (enters_of Tryd.func52 (by kernel_rfl) rfl) hst (fun b h => by omega) (fun _ h => h) (fun b h => by omega) (fun _ => rfl)
    (fun pre W => Boxed W w2.heap.size 3 (.int .i64 (mx pre)) ∧ Below w2.heap.size w2 W) (fun _ _ _ => False)
    (OwnFrom.and (Own.from (boxed_own _ _ _) _) (ownFrom_below (Nat.le_refl _) (by omega))) (fun _ _ _ _ _ hs _ _ => hs) ⟨hN0, hb5⟩
    (fun x a' _ => a' = { tmps := #[.agg #[.int .i64 v.k, .int .u64 v.n, .string v.s, .slice v.a v.l.length v.c, .int .i64 v.e], .pointer (some ⟨w.heap.size, 0, none⟩), .int .i64 0, .func (.func 52) #[] #[.pointer (some ⟨B, 0, none⟩)], .pointer (some ⟨w2.heap.size, 0, none⟩), .int .i64 x.1, .agg #[.int .i64 v.k, .int .u64 v.n, .string v.s, .slice v.a v.l.length v.c, .int .i64 v.e], .func (.func 52) #[] #[.pointer (some ⟨B, 0, none⟩)], .func (.func 52) #[] #[.pointer (some ⟨B, 0, none⟩)], .bool false, .func (.func 52) #[] #[.pointer (some ⟨B, 0, none⟩)], .int .i64 x.1, x.2.val, undef, undef, undef, undef], defers := [] })
    (fun x a' _ A B row hs _ _ => hs) ?assign ?body ?done ?stop
  case assign =>
    intro l pre x W K hR hi hK
    simp only [encV]
    gi_wp2
    exact hK _ _ (KpX.refl _ _) hi rfl
  case body =>
    rintro l pre x a' W hl' _ ⟨hv, hB⟩ rfl hlt
    have hc := hv.cell
    have hf := hv.frozen
    gi_wp2
    all_goals
      refine ⟨KpX.setCell (X := fun b => b = w2.heap.size) (KpX.refl _ W) rfl _ _, ?_, hB.setCell (p := ⟨w2.heap.size, 0, none⟩) (Nat.le_refl _) _⟩
      rw [mx_snoc]
      first
        | (rw [show max (mx pre) x.1 = x.1 by omega]; exact hv.set _)
        | (rw [show max (mx pre) x.1 = mx pre by omega]; exact hv.set _)
  case stop =>
    rintro D c pre W _ _ h _
    exact h.elim
  case done =>
    rintro D ys W hD hys ⟨hv, hB⟩ hK
    have hm : mx ys = (T.dep v.t : Int) := by
      rw [mx_bare hys, mx_all y2 1 (by omega) (by rw [hy2]; omega), hy2]
      omega
    rw [hm] at hv
    have hc := hv.cell
    gi_wp2
    refine ⟨by simp, .inl ⟨_, _, rfl, run_takeDeferred hK, ?_⟩⟩
    have hszW := hB.size
    exact ⟨_, results_tmp rfl _ _ _, rfl, (belOn hb4 (by omega) hB).trans (belowK_b (w := w) (Nat.le_refl _) W D _ _ (by omega) hK rfl rfl)⟩
end Go.Proofs.YtdlkakllcfkhfaaDoor
