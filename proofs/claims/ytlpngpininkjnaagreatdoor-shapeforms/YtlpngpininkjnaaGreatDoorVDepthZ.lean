import Derived.Test.YtlpngpininkjnaaGreatDoorVWalkZ

/- value.Depth. -/
namespace Go.Proofs.YtlpngpininkjnaaGreatDoor
open Go.RowKit Go.Shelf
set_option linter.unusedVariables false
attribute [local go_sem] Oper.semAt_some

/-- the greatest depth told -/
def mx : List (Int × V) → Int := List.foldl (fun m x => max m x.1) 0
theorem mx_snoc (pre : List (Int × V)) (x : Int × V) : mx (pre ++ [x]) = max (mx pre) x.1 := by simp [mx]

set_option maxRecDepth 100000 in
set_option maxHeartbeats 2000000 in
theorem depth_any (v : V) (n₀ : Nat) (w : World) (hn : n₀ ≤ w.heap.size) (hl : Lies n₀ w v) :
    Calls Tryz.prog 21 #[v.val] w fun e w' => e = .returned (.int .i64 (mx (v.all 1))) ∧ Below w.heap.size w w' := by
  refine (callsIn_wide (n := 3)).1 ?_
  have hdd : ∀ k : Nat, (Fence.wide.depth.isSome = true → 1 ≤ k) := fun k h => by cases h
  rw [V.val_eq]
  refine callsIn_of_wp_marks Tryz.func21 rfl trivial ?_ rfl
  simp only [Tryz.ntmps21, List.size_toArray, List.length_cons, List.length_nil, Nat.reduceAdd, Nat.reduceSub, Array.replicate_succ, Array.replicate_zero, List.push_toArray, List.append_toArray, List.nil_append, List.cons_append]
  gi_wp2_with ((first | refine ⟨trivial, hdd _, ?_⟩ | refine ⟨trivial, ?_⟩); gi_at_call 23; refine (callsIn_wide.2 (walk_any v _)).mono ?_; rintro e w' ⟨rfl, rfl⟩)
  obtain ⟨W0, hW0⟩ : ∃ W0, ((w.alloc (Obj.cells #[.int .i64 v.k, .int .u64 v.n, .string v.s, .slice v.a v.l.length v.c, .int .i64 v.e] 30)).alloc (Obj.cells #[.int .i64 0] 3)).alloc (Obj.cells #[.int .i64 v.k, .int .u64 v.n, .string v.s, .slice v.a v.l.length v.c, .int .i64 v.e] 30) = W0 := ⟨_, rfl⟩
  have hs0 : W0.heap.size = w.heap.size + 3 := by rw [← hW0]; simp
  have hb0 : Below w.heap.size w W0 := by rw [← hW0]; exact bel1 (bel2 (Below.refl _ _) (Nat.le_refl _) _ _) (by simp; omega) _
  have hB0 : BoxV W0 (w.heap.size + 2) v := by
    rw [← hW0]
    have := BoxV.new ((w.alloc (Obj.cells #[.int .i64 v.k, .int .u64 v.n, .string v.s, .slice v.a v.l.length v.c, .int .i64 v.e] 30)).alloc (Obj.cells #[.int .i64 0] 3)) v
    simpa using this
  have hD0 : Boxed W0 (w.heap.size + 1) 3 (.int .i64 0) := by
    rw [← hW0]
    exact heap_past (heap_at1 _ _ _) _
  rw [hW0]
  clear hW0
  have hl0 : LiesIn (fun b => b < n₀) W0 v := hl.keep hb0 hn
  have hst := walk_seq (fun b => b = w.heap.size + 1) (fun b => b = w.heap.size + 1) (fun b => b < n₀) (fun _ => True) (fun b h1 h2 => by omega) v (fun _ _ => trivial) (w.heap.size + 2) W0 hB0 hl0 (fun b h => by omega) (fun b h => by omega)
  refine range_own (gf := 57) (lb := #[.pointer (some ⟨w.heap.size + 2, 0, none⟩)]) rfl (enters_of Tryz.func57 (by kernel_rfl) rfl) hst (fun b h => by omega) (fun _ h => h) (fun b h => by omega) (fun _ => rfl)
    (fun pre W => Boxed W (w.heap.size + 1) 3 (.int .i64 (mx pre)) ∧ Below w.heap.size w W) (fun _ _ _ => False)
    (OwnFrom.and (Own.from (boxed_own _ _ _) _) (ownFrom_below (Nat.le_refl _) (by omega))) (fun _ _ _ _ _ hs _ _ => hs) ⟨hD0, hb0⟩
    (fun x a' _ => a' = { tmps := #[.agg #[.int .i64 v.k, .int .u64 v.n, .string v.s, .slice v.a v.l.length v.c, .int .i64 v.e], .pointer (some ⟨w.heap.size, 0, none⟩), .int .i64 0, .pointer (some ⟨w.heap.size + 1, 0, none⟩), .int .i64 x.1, .agg #[.int .i64 v.k, .int .u64 v.n, .string v.s, .slice v.a v.l.length v.c, .int .i64 v.e], .func (.func 57) #[] #[.pointer (some ⟨w.heap.size + 2, 0, none⟩)], .int .i64 x.1, x.2.val, undef, undef, undef, undef], defers := [] })
    (fun x a' _ A B row hs _ _ => hs) ?assign ?body ?done ?stop
  case assign =>
    intro l pre x W K hR hi hK
    simp only [encV]
    gi_wp2
    exact hK _ _ (KpX.refl _ _) hi rfl
  case body =>
    rintro l pre x a' W hl' _ ⟨hv, hB⟩ rfl _
    have hc := hv.cell
    have hf := hv.frozen
    gi_wp2
    all_goals
      refine ⟨KpX.setCell (X := fun b => b = w.heap.size + 1) (KpX.refl _ W) rfl _ _, ?_, hB.setCell (p := ⟨w.heap.size + 1, 0, none⟩) (by show w.heap.size ≤ w.heap.size + 1; omega) _⟩
      rw [mx_snoc]
      first
        | (rw [show max (mx pre) x.1 = x.1 by omega]; exact hv.set _)
        | (rw [show max (mx pre) x.1 = mx pre by omega]; exact hv.set _)
  case done =>
    rintro D ys W hD rfl ⟨hv, hB⟩ hK
    have hc := hv.cell
    gi_wp2
    refine ⟨by simp, .inl ⟨_, _, rfl, run_takeDeferred hK, ?_⟩⟩
    exact ⟨_, results_tmp rfl _ _ _, rfl, hB.trans (belowK_b (w := w) (Nat.le_refl _) W D _ _ (by omega) hK rfl rfl)⟩
  case stop =>
    rintro D c pre W _ _ h _
    exact h.elim
end Go.Proofs.YtlpngpininkjnaaGreatDoor
