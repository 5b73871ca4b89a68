import Derived.Test.YtlpngpininkjnaaGreatDoorVWalkZ

/- value.Check, over what fault says. -/
namespace Go.Proofs.YtlpngpininkjnaaGreatDoor
open Go.RowKit Go.Shelf
set_option linter.unusedVariables false
attribute [local go_sem] Oper.semAt_some

theorem alls_lies {Q : Nat → Prop} {W : World} (l : List V) (ih : ∀ x ∈ l, ∀ d, LiesIn Q W x → ∀ y ∈ x.all d, LiesIn Q W y.2) (d : Int) (h : ∀ x ∈ l, LiesIn Q W x) : ∀ y ∈ V.alls d l, LiesIn Q W y.2 := by
  induction l with
  | nil => intro y hy; simp [V.alls] at hy
  | cons x l ihl =>
    intro y hy
    rw [V.alls] at hy
    rcases List.mem_append.1 hy with hy | hy
    · exact ih x (by simp) d (h x (by simp)) y hy
    · exact ihl (fun z hz => ih z (by simp [hz])) (fun z hz => h z (by simp [hz])) y hy
theorem all_lies {Q : Nat → Prop} {W : World} (d : Int) (v : V) (h : LiesIn Q W v) : ∀ y ∈ v.all d, LiesIn Q W y.2 := by
  refine V.ind (Q := fun v => ∀ d, LiesIn Q W v → ∀ y ∈ v.all d, LiesIn Q W y.2) ?_ v d h
  intro k n s a c e l ih d h y hy
  rw [V.all_of] at hy
  rcases List.mem_cons.1 hy with rfl | hy
  · exact h
  · exact alls_lies l ih (wrap64 (d + 1)) h.sub y hy

/-- what fault answers of a value at a depth -/
def FaultAt (x : Int × V) (r : Int) : Prop := ∀ (n₀ : Nat) (w : World), n₀ ≤ w.heap.size → Lies n₀ w x.2 →
  Calls Tryz.prog 24 #[x.2.val, .int .i64 x.1] w fun e w' => e = .returned (.int .i64 r) ∧ Below w.heap.size w w'
/-- the first error of a row -/
def firstE (z : Int × V → Int) : List (Int × V) → Int
  | [] => 0
  | x :: l => if z x ≠ 0 then z x else firstE z l
theorem firstE_none (z : Int × V → Int) (l : List (Int × V)) (h : ∀ x ∈ l, z x = 0) : firstE z l = 0 := by
  induction l with
  | nil => rfl
  | cons x l ih => rw [firstE, if_neg (by simp [h x (by simp)])]; exact ih (fun y hy => h y (by simp [hy]))
theorem firstE_at (z : Int × V → Int) (p : List (Int × V)) (x : Int × V) (r : List (Int × V)) (h : ∀ y ∈ p, z y = 0) (hx : z x ≠ 0) : firstE z (p ++ x :: r) = z x := by
  induction p with
  | nil => rw [List.nil_append, firstE, if_pos hx]
  | cons y p ih => rw [List.cons_append, firstE, if_neg (by simp [h y (by simp)])]; exact ih (fun y hy => h y (by simp [hy]))

set_option maxRecDepth 100000 in
set_option maxHeartbeats 2000000 in
theorem check_gen (v : V) (n₀ : Nat) (w : World) (hn : n₀ ≤ w.heap.size) (hl : Lies n₀ w v) (z : Int × V → Int) (hz : ∀ x ∈ v.all 1, FaultAt x (z x)) :
    Calls Tryz.prog 15 #[v.val] w fun e w' => e = .returned (.int .i64 (firstE z (v.all 1))) ∧ Below w.heap.size w w' := by
  refine (callsIn_wide (n := 3)).1 ?_
  have hdd : ∀ k : Nat, (Fence.wide.depth.isSome = true → 1 ≤ k) := fun k h => by cases h
  rw [V.val_eq]
  refine callsIn_of_wp_marks Tryz.func15 rfl trivial ?_ rfl
  simp only [Tryz.ntmps15, List.size_toArray, List.length_cons, List.length_nil, Nat.reduceAdd, Nat.reduceSub, Array.replicate_succ, Array.replicate_zero, List.push_toArray, List.append_toArray, List.nil_append, List.cons_append]
  gi_wp2_with ((first | refine ⟨trivial, hdd _, ?_⟩ | refine ⟨trivial, ?_⟩); gi_at_call 23; refine (callsIn_wide.2 (walk_any v _)).mono ?_; rintro e w' ⟨rfl, rfl⟩)
  obtain ⟨W0, hW0⟩ : ∃ W0, ((w.alloc (Obj.cells #[.int .i64 v.k, .int .u64 v.n, .string v.s, .slice v.a v.l.length v.c, .int .i64 v.e] 30)).alloc (Obj.cells #[.int .i64 0] 31)).alloc (Obj.cells #[.int .i64 v.k, .int .u64 v.n, .string v.s, .slice v.a v.l.length v.c, .int .i64 v.e] 30) = W0 := ⟨_, rfl⟩
  have hs0 : W0.heap.size = w.heap.size + 3 := by rw [← hW0]; simp
  have hb0 : Below w.heap.size w W0 := by rw [← hW0]; exact bel1 (bel2 (Below.refl _ _) (Nat.le_refl _) _ _) (by simp; omega) _
  have hB0 : BoxV W0 (w.heap.size + 2) v := by
    rw [← hW0]
    have := BoxV.new ((w.alloc (Obj.cells #[.int .i64 v.k, .int .u64 v.n, .string v.s, .slice v.a v.l.length v.c, .int .i64 v.e] 30)).alloc (Obj.cells #[.int .i64 0] 31)) v
    simpa using this
  have hD0 : Boxed W0 (w.heap.size + 1) 31 (.int .i64 0) := by
    rw [← hW0]
    exact heap_past (heap_at1 _ _ _) _
  rw [hW0]
  clear hW0
  have hl0 : LiesIn (fun b => b < n₀) W0 v := hl.keep hb0 hn
  have hst := walk_seq (fun b => b = w.heap.size + 1) (fun b => b = w.heap.size + 1) (fun b => b < n₀) (fun y => FaultAt y (z y) ∧ Lies n₀ w y.2) (fun b h1 h2 => by omega) v (fun y hy => ⟨hz y hy, all_lies 1 v hl y hy⟩) (w.heap.size + 2) W0 hB0 hl0 (fun b h => by omega) (fun b h => by omega)
  clear hz
  refine range_own (gf := 57) (lb := #[.pointer (some ⟨w.heap.size + 2, 0, none⟩)]) rfl (enters_of Tryz.func57 (by kernel_rfl) rfl) hst (fun b h => by omega) (fun _ h => h) (fun b h => by omega) (fun _ => rfl)
    (fun pre W => ((∀ y ∈ pre, z y = 0) ∧ Boxed W (w.heap.size + 1) 31 (.int .i64 0)) ∧ Below w.heap.size w W)
    (fun c pre W => ((c = .ret ∧ ∃ p x, pre = p ++ [x] ∧ (∀ y ∈ p, z y = 0) ∧ z x ≠ 0) ∧ Boxed W (w.heap.size + 1) 31 (.int .i64 (firstE z pre))) ∧ Below w.heap.size w W)
    (OwnFrom.and (OwnFrom.and (ownFrom_pure _ _) (Own.from (boxed_own _ _ _) _)) (ownFrom_below (Nat.le_refl _) (by omega)))
    (fun c => OwnFrom.and (OwnFrom.and (ownFrom_pure _ _) (Own.from (boxed_own _ _ _) _)) (ownFrom_below (Nat.le_refl _) (by omega))) ⟨⟨by simp, hD0⟩, hb0⟩
    (fun x a' W => (FaultAt x (z x) ∧ Lies n₀ w x.2) ∧ ∃ Bx, BoxV W Bx x.2 ∧ a' = { tmps := #[.agg #[.int .i64 v.k, .int .u64 v.n, .string v.s, .slice v.a v.l.length v.c, .int .i64 v.e], .pointer (some ⟨w.heap.size, 0, none⟩), .pointer (some ⟨w.heap.size + 1, 0, none⟩), .int .i64 x.1, .pointer (some ⟨Bx, 0, none⟩), undef, .agg #[.int .i64 v.k, .int .u64 v.n, .string v.s, .slice v.a v.l.length v.c, .int .i64 v.e], .func (.func 57) #[] #[.pointer (some ⟨w.heap.size + 2, 0, none⟩)], .int .i64 x.1, .agg #[.int .i64 x.2.k, .int .u64 x.2.n, .string x.2.s, .slice x.2.a x.2.l.length x.2.c, .int .i64 x.2.e], undef, undef, undef, undef, undef, undef], defers := [] })
    ?hAx ?assign ?body ?done ?stop
  case hAx =>
    intro x a' _ A B row hs hg hr
    obtain ⟨h1, Bx, h2, h3⟩ := hs
    refine ⟨h1, Bx, ?_, h3⟩
    exact (hg.block Bx h2.lt (fun e => by
      obtain ⟨_, o, ho, hc⟩ := hr Bx e.symm
      rw [show A.heap[Bx]? = _ from h2] at ho
      cases ho
      cases hc)).trans h2
  case assign =>
    rintro l pre x W K hR ⟨⟨hp, hv⟩, hB⟩ hK
    simp only [encV, V.val_eq]
    have hsz := hB.size
    gi_wp2
    exact hK _ _ ((KpX.refl _ W).alloc _) ⟨⟨hp, hv.alloc _⟩, bel1 hB hsz _⟩ ⟨hR, W.heap.size, BoxV.new W x.2, rfl⟩
  case body =>
    rintro l pre x a' W hl' ⟨r, hr⟩ ⟨⟨hp, hv⟩, hB⟩ ⟨hR, Bx, bX, rfl⟩ hlt
    have hsz := hB.size
    obtain ⟨c0, c1, c2, c3, c4⟩ := bX.cells
    have hc := hv.cell
    have hf := hv.frozen
    have hx := hR.1 n₀ W (by omega) (hR.2.keep hB hn)
    rw [V.val_eq] at hx
    have HX := hide hx
    clear hx
    gi_wp2_with ((first | refine ⟨trivial, hdd _, ?_⟩ | refine ⟨trivial, ?_⟩); gi_at_call 24; refine (CallsIn.inRound l (callsIn_wide.2 HX.out)).mono ?_; rintro e w1 ⟨rfl, hb1⟩; have hv1 : Boxed w1 (w.heap.size + 1) 31 (.int .i64 0) := (hb1.block _ hv.lt).trans hv; have hc1 := hv1.cell; have hf1 := hv1.frozen)
    · have hne : z x ≠ 0 := by rename_i h; simpa using h
      have hB1 := belOn hB hsz hb1
      refine ⟨KpX.setCell (X := fun b => b = w.heap.size + 1) (KpX.of_below hb1) rfl _ _, ⟨⟨⟨rfl, pre, x, rfl, hp, hne⟩, ?_⟩, hB1.setCell (p := ⟨w.heap.size + 1, 0, none⟩) (by show w.heap.size ≤ w.heap.size + 1; omega) _⟩⟩
      rw [firstE_at z _ _ _ hp hne]
      exact hv1.set _
    · have he : z x = 0 := by rename_i h; simpa using h
      exact ⟨KpX.of_below hb1, ⟨⟨fun y hy => (List.mem_append.1 hy).elim (hp y) (fun h => by simp at h; subst h; exact he), hv1⟩, belOn hB hsz hb1⟩⟩
  case done =>
    rintro D ys W hD hys ⟨⟨hp, hv⟩, hB⟩ hK
    have hc := hv.cell
    have hf := hv.frozen
    gi_wp2
    have hK' := (KeepsOthers.setCell W ⟨w.heap.size + 1, 0, none⟩ (.int .i64 0)).same D _ hK rfl
    refine ⟨by simp, .inl ⟨_, _, rfl, run_takeDeferred hK', ?_⟩⟩
    have hc5 := cell_kept (hv.set (.int .i64 0)).cell (grownBy_putObj' _ D (.deferred none)) (fun r e => by cases e; exact ⟨_, hK', rfl⟩)
    refine ⟨.int .i64 0, ?_, by rw [← hys, firstE_none _ _ hp], (hB.setCell (p := ⟨w.heap.size + 1, 0, none⟩) (by simp) _).trans (belowK_b (w := w) (Nat.le_refl _) _ D _ _ (by omega) hK' rfl rfl)⟩
    simp [results, Tryz.f15, go_sem, hc5]
  case stop =>
    rintro D c pre W hD hpre ⟨⟨⟨rfl, p, x, rfl, h1, h2⟩, hv⟩, hB⟩ hK
    gi_wp2
    refine ⟨by simp, .inl ⟨_, _, rfl, run_takeDeferred hK, ?_⟩⟩
    have hc5 := cell_kept hv.cell (grownBy_putObj' _ D (.deferred none)) (fun r e => by cases e; exact ⟨_, hK, rfl⟩)
    obtain ⟨r, hr⟩ := hpre
    have he : firstE z (v.all 1) = firstE z (p ++ [x]) := by
      rw [← hr, List.append_assoc, List.singleton_append, firstE_at z _ _ _ h1 h2, firstE_at z _ _ _ h1 h2]
    refine ⟨.int .i64 (firstE z (p ++ [x])), ?_, by rw [he], hB.trans (belowK_b (w := w) (Nat.le_refl _) W D _ _ (by omega) hK rfl rfl)⟩
    simp only [results, Tryz.f15, go_sem]
    simp [hc5]
end Go.Proofs.YtlpngpininkjnaaGreatDoor
