/- ValueSound: the walk. -/
import Derived.Test.YtaedlnliglmomaaDoorVSoundN
import Derived.Test.YtaedlnliglmomaaDoorVAwake
import Derived.Test.YtaedlnliglmomaaDoorVListO
import Derived.Test.YtaedlnliglmomaaDoorVTabs
namespace Go.Proofs.YtaedlnliglmomaaDoor
open Go.RowKit Go.Shelf
set_option linter.unusedVariables false
attribute [local go_sem] Oper.semAt_some

theorem row3s {W : World} {b : Nat} {x y z : V} (h : W.heap[b]? = some (.cells #[.int .i64 x.k, .int .u64 x.n, .string x.s, .slice x.a x.l.length x.c, .int .i64 x.e, .int .i64 y.k, .int .u64 y.n, .string y.s, .slice y.a y.l.length y.c, .int .i64 y.e, .int .i64 z.k, .int .u64 z.n, .string z.s, .slice z.a z.l.length z.c, .int .i64 z.e] 25 (0, 0))) : Row W b 0 [x, y, z] := by
  intro i hi
  have : i = 0 ∨ i = 1 ∨ i = 2 := by simp at hi; omega
  rcases this with rfl | rfl | rfl <;> refine ⟨?_, ?_, ?_, ?_, ?_⟩ <;> simp [World.cell?, h]


theorem row4s {W : World} {b : Nat} {x y z q : V} (h : W.heap[b]? = some (.cells #[.int .i64 x.k, .int .u64 x.n, .string x.s, .slice x.a x.l.length x.c, .int .i64 x.e, .int .i64 y.k, .int .u64 y.n, .string y.s, .slice y.a y.l.length y.c, .int .i64 y.e, .int .i64 z.k, .int .u64 z.n, .string z.s, .slice z.a z.l.length z.c, .int .i64 z.e, .int .i64 q.k, .int .u64 q.n, .string q.s, .slice q.a q.l.length q.c, .int .i64 q.e] 25 (0, 0))) : Row W b 0 [x, y, z, q] := by
  intro i hi
  have : i = 0 ∨ i = 1 ∨ i = 2 ∨ i = 3 := by simp at hi; omega
  rcases this with rfl | rfl | rfl | rfl <;> refine ⟨?_, ?_, ?_, ?_, ?_⟩ <;> simp [World.cell?, h]
/-- the temporaries at the range -/
def sTmps (v k l y : V) (s s1 s4 s7 B : Nat) (z zi dp : Int) (u a1 a2 : Bool) (t14 t15 t61 t62 : Value) : Array Value := #[.agg #[.int .i64 v.k, .int .u64 v.n, .string v.s, .slice v.a v.l.length v.c, .int .i64 v.e], .agg #[.int .i64 k.k, .int .u64 k.n, .string k.s, .slice k.a k.l.length k.c, .int .i64 k.e], .agg #[.int .i64 l.k, .int .u64 l.n, .string l.s, .slice l.a l.l.length l.c, .int .i64 l.e], .pointer (some ⟨s, 0, none⟩), .pointer (some ⟨s + 1, 0, none⟩), .pointer (some ⟨s + 1 + 1, 0, none⟩), .pointer (some ⟨s + 1 + 1 + 1, 0, none⟩), .bool true, .bool false, .bool true, .pointer (some ⟨s4, 0, none⟩), .bool u, .pointer (some ⟨s7, 0, none⟩), .func (.func 44) #[] #[.pointer (some ⟨B, 0, none⟩)], t14, t15, undef, undef, undef, undef, undef, undef, undef, undef, undef, undef, undef, undef, undef, .bool true, .bool true, .bool false, .agg #[.int .i64 v.k, .int .u64 v.n, .string v.s, .slice v.a v.l.length v.c, .int .i64 v.e], .agg #[.int .i64 k.k, .int .u64 k.n, .string k.s, .slice k.a k.l.length k.c, .int .i64 k.e], .agg #[.int .i64 l.k, .int .u64 l.n, .string l.s, .slice l.a l.l.length l.c, .int .i64 l.e], .slice (some ⟨s1, 0, none⟩) 3 3, .bool false, .bool false, .agg #[.int .i64 v.k, .int .u64 v.n, .string v.s, .slice v.a v.l.length v.c, .int .i64 v.e], .int .i64 z, .bool true, .agg #[.int .i64 v.k, .int .u64 v.n, .string v.s, .slice v.a v.l.length v.c, .int .i64 v.e], .int .i64 dp, .agg #[.int .i64 v.k, .int .u64 v.n, .string v.s, .slice v.a v.l.length v.c, .int .i64 v.e], .slice (some ⟨s4 + 1, 0, none⟩) 1 1, .agg #[.int .i64 y.k, .int .u64 y.n, .string y.s, .slice y.a y.l.length y.c, .int .i64 y.e], .int .i64 zi, .bool u, .bool u, .bool true, .bool true, .int .i64 dp, .bool a1, .bool a1, .bool a2, .agg #[.int .i64 v.k, .int .u64 v.n, .string v.s, .slice v.a v.l.length v.c, .int .i64 v.e], .func (.func 44) #[] #[.pointer (some ⟨B, 0, none⟩)], .func (.func 44) #[] #[.pointer (some ⟨B, 0, none⟩)], .bool false, .bool true, .func (.func 44) #[] #[.pointer (some ⟨B, 0, none⟩)], t61, t62, undef, undef, undef, undef, undef, undef, undef, undef, undef, undef, undef, undef, undef, undef, undef, undef, undef, undef, undef, undef, undef, undef, undef, undef, undef, undef, undef, undef, undef, undef, undef, undef, undef, undef, undef, undef, undef, undef, undef, undef, undef, undef, undef, undef, undef, undef, undef, undef, undef, undef, undef, undef, undef, undef, undef, undef, undef, undef, undef, undef, undef, undef, undef, undef, undef, undef, undef, undef, undef, undef, undef, undef, undef, undef, undef, undef, undef, undef, undef, undef, undef, undef, undef, undef, undef, undef, undef, undef, undef]
theorem mx_bareS {l m : List (Int × V)} (h : bare l = bare m) : mx l = mx m := by
  have e : l.map (·.1) = m.map (·.1) := by
    have := congrArg (List.map Prod.fst) h
    unfold bare at this
    rw [List.map_map, List.map_map] at this
    exact this
  have f : ∀ l : List (Int × V), mx l = List.foldl (fun m x => max m x) 0 (l.map (·.1)) := fun l => by unfold mx; rw [List.foldl_map]
  rw [f, f, e]

set_option maxRecDepth 100000 in
set_option maxHeartbeats 4000000 in
theorem sound_walk (v k l : V) (w : World) (hv : Lies w.heap.size w v) (hk : Lies w.heap.size w k) (hl : Lies w.heap.size w l) (hT : Lib.Utf8Tabs 0 1 w) :
    Calls Tryd.prog 7 #[v.val, k.val, l.val] w fun e w' => e = .returned (.bool true) ∧ Below w.heap.size w w' := by
  refine (callsIn_wide (n := 3)).1 ?_
  have hdd : ∀ k : Nat, (Fence.wide.depth.isSome = true → 1 ≤ k) := fun k h => by cases h
  have HV := hide hv
  have HK := hide hk
  have HL := hide hl
  have HT := hide hT
  clear hv hk hl hT
  rw [V.val_eq, V.val_eq, V.val_eq]
  refine callsIn_of_wp_marks Tryd.func7 rfl trivial ?_ rfl
  simp only [Tryd.ntmps7, List.size_toArray, List.length_cons, List.length_nil, Nat.reduceAdd, Nat.reduceSub, Array.replicate_succ, Array.replicate_zero, List.push_toArray, List.append_toArray, List.nil_append, List.cons_append]
  gi_wp2_with fail
  obtain ⟨W0, hW0⟩ : ∃ W0, (((w.alloc (Obj.cells #[.int .i64 v.k, .int .u64 v.n, .string v.s, .slice v.a v.l.length v.c, .int .i64 v.e] 25)).alloc (Obj.cells #[.int .i64 k.k, .int .u64 k.n, .string k.s, .slice k.a k.l.length k.c, .int .i64 k.e] 25)).alloc (Obj.cells #[.int .i64 l.k, .int .u64 l.n, .string l.s, .slice l.a l.l.length l.c, .int .i64 l.e] 25)).alloc (Obj.cells #[.bool false] 4) = W0 := ⟨_, rfl⟩
  have hs0 : W0.heap.size = w.heap.size + 4 := by rw [← hW0]; simp
  have hb0 : Below w.heap.size w W0 := by rw [← hW0]; exact bel1 (bel1 (bel2 (Below.refl _ _) (Nat.le_refl _) _ _) (by simp; omega) _) (by simp; omega) _
  have xv : BoxV W0 w.heap.size v := by rw [← hW0]; exact heap_past (heap_past (heap_past (World.alloc_heap_new _ _) _) _) _
  have xk : BoxV W0 (w.heap.size + 1) k := by rw [← hW0]; exact heap_past (heap_past (heap_at1 _ _ _) _) _
  have xl : BoxV W0 (w.heap.size + 2) l := by rw [← hW0]; have := World.alloc_heap_new ((w.alloc (Obj.cells #[.int .i64 v.k, .int .u64 v.n, .string v.s, .slice v.a v.l.length v.c, .int .i64 v.e] 25)).alloc (Obj.cells #[.int .i64 k.k, .int .u64 k.n, .string k.s, .slice k.a k.l.length k.c, .int .i64 k.e] 25)) (Obj.cells #[.int .i64 l.k, .int .u64 l.n, .string l.s, .slice l.a l.l.length l.c, .int .i64 l.e] 25); simp only [World.size_alloc] at this; exact heap_past this _
  have xr : Boxed W0 (w.heap.size + 3) 4 (.bool false) := by rw [← hW0]; have := World.alloc_heap_new (((w.alloc (Obj.cells #[.int .i64 v.k, .int .u64 v.n, .string v.s, .slice v.a v.l.length v.c, .int .i64 v.e] 25)).alloc (Obj.cells #[.int .i64 k.k, .int .u64 k.n, .string k.s, .slice k.a k.l.length k.c, .int .i64 k.e] 25)).alloc (Obj.cells #[.int .i64 l.k, .int .u64 l.n, .string l.s, .slice l.a l.l.length l.c, .int .i64 l.e] 25)) (Obj.cells #[.bool false] 4); simp only [World.size_alloc] at this; exact this
  rw [hW0]
  clear hW0
  refine ⟨trivial, ?_⟩
  refine (callsIn_wide.2 (awake_any W0)).mono ?_
  rintro e w1 ⟨rfl, hb1⟩
  have hs1 := hb1.size
  obtain ⟨v0, v1, v2, v3, v4⟩ := (xv.below hb1 (by omega)).cells
  obtain ⟨k0, k1, k2, k3, k4⟩ := (xk.below hb1 (by omega)).cells
  obtain ⟨l0, l1, l2, l3, l4⟩ := (xl.below hb1 (by omega)).cells
  have xr1 : Boxed w1 (w.heap.size + 3) 4 (.bool false) := (hb1.block _ (by omega)).trans xr
  have r0 := xr1.cell
  have rf := xr1.frozen
  gi_wp2_with fail
  refine ⟨trivial, ?_⟩
  have hbA := bel1 (Below.refl w1.heap.size w1) (Nat.le_refl _) (Obj.cells #[.int .i64 v.k, .int .u64 v.n, .string v.s, .slice v.a v.l.length v.c, .int .i64 v.e, .int .i64 k.k, .int .u64 k.n, .string k.s, .slice k.a k.l.length k.c, .int .i64 k.e, .int .i64 l.k, .int .u64 l.n, .string l.s, .slice l.a l.l.length l.c, .int .i64 l.e] 25)
  have hbw1 : Below w.heap.size w w1 := belOn hb0 (by omega) hb1
  have hbwA : Below w.heap.size w _ := belOn hbw1 (by omega) hbA
  refine (callsIn_wide.2 (greatall_any w1.heap.size 0 3 w.heap.size [v, k, l] _ (by simp; omega) (row3s (World.alloc_heap_new _ _)) (by simp) (fun x hx => ?_) (by simp) (by omega))).mono ?_
  · simp only [List.mem_cons, List.not_mem_nil, or_false] at hx
    rcases hx with rfl | rfl | rfl
    · exact HV.out.keep hbwA (Nat.le_refl _)
    · exact HK.out.keep hbwA (Nat.le_refl _)
    · exact HL.out.keep hbwA (Nat.le_refl _)
  rintro e w2 (⟨rfl, hb2⟩ | ⟨rfl, hwt, hb2⟩)
  · have hb3 : Below W0.heap.size W0 w2 := (hb1.trans (hbA.mono hs1)).trans (hb2.mono (by simp; omega))
    have xr2 : Boxed w2 (w.heap.size + 1 + 1 + 1) 4 (.bool false) := (hb3.block _ (by omega)).trans xr
    have r2 := xr2.cell
    have rf2 := xr2.frozen
    clear hb3
    gi_wp2
    refine ⟨.bool true, ?_, rfl, ?_⟩
    · simp only [results, Tryd.f7, go_sem]
      simp [(xr2.set (.bool true)).cell]
    · exact (belOn hbwA (by simp; omega) hb2).setCell (p := ⟨w.heap.size + 1 + 1 + 1, 0, none⟩) (by show w.heap.size ≤ w.heap.size + 1 + 1 + 1; omega) _
  have hwv : T.wt v.t ≤ 100000 := by simp only [V.ts, T.wts] at hwt; omega
  have hwk : T.wt k.t ≤ 100000 := by simp only [V.ts, T.wts] at hwt; omega
  have hwl : T.wt l.t ≤ 100000 := by simp only [V.ts, T.wts] at hwt; omega
  have hbW2 : Below W0.heap.size W0 w2 := (hb1.trans (hbA.mono hs1)).trans (hb2.mono (by simp; omega))
  have hbw2 : Below w.heap.size w w2 := belOn hbwA (by simp; omega) hb2
  have hs2 := hbW2.size
  clear hb2 hbA hbwA v0 v1 v2 v3 v4 k0 k1 k2 k3 k4 l0 l1 l2 l3 l4 hwt hb1 hbw1 xr1 r0 rf
  obtain ⟨v0, v1, v2, v3, v4⟩ := (xv.below hbW2 (by omega)).cells
  gi_wp2_with fail
  refine ⟨trivial, ?_⟩
  have q := check_any v w.heap.size w2 (by omega) (HV.out.keep hbw2 (Nat.le_refl _)) (tabs_below HT.out hbw2)
  rw [V.val_eq] at q
  refine (callsIn_wide.2 q).mono ?_
  clear q
  obtain ⟨z, hz⟩ : ∃ z, firstE checkZ (v.all 1) = z := ⟨_, rfl⟩
  have HZ := hide hz
  rw [hz]
  clear hz
  rintro e w3 ⟨rfl, hb3⟩
  have hs3 := hb3.size
  have hbW3 : Below W0.heap.size W0 w3 := belOn hbW2 hs2 hb3
  have hbw3 : Below w.heap.size w w3 := belOn hbw2 (by omega) hb3
  clear hb3 v0 v1 v2 v3 v4
  obtain ⟨v0, v1, v2, v3, v4⟩ := (xv.below hbW3 (by omega)).cells
  obtain ⟨g, hg⟩ : ∃ g : Bool, ((z : Int) == 0) = g := ⟨_, rfl⟩
  gi_wp2_with fail
  refine ⟨trivial, ?_⟩
  have q := depth_any v w.heap.size w3 (by omega) (HV.out.keep hbw3 (Nat.le_refl _))
  rw [V.val_eq] at q
  refine (callsIn_wide.2 q).mono ?_
  clear q
  obtain ⟨dp, hdp⟩ : ∃ dp, mx (v.all 1) = dp := ⟨_, rfl⟩
  have HDP := hide hdp
  rw [hdp]
  clear hdp
  rintro e w4 ⟨rfl, hb4⟩
  have hs4 := hb4.size
  have hbW4 : Below W0.heap.size W0 w4 := belOn hbW3 (by omega) hb4
  have hbw4 : Below w.heap.size w w4 := belOn hbw3 (by omega) hb4
  clear hb4 v0 v1 v2 v3 v4
  obtain ⟨v0, v1, v2, v3, v4⟩ := (xv.below hbW4 (by omega)).cells
  have hvlt : w.heap.size < w4.heap.size := by omega
  gi_wp2_with fail
  refine ⟨trivial, ?_⟩
  obtain ⟨W5, hW5⟩ : ∃ W5, (w4.alloc (Obj.cells #[.int .i64 dp] 3)).alloc (Obj.cells #[.int .i64 v.k, .int .u64 v.n, .string v.s, .slice v.a v.l.length v.c, .int .i64 v.e] 25) = W5 := ⟨_, rfl⟩
  have hs5 : W5.heap.size = w4.heap.size + 2 := by rw [← hW5]; simp
  have hb5 : Below w4.heap.size w4 W5 := by rw [← hW5]; exact bel2 (Below.refl _ _) (Nat.le_refl _) _ _
  have xd : Boxed W5 w4.heap.size 3 (.int .i64 dp) := by rw [← hW5]; exact heap_past (World.alloc_heap_new _ _) _
  have xs : BoxV W5 (w4.heap.size + 1) v := by rw [← hW5]; exact heap_at1 _ _ _
  rw [hW5]
  clear hW5 v0 v1 v2 v3 v4
  have hbW5 : Below W0.heap.size W0 W5 := belOn hbW4 (by omega) hb5
  have hbw5 : Below w.heap.size w W5 := belOn hbw4 (by omega) hb5
  clear hb5
  refine (callsIn_wide.2 (listedO_any [v] (some ⟨w4.heap.size + 1, 0, none⟩) 1 W5.heap.size W5 (Nat.le_refl _) (by simp) (by simp) (fun _ => ⟨w4.heap.size + 1, 0, rfl, by omega, ?row⟩) ?lies)).mono ?_
  case row =>
    intro i hi
    obtain rfl : i = 0 := by simpa using hi
    exact xs.cells
  case lies =>
    intro x hx
    obtain rfl : x = v := by simpa using hx
    exact (HV.out.keep hbw5 (Nat.le_refl _)).mono (by omega)
  rintro e w6 ⟨y, rfl, HY, hb6⟩
  have hs6 := hb6.size
  have hbW6 : Below W0.heap.size W0 w6 := belOn hbW5 (by omega) hb6
  have hbw6 : Below w.heap.size w w6 := belOn hbw5 (by omega) hb6
  have xd6 : Boxed w6 w4.heap.size 3 (.int .i64 dp) := (hb6.block _ (by omega)).trans xd
  clear hb6 xd xs
  gi_wp2_with fail
  refine ⟨trivial, ?_⟩
  have q := check_any y w6.heap.size w6 (Nat.le_refl _) (LiesIn.keep HY.out.2.1 (fun _ _ _ => rfl) (fun b h => h.2)) (tabs_below HT.out hbw6)
  rw [V.val_eq] at q
  refine (callsIn_wide.2 q).mono ?_
  clear q
  have HLI : Hid (firstE checkZ (y.all 1) = 0 ↔ z = 0 ∧ dp < 32) := by
    have := list_iff v y HY.out.1 hwv
    unfold Inn at this
    rw [HZ.out, HDP.out] at this
    exact this
  obtain ⟨zi, hzi⟩ : ∃ zi, firstE checkZ (y.all 1) = zi := ⟨_, rfl⟩
  rw [hzi] at HLI ⊢
  clear hzi HY
  rintro e w7 ⟨rfl, hb7⟩
  have hs7 := hb7.size
  have hbW7 : Below W0.heap.size W0 w7 := belOn hbW6 (by omega) hb7
  have hbw7 : Below w.heap.size w w7 := belOn hbw6 (by omega) hb7
  have xd7 : Boxed w7 w4.heap.size 3 (.int .i64 dp) := (hb7.block _ (by omega)).trans xd6
  clear hb7 xd6
  obtain ⟨u, hu⟩ : ∃ u : Bool, ((zi : Int) == 0) = u := ⟨_, rfl⟩
  have d7 := xd7.cell
  obtain ⟨v0, v1, v2, v3, v4⟩ := (xv.below hbW7 (by omega)).cells
  have hu0 : u = (g && decide (dp < 32)) := by
    have := HLI.out
    rw [← hu, ← hg, Bool.eq_iff_iff]
    simpa using this
  have HG : Hid ((g = true ↔ z = 0)) := by
    show g = true ↔ z = 0
    rw [← hg]; simp
  have HU := hide hu0
  clear hu0
  have hcase : (g = false ∧ u = false) ∨ (g = true ∧ dp < 32 ∧ u = true) ∨ (g = true ∧ ¬ dp < 32 ∧ u = false) := by
    have := HU.out
    by_cases hd : dp < 32
    · cases g <;> simp [hd] at this ⊢ <;> exact this
    · cases g <;> simp [hd] at this ⊢ <;> exact this
  rcases hcase with ⟨rfl, rfl⟩ | ⟨rfl, hd, rfl⟩ | ⟨rfl, hd, rfl⟩
  case inl =>
    have HNI : Hid (¬ Inn v) := fun h => by
      have := HG.out.2 (by rw [← HZ.out]; exact h.1)
      cases this
    have hvlt7 : w.heap.size < w7.heap.size := by omega
    have hdlt7 : w4.heap.size < w7.heap.size := by omega
    gi_wp2_with fail
    refine ⟨trivial, ?_⟩
    clear v0 v1 v2 v3 v4 d7
    obtain ⟨W8, hW8⟩ : ∃ W8, w7.alloc (Obj.cells #[.int .i64 0] 3) = W8 := ⟨_, rfl⟩
    have hs8 : W8.heap.size = w7.heap.size + 1 := by rw [← hW8]; simp
    have hb8 : Below w7.heap.size w7 W8 := by rw [← hW8]; exact bel1 (Below.refl _ _) (Nat.le_refl _) _
    have xn8 : Boxed W8 w7.heap.size 3 (.int .i64 0) := by rw [← hW8]; exact World.alloc_heap_new _ _
    rw [hW8]
    clear hW8
    have hbW8 : Below W0.heap.size W0 W8 := belOn hbW7 (by omega) hb8
    have hbw8 : Below w.heap.size w W8 := belOn hbw7 (by omega) hb8
    have xd8 : Boxed W8 w4.heap.size 3 (.int .i64 dp) := (hb8.block _ (by omega)).trans xd7
    clear hb8 xd7
    refine (callsIn_wide.2 (allf_any v w.heap.size W8 (by omega) (HV.out.keep hbw8 (Nat.le_refl _)))).mono ?_
    rintro e w9 ⟨B, y2, rfl, HY2, hb9⟩
    have hs9 := hb9.size
    have hbW9 : Below W0.heap.size W0 w9 := belOn hbW8 (by omega) hb9
    have hbw9 : Below w.heap.size w w9 := belOn hbw8 (by omega) hb9
    have xd9 : Boxed w9 w4.heap.size 3 (.int .i64 dp) := (hb9.block _ (by omega)).trans xd8
    have xn9 : Boxed w9 w7.heap.size 3 (.int .i64 0) := (hb9.block _ (by omega)).trans xn8
    clear hb9 xd8 xn8
    have heq : ∀ u, (binOp BinOp.eql 45 (.func (.func 44) #[] #[.pointer (some ⟨B, 0, none⟩)]) .nilFunc).run Tryd.prog u = .ok (.bool false) u := fun u => by
      first | rfl | (simp [binOp, Tryd.underlying45, go_sem]; done)
    have hbW_w9 := hbW9
    have hbw_w9 := hbw9
    clear hbW9 hbw9 xd9 xn9 HY2
    obtain ⟨k0, k1, k2, k3, k4⟩ := (xk.below hbW_w9 (by omega)).cells
    gi_wp2_with fail
    refine ⟨trivial, ?_⟩
    have q := check_any k w.heap.size w9 (by omega) (HK.out.keep hbw_w9 (Nat.le_refl _)) (tabs_below HT.out hbw_w9)
    rw [V.val_eq] at q
    refine (callsIn_wide.2 q).mono ?_
    clear q
    obtain ⟨zk, hzk⟩ : ∃ zk, firstE checkZ (k.all 1) = zk := ⟨_, rfl⟩
    have Hzk := hide hzk
    rw [hzk]
    clear hzk
    rintro e Wa ⟨rfl, hb_Wa⟩
    clear k0 k1 k2 k3 k4
    have hs_Wa := hb_Wa.size
    have hbW_Wa : Below W0.heap.size W0 Wa := belOn hbW_w9 (by omega) hb_Wa
    have hbw_Wa : Below w.heap.size w Wa := belOn hbw_w9 (by omega) hb_Wa
    by_cases hk0 : zk = 0
    · subst hk0
      obtain ⟨k0, k1, k2, k3, k4⟩ := (xk.below hbW_Wa (by omega)).cells
      gi_wp2_with fail
      refine ⟨trivial, ?_⟩
      have q := depth_any k w.heap.size Wa (by omega) (HK.out.keep hbw_Wa (Nat.le_refl _))
      rw [V.val_eq] at q
      refine (callsIn_wide.2 q).mono ?_
      clear q
      obtain ⟨dk, hdk⟩ : ∃ dk, mx (k.all 1) = dk := ⟨_, rfl⟩
      have Hdk := hide hdk
      rw [hdk]
      clear hdk
      rintro e Wb ⟨rfl, hb_Wb⟩
      clear k0 k1 k2 k3 k4
      have hs_Wb := hb_Wb.size
      have hbW_Wb : Below W0.heap.size W0 Wb := belOn hbW_Wa (by omega) hb_Wb
      have hbw_Wb : Below w.heap.size w Wb := belOn hbw_Wa (by omega) hb_Wb
      obtain ⟨l0, l1, l2, l3, l4⟩ := (xl.below hbW_Wb (by omega)).cells
      gi_wp2_with fail
      refine ⟨trivial, ?_⟩
      have q := check_any l w.heap.size Wb (by omega) (HL.out.keep hbw_Wb (Nat.le_refl _)) (tabs_below HT.out hbw_Wb)
      rw [V.val_eq] at q
      refine (callsIn_wide.2 q).mono ?_
      clear q
      obtain ⟨zl, hzl⟩ : ∃ zl, firstE checkZ (l.all 1) = zl := ⟨_, rfl⟩
      have Hzl := hide hzl
      rw [hzl]
      clear hzl
      rintro e Wc ⟨rfl, hb_Wc⟩
      clear l0 l1 l2 l3 l4
      have hs_Wc := hb_Wc.size
      have hbW_Wc : Below W0.heap.size W0 Wc := belOn hbW_Wb (by omega) hb_Wc
      have hbw_Wc : Below w.heap.size w Wc := belOn hbw_Wb (by omega) hb_Wc
      obtain ⟨o1, ho1⟩ : ∃ o1, decide (dk < 32) = o1 := ⟨_, rfl⟩
      rw [ho1]
      have HO1 : Hid (o1 = true ↔ Inn k) := by
        show o1 = true ↔ Inn k
        rw [← ho1, decide_eq_true_eq, Inn, Hzk.out, Hdk.out]
        exact ⟨fun h => ⟨rfl, h⟩, fun h => h.2⟩
      clear ho1
      by_cases hl0 : zl = 0
      · subst hl0
        obtain ⟨l0, l1, l2, l3, l4⟩ := (xl.below hbW_Wc (by omega)).cells
        gi_wp2_with fail
        refine ⟨trivial, ?_⟩
        have q := depth_any l w.heap.size Wc (by omega) (HL.out.keep hbw_Wc (Nat.le_refl _))
        rw [V.val_eq] at q
        refine (callsIn_wide.2 q).mono ?_
        clear q
        obtain ⟨dl, hdl⟩ : ∃ dl, mx (l.all 1) = dl := ⟨_, rfl⟩
        have Hdl := hide hdl
        rw [hdl]
        clear hdl
        rintro e Wd ⟨rfl, hb_Wd⟩
        clear l0 l1 l2 l3 l4
        have hs_Wd := hb_Wd.size
        have hbW_Wd : Below W0.heap.size W0 Wd := belOn hbW_Wc (by omega) hb_Wd
        have hbw_Wd : Below w.heap.size w Wd := belOn hbw_Wc (by omega) hb_Wd
        have HO2D : Hid (decide (dl < 32) = true ↔ Inn l) := by
          show decide (dl < 32) = true ↔ Inn l
          rw [decide_eq_true_eq, Inn, Hzl.out, Hdl.out]
          exact ⟨fun h => ⟨rfl, h⟩, fun h => h.2⟩
        obtain ⟨k0, k1, k2, k3, k4⟩ := (xk.below hbW_Wd (by omega)).cells
        obtain ⟨l0, l1, l2, l3, l4⟩ := (xl.below hbW_Wd (by omega)).cells
        gi_wp2_with fail
        refine ⟨trivial, ?_⟩
        obtain ⟨o2, ho2⟩ : ∃ o2, decide (dl < 32) = o2 := ⟨_, rfl⟩
        rw [ho2]
        have HO2 : Hid (o2 = true ↔ Inn l) := by rw [← ho2]; exact HO2D
        clear ho2 HO2D
        have q := order_any k l w.heap.size Wd (by omega) (HK.out.keep hbw_Wd (Nat.le_refl _)) (HL.out.keep hbw_Wd (Nat.le_refl _))
        rw [V.val_eq, V.val_eq] at q
        refine (callsIn_wide.2 q).mono ?_
        clear q
        obtain ⟨od, hod⟩ : ∃ od, T.ord k.t l.t = od := ⟨_, rfl⟩
        have Hod := hide hod
        rw [hod]
        clear hod
        obtain ⟨ob, hob⟩ : ∃ ob : Bool, ((od : Int) != 0) = ob := ⟨_, rfl⟩
        have HOB : Hid (ob = true ↔ od ≠ 0) := by
          show ob = true ↔ od ≠ 0
          rw [← hob]; simp
        rintro e We ⟨rfl, hb_We⟩
        clear k0 k1 k2 k3 k4
        clear l0 l1 l2 l3 l4
        have hs_We := hb_We.size
        have hbW_We : Below W0.heap.size W0 We := belOn hbW_Wd (by omega) hb_We
        have hbw_We : Below w.heap.size w We := belOn hbw_Wd (by omega) hb_We
        obtain ⟨v0, v1, v2, v3, v4⟩ := (xv.below hbW_We (by omega)).cells
        obtain ⟨k0, k1, k2, k3, k4⟩ := (xk.below hbW_We (by omega)).cells
        obtain ⟨l0, l1, l2, l3, l4⟩ := (xl.below hbW_We (by omega)).cells
        gi_wp2_with fail
        refine ⟨trivial, ?_⟩
        obtain ⟨Wf, hWf⟩ : ∃ Wf, We.alloc (Obj.cells #[.int .i64 k.k, .int .u64 k.n, .string k.s, .slice k.a k.l.length k.c, .int .i64 k.e, .int .i64 v.k, .int .u64 v.n, .string v.s, .slice v.a v.l.length v.c, .int .i64 v.e, .int .i64 l.k, .int .u64 l.n, .string l.s, .slice l.a l.l.length l.c, .int .i64 l.e, .int .i64 k.k, .int .u64 k.n, .string k.s, .slice k.a k.l.length k.c, .int .i64 k.e] 25) = Wf := ⟨_, rfl⟩
        have hs_f : Wf.heap.size = We.heap.size + 1 := by rw [← hWf]; simp
        have hb_Wf : Below We.heap.size We Wf := by rw [← hWf]; exact bel1 (Below.refl _ _) (Nat.le_refl _) _
        have xrow : Row Wf We.heap.size 0 [k, v, l, k] := row4s (by rw [← hWf]; exact World.alloc_heap_new _ _)
        rw [hWf]
        clear hWf
        clear v0 v1 v2 v3 v4
        clear k0 k1 k2 k3 k4
        clear l0 l1 l2 l3 l4
        have hs_Wf := hb_Wf.size
        have hbW_Wf : Below W0.heap.size W0 Wf := belOn hbW_We (by omega) hb_Wf
        have hbw_Wf : Below w.heap.size w Wf := belOn hbw_We (by omega) hb_Wf
        refine (callsIn_wide.2 (mappedO_any [k, v, l, k] (some ⟨We.heap.size, 0, none⟩) 4 Wf.heap.size Wf (Nat.le_refl _) (by simp) (by simp) (fun _ => ⟨We.heap.size, 0, rfl, by omega, xrow⟩) ?_)).mono ?_
        · intro x hx
          simp only [List.mem_cons, List.not_mem_nil, or_false] at hx
          rcases hx with rfl | rfl | rfl | rfl
          · exact (HK.out.keep hbw_Wf (Nat.le_refl _)).mono (by omega)
          · exact (HV.out.keep hbw_Wf (Nat.le_refl _)).mono (by omega)
          · exact (HL.out.keep hbw_Wf (Nat.le_refl _)).mono (by omega)
          · exact (HK.out.keep hbw_Wf (Nat.le_refl _)).mono (by omega)
        rintro e Wg ⟨m, rfl, HM, hb_Wg⟩
        clear xrow
        have hs_Wg := hb_Wg.size
        have hbW_Wg : Below W0.heap.size W0 Wg := belOn hbW_Wf (by omega) hb_Wg
        have hbw_Wg : Below w.heap.size w Wg := belOn hbw_Wf (by omega) hb_Wg
        gi_wp2_with fail
        refine ⟨trivial, ?_⟩
        obtain ⟨Wh, hWh⟩ : ∃ Wh, Wg.alloc (Obj.cells #[.int .i64 m.k, .int .u64 m.n, .string m.s, .slice m.a m.l.length m.c, .int .i64 m.e] 25) = Wh := ⟨_, rfl⟩
        have hs_h : Wh.heap.size = Wg.heap.size + 1 := by rw [← hWh]; simp
        have hb_Wh : Below Wg.heap.size Wg Wh := by rw [← hWh]; exact bel1 (Below.refl _ _) (Nat.le_refl _) _
        have xm : BoxV Wh Wg.heap.size m := by rw [← hWh]; exact World.alloc_heap_new _ _
        rw [hWh]
        clear hWh
        have hs_Wh := hb_Wh.size
        have hbW_Wh : Below W0.heap.size W0 Wh := belOn hbW_Wg (by omega) hb_Wh
        have hbw_Wh : Below w.heap.size w Wh := belOn hbw_Wg (by omega) hb_Wh
        have HML : Hid (Lies Wg.heap.size Wh m) := LiesIn.keep HM.out.2.1 (fun b hb o => hb_Wh.cell (p := ⟨b, o, none⟩) hb.2) (fun b hb => hb.2)
        have q := check_any m Wg.heap.size Wh (by omega) HML.out (tabs_below HT.out hbw_Wh)
        rw [V.val_eq] at q
        refine (callsIn_wide.2 q).mono ?_
        clear q
        have HMI : Hid (firstE checkZ (m.all 1) = 0 ↔ Inn v ∧ Inn k ∧ Inn l ∧ od ≠ 0) := by
          have := map_iff v k l m HM.out.1 hwv hwk hwl
          rw [Hod.out] at this
          exact this
        obtain ⟨zm, hzm⟩ : ∃ zm, firstE checkZ (m.all 1) = zm := ⟨_, rfl⟩
        rw [hzm] at HMI ⊢
        clear hzm
        rintro e Wi ⟨rfl, hb_Wi⟩
        have hs_Wi := hb_Wi.size
        have hbW_Wi : Below W0.heap.size W0 Wi := belOn hbW_Wh (by omega) hb_Wi
        have hbw_Wi : Below w.heap.size w Wi := belOn hbw_Wh (by omega) hb_Wi
        have xm_i : BoxV Wi Wg.heap.size m := xm.below hb_Wi (by omega)
        clear xm
        by_cases hm0 : zm = 0
        · exact absurd trivial (fun _ => by exact HNI.out (HMI.out.1 hm0).1)
        · have hmb : (zm == 0) = false := by simp [hm0]
          have xr_Wi : Boxed Wi (w.heap.size + 1 + 1 + 1) 4 (.bool false) := (hbW_Wi.block _ (by omega)).trans xr
          have rc := xr_Wi.cell
          have rf := xr_Wi.frozen
          gi_wp2
          all_goals
            refine ⟨.bool true, ?_, rfl, hbw_Wi.setCell (p := ⟨w.heap.size + 1 + 1 + 1, 0, none⟩) (by show w.heap.size ≤ w.heap.size + 1 + 1 + 1; omega) _⟩
            simp only [results, Tryd.f7, go_sem]
            simp [(xr_Wi.set (.bool true)).cell]
      · have hlb : (zl == 0) = false := by simp [hl0]
        gi_wp2_with fail
        refine ⟨trivial, ?_⟩
        have HN2 : Hid (¬ Inn l) := fun h => hl0 (by rw [← Hzl.out]; exact h.1)
        obtain ⟨k0, k1, k2, k3, k4⟩ := (xk.below hbW_Wc (by omega)).cells
        obtain ⟨l0, l1, l2, l3, l4⟩ := (xl.below hbW_Wc (by omega)).cells
        gi_wp2_with fail
        refine ⟨trivial, ?_⟩
        have q := order_any k l w.heap.size Wc (by omega) (HK.out.keep hbw_Wc (Nat.le_refl _)) (HL.out.keep hbw_Wc (Nat.le_refl _))
        rw [V.val_eq, V.val_eq] at q
        refine (callsIn_wide.2 q).mono ?_
        clear q
        obtain ⟨od, hod⟩ : ∃ od, T.ord k.t l.t = od := ⟨_, rfl⟩
        have Hod := hide hod
        rw [hod]
        clear hod
        obtain ⟨ob, hob⟩ : ∃ ob : Bool, ((od : Int) != 0) = ob := ⟨_, rfl⟩
        have HOB : Hid (ob = true ↔ od ≠ 0) := by
          show ob = true ↔ od ≠ 0
          rw [← hob]; simp
        rintro e We ⟨rfl, hb_We⟩
        clear k0 k1 k2 k3 k4
        clear l0 l1 l2 l3 l4
        have hs_We := hb_We.size
        have hbW_We : Below W0.heap.size W0 We := belOn hbW_Wc (by omega) hb_We
        have hbw_We : Below w.heap.size w We := belOn hbw_Wc (by omega) hb_We
        obtain ⟨v0, v1, v2, v3, v4⟩ := (xv.below hbW_We (by omega)).cells
        obtain ⟨k0, k1, k2, k3, k4⟩ := (xk.below hbW_We (by omega)).cells
        obtain ⟨l0, l1, l2, l3, l4⟩ := (xl.below hbW_We (by omega)).cells
        gi_wp2_with fail
        refine ⟨trivial, ?_⟩
        obtain ⟨Wf, hWf⟩ : ∃ Wf, We.alloc (Obj.cells #[.int .i64 k.k, .int .u64 k.n, .string k.s, .slice k.a k.l.length k.c, .int .i64 k.e, .int .i64 v.k, .int .u64 v.n, .string v.s, .slice v.a v.l.length v.c, .int .i64 v.e, .int .i64 l.k, .int .u64 l.n, .string l.s, .slice l.a l.l.length l.c, .int .i64 l.e, .int .i64 k.k, .int .u64 k.n, .string k.s, .slice k.a k.l.length k.c, .int .i64 k.e] 25) = Wf := ⟨_, rfl⟩
        have hs_f : Wf.heap.size = We.heap.size + 1 := by rw [← hWf]; simp
        have hb_Wf : Below We.heap.size We Wf := by rw [← hWf]; exact bel1 (Below.refl _ _) (Nat.le_refl _) _
        have xrow : Row Wf We.heap.size 0 [k, v, l, k] := row4s (by rw [← hWf]; exact World.alloc_heap_new _ _)
        rw [hWf]
        clear hWf
        clear v0 v1 v2 v3 v4
        clear k0 k1 k2 k3 k4
        clear l0 l1 l2 l3 l4
        have hs_Wf := hb_Wf.size
        have hbW_Wf : Below W0.heap.size W0 Wf := belOn hbW_We (by omega) hb_Wf
        have hbw_Wf : Below w.heap.size w Wf := belOn hbw_We (by omega) hb_Wf
        refine (callsIn_wide.2 (mappedO_any [k, v, l, k] (some ⟨We.heap.size, 0, none⟩) 4 Wf.heap.size Wf (Nat.le_refl _) (by simp) (by simp) (fun _ => ⟨We.heap.size, 0, rfl, by omega, xrow⟩) ?_)).mono ?_
        · intro x hx
          simp only [List.mem_cons, List.not_mem_nil, or_false] at hx
          rcases hx with rfl | rfl | rfl | rfl
          · exact (HK.out.keep hbw_Wf (Nat.le_refl _)).mono (by omega)
          · exact (HV.out.keep hbw_Wf (Nat.le_refl _)).mono (by omega)
          · exact (HL.out.keep hbw_Wf (Nat.le_refl _)).mono (by omega)
          · exact (HK.out.keep hbw_Wf (Nat.le_refl _)).mono (by omega)
        rintro e Wg ⟨m, rfl, HM, hb_Wg⟩
        clear xrow
        have hs_Wg := hb_Wg.size
        have hbW_Wg : Below W0.heap.size W0 Wg := belOn hbW_Wf (by omega) hb_Wg
        have hbw_Wg : Below w.heap.size w Wg := belOn hbw_Wf (by omega) hb_Wg
        gi_wp2_with fail
        refine ⟨trivial, ?_⟩
        obtain ⟨Wh, hWh⟩ : ∃ Wh, Wg.alloc (Obj.cells #[.int .i64 m.k, .int .u64 m.n, .string m.s, .slice m.a m.l.length m.c, .int .i64 m.e] 25) = Wh := ⟨_, rfl⟩
        have hs_h : Wh.heap.size = Wg.heap.size + 1 := by rw [← hWh]; simp
        have hb_Wh : Below Wg.heap.size Wg Wh := by rw [← hWh]; exact bel1 (Below.refl _ _) (Nat.le_refl _) _
        have xm : BoxV Wh Wg.heap.size m := by rw [← hWh]; exact World.alloc_heap_new _ _
        rw [hWh]
        clear hWh
        have hs_Wh := hb_Wh.size
        have hbW_Wh : Below W0.heap.size W0 Wh := belOn hbW_Wg (by omega) hb_Wh
        have hbw_Wh : Below w.heap.size w Wh := belOn hbw_Wg (by omega) hb_Wh
        have HML : Hid (Lies Wg.heap.size Wh m) := LiesIn.keep HM.out.2.1 (fun b hb o => hb_Wh.cell (p := ⟨b, o, none⟩) hb.2) (fun b hb => hb.2)
        have q := check_any m Wg.heap.size Wh (by omega) HML.out (tabs_below HT.out hbw_Wh)
        rw [V.val_eq] at q
        refine (callsIn_wide.2 q).mono ?_
        clear q
        have HMI : Hid (firstE checkZ (m.all 1) = 0 ↔ Inn v ∧ Inn k ∧ Inn l ∧ od ≠ 0) := by
          have := map_iff v k l m HM.out.1 hwv hwk hwl
          rw [Hod.out] at this
          exact this
        obtain ⟨zm, hzm⟩ : ∃ zm, firstE checkZ (m.all 1) = zm := ⟨_, rfl⟩
        rw [hzm] at HMI ⊢
        clear hzm
        rintro e Wi ⟨rfl, hb_Wi⟩
        have hs_Wi := hb_Wi.size
        have hbW_Wi : Below W0.heap.size W0 Wi := belOn hbW_Wh (by omega) hb_Wi
        have hbw_Wi : Below w.heap.size w Wi := belOn hbw_Wh (by omega) hb_Wi
        have xm_i : BoxV Wi Wg.heap.size m := xm.below hb_Wi (by omega)
        clear xm
        by_cases hm0 : zm = 0
        · exact absurd trivial (fun _ => by exact HNI.out (HMI.out.1 hm0).1)
        · have hmb : (zm == 0) = false := by simp [hm0]
          have xr_Wi : Boxed Wi (w.heap.size + 1 + 1 + 1) 4 (.bool false) := (hbW_Wi.block _ (by omega)).trans xr
          have rc := xr_Wi.cell
          have rf := xr_Wi.frozen
          gi_wp2
          all_goals
            refine ⟨.bool true, ?_, rfl, hbw_Wi.setCell (p := ⟨w.heap.size + 1 + 1 + 1, 0, none⟩) (by show w.heap.size ≤ w.heap.size + 1 + 1 + 1; omega) _⟩
            simp only [results, Tryd.f7, go_sem]
            simp [(xr_Wi.set (.bool true)).cell]
    · have hkb : (zk == 0) = false := by simp [hk0]
      gi_wp2_with fail
      refine ⟨trivial, ?_⟩
      have HN1 : Hid (¬ Inn k) := fun h => hk0 (by rw [← Hzk.out]; exact h.1)
      obtain ⟨l0, l1, l2, l3, l4⟩ := (xl.below hbW_Wa (by omega)).cells
      gi_wp2_with fail
      refine ⟨trivial, ?_⟩
      have q := check_any l w.heap.size Wa (by omega) (HL.out.keep hbw_Wa (Nat.le_refl _)) (tabs_below HT.out hbw_Wa)
      rw [V.val_eq] at q
      refine (callsIn_wide.2 q).mono ?_
      clear q
      obtain ⟨zl, hzl⟩ : ∃ zl, firstE checkZ (l.all 1) = zl := ⟨_, rfl⟩
      have Hzl := hide hzl
      rw [hzl]
      clear hzl
      rintro e Wc ⟨rfl, hb_Wc⟩
      clear l0 l1 l2 l3 l4
      have hs_Wc := hb_Wc.size
      have hbW_Wc : Below W0.heap.size W0 Wc := belOn hbW_Wa (by omega) hb_Wc
      have hbw_Wc : Below w.heap.size w Wc := belOn hbw_Wa (by omega) hb_Wc
      by_cases hl0 : zl = 0
      · subst hl0
        obtain ⟨l0, l1, l2, l3, l4⟩ := (xl.below hbW_Wc (by omega)).cells
        gi_wp2_with fail
        refine ⟨trivial, ?_⟩
        have q := depth_any l w.heap.size Wc (by omega) (HL.out.keep hbw_Wc (Nat.le_refl _))
        rw [V.val_eq] at q
        refine (callsIn_wide.2 q).mono ?_
        clear q
        obtain ⟨dl, hdl⟩ : ∃ dl, mx (l.all 1) = dl := ⟨_, rfl⟩
        have Hdl := hide hdl
        rw [hdl]
        clear hdl
        rintro e Wd ⟨rfl, hb_Wd⟩
        clear l0 l1 l2 l3 l4
        have hs_Wd := hb_Wd.size
        have hbW_Wd : Below W0.heap.size W0 Wd := belOn hbW_Wc (by omega) hb_Wd
        have hbw_Wd : Below w.heap.size w Wd := belOn hbw_Wc (by omega) hb_Wd
        have HO2D : Hid (decide (dl < 32) = true ↔ Inn l) := by
          show decide (dl < 32) = true ↔ Inn l
          rw [decide_eq_true_eq, Inn, Hzl.out, Hdl.out]
          exact ⟨fun h => ⟨rfl, h⟩, fun h => h.2⟩
        obtain ⟨k0, k1, k2, k3, k4⟩ := (xk.below hbW_Wd (by omega)).cells
        obtain ⟨l0, l1, l2, l3, l4⟩ := (xl.below hbW_Wd (by omega)).cells
        gi_wp2_with fail
        refine ⟨trivial, ?_⟩
        obtain ⟨o2, ho2⟩ : ∃ o2, decide (dl < 32) = o2 := ⟨_, rfl⟩
        rw [ho2]
        have HO2 : Hid (o2 = true ↔ Inn l) := by rw [← ho2]; exact HO2D
        clear ho2 HO2D
        have q := order_any k l w.heap.size Wd (by omega) (HK.out.keep hbw_Wd (Nat.le_refl _)) (HL.out.keep hbw_Wd (Nat.le_refl _))
        rw [V.val_eq, V.val_eq] at q
        refine (callsIn_wide.2 q).mono ?_
        clear q
        obtain ⟨od, hod⟩ : ∃ od, T.ord k.t l.t = od := ⟨_, rfl⟩
        have Hod := hide hod
        rw [hod]
        clear hod
        obtain ⟨ob, hob⟩ : ∃ ob : Bool, ((od : Int) != 0) = ob := ⟨_, rfl⟩
        have HOB : Hid (ob = true ↔ od ≠ 0) := by
          show ob = true ↔ od ≠ 0
          rw [← hob]; simp
        rintro e We ⟨rfl, hb_We⟩
        clear k0 k1 k2 k3 k4
        clear l0 l1 l2 l3 l4
        have hs_We := hb_We.size
        have hbW_We : Below W0.heap.size W0 We := belOn hbW_Wd (by omega) hb_We
        have hbw_We : Below w.heap.size w We := belOn hbw_Wd (by omega) hb_We
        obtain ⟨v0, v1, v2, v3, v4⟩ := (xv.below hbW_We (by omega)).cells
        obtain ⟨k0, k1, k2, k3, k4⟩ := (xk.below hbW_We (by omega)).cells
        obtain ⟨l0, l1, l2, l3, l4⟩ := (xl.below hbW_We (by omega)).cells
        gi_wp2_with fail
        refine ⟨trivial, ?_⟩
        obtain ⟨Wf, hWf⟩ : ∃ Wf, We.alloc (Obj.cells #[.int .i64 k.k, .int .u64 k.n, .string k.s, .slice k.a k.l.length k.c, .int .i64 k.e, .int .i64 v.k, .int .u64 v.n, .string v.s, .slice v.a v.l.length v.c, .int .i64 v.e, .int .i64 l.k, .int .u64 l.n, .string l.s, .slice l.a l.l.length l.c, .int .i64 l.e, .int .i64 k.k, .int .u64 k.n, .string k.s, .slice k.a k.l.length k.c, .int .i64 k.e] 25) = Wf := ⟨_, rfl⟩
        have hs_f : Wf.heap.size = We.heap.size + 1 := by rw [← hWf]; simp
        have hb_Wf : Below We.heap.size We Wf := by rw [← hWf]; exact bel1 (Below.refl _ _) (Nat.le_refl _) _
        have xrow : Row Wf We.heap.size 0 [k, v, l, k] := row4s (by rw [← hWf]; exact World.alloc_heap_new _ _)
        rw [hWf]
        clear hWf
        clear v0 v1 v2 v3 v4
        clear k0 k1 k2 k3 k4
        clear l0 l1 l2 l3 l4
        have hs_Wf := hb_Wf.size
        have hbW_Wf : Below W0.heap.size W0 Wf := belOn hbW_We (by omega) hb_Wf
        have hbw_Wf : Below w.heap.size w Wf := belOn hbw_We (by omega) hb_Wf
        refine (callsIn_wide.2 (mappedO_any [k, v, l, k] (some ⟨We.heap.size, 0, none⟩) 4 Wf.heap.size Wf (Nat.le_refl _) (by simp) (by simp) (fun _ => ⟨We.heap.size, 0, rfl, by omega, xrow⟩) ?_)).mono ?_
        · intro x hx
          simp only [List.mem_cons, List.not_mem_nil, or_false] at hx
          rcases hx with rfl | rfl | rfl | rfl
          · exact (HK.out.keep hbw_Wf (Nat.le_refl _)).mono (by omega)
          · exact (HV.out.keep hbw_Wf (Nat.le_refl _)).mono (by omega)
          · exact (HL.out.keep hbw_Wf (Nat.le_refl _)).mono (by omega)
          · exact (HK.out.keep hbw_Wf (Nat.le_refl _)).mono (by omega)
        rintro e Wg ⟨m, rfl, HM, hb_Wg⟩
        clear xrow
        have hs_Wg := hb_Wg.size
        have hbW_Wg : Below W0.heap.size W0 Wg := belOn hbW_Wf (by omega) hb_Wg
        have hbw_Wg : Below w.heap.size w Wg := belOn hbw_Wf (by omega) hb_Wg
        gi_wp2_with fail
        refine ⟨trivial, ?_⟩
        obtain ⟨Wh, hWh⟩ : ∃ Wh, Wg.alloc (Obj.cells #[.int .i64 m.k, .int .u64 m.n, .string m.s, .slice m.a m.l.length m.c, .int .i64 m.e] 25) = Wh := ⟨_, rfl⟩
        have hs_h : Wh.heap.size = Wg.heap.size + 1 := by rw [← hWh]; simp
        have hb_Wh : Below Wg.heap.size Wg Wh := by rw [← hWh]; exact bel1 (Below.refl _ _) (Nat.le_refl _) _
        have xm : BoxV Wh Wg.heap.size m := by rw [← hWh]; exact World.alloc_heap_new _ _
        rw [hWh]
        clear hWh
        have hs_Wh := hb_Wh.size
        have hbW_Wh : Below W0.heap.size W0 Wh := belOn hbW_Wg (by omega) hb_Wh
        have hbw_Wh : Below w.heap.size w Wh := belOn hbw_Wg (by omega) hb_Wh
        have HML : Hid (Lies Wg.heap.size Wh m) := LiesIn.keep HM.out.2.1 (fun b hb o => hb_Wh.cell (p := ⟨b, o, none⟩) hb.2) (fun b hb => hb.2)
        have q := check_any m Wg.heap.size Wh (by omega) HML.out (tabs_below HT.out hbw_Wh)
        rw [V.val_eq] at q
        refine (callsIn_wide.2 q).mono ?_
        clear q
        have HMI : Hid (firstE checkZ (m.all 1) = 0 ↔ Inn v ∧ Inn k ∧ Inn l ∧ od ≠ 0) := by
          have := map_iff v k l m HM.out.1 hwv hwk hwl
          rw [Hod.out] at this
          exact this
        obtain ⟨zm, hzm⟩ : ∃ zm, firstE checkZ (m.all 1) = zm := ⟨_, rfl⟩
        rw [hzm] at HMI ⊢
        clear hzm
        rintro e Wi ⟨rfl, hb_Wi⟩
        have hs_Wi := hb_Wi.size
        have hbW_Wi : Below W0.heap.size W0 Wi := belOn hbW_Wh (by omega) hb_Wi
        have hbw_Wi : Below w.heap.size w Wi := belOn hbw_Wh (by omega) hb_Wi
        have xm_i : BoxV Wi Wg.heap.size m := xm.below hb_Wi (by omega)
        clear xm
        by_cases hm0 : zm = 0
        · exact absurd trivial (fun _ => by exact HNI.out (HMI.out.1 hm0).1)
        · have hmb : (zm == 0) = false := by simp [hm0]
          have xr_Wi : Boxed Wi (w.heap.size + 1 + 1 + 1) 4 (.bool false) := (hbW_Wi.block _ (by omega)).trans xr
          have rc := xr_Wi.cell
          have rf := xr_Wi.frozen
          gi_wp2
          all_goals
            refine ⟨.bool true, ?_, rfl, hbw_Wi.setCell (p := ⟨w.heap.size + 1 + 1 + 1, 0, none⟩) (by show w.heap.size ≤ w.heap.size + 1 + 1 + 1; omega) _⟩
            simp only [results, Tryd.f7, go_sem]
            simp [(xr_Wi.set (.bool true)).cell]
      · have hlb : (zl == 0) = false := by simp [hl0]
        gi_wp2_with fail
        refine ⟨trivial, ?_⟩
        have HN2 : Hid (¬ Inn l) := fun h => hl0 (by rw [← Hzl.out]; exact h.1)
        obtain ⟨k0, k1, k2, k3, k4⟩ := (xk.below hbW_Wc (by omega)).cells
        obtain ⟨l0, l1, l2, l3, l4⟩ := (xl.below hbW_Wc (by omega)).cells
        gi_wp2_with fail
        refine ⟨trivial, ?_⟩
        have q := order_any k l w.heap.size Wc (by omega) (HK.out.keep hbw_Wc (Nat.le_refl _)) (HL.out.keep hbw_Wc (Nat.le_refl _))
        rw [V.val_eq, V.val_eq] at q
        refine (callsIn_wide.2 q).mono ?_
        clear q
        obtain ⟨od, hod⟩ : ∃ od, T.ord k.t l.t = od := ⟨_, rfl⟩
        have Hod := hide hod
        rw [hod]
        clear hod
        obtain ⟨ob, hob⟩ : ∃ ob : Bool, ((od : Int) != 0) = ob := ⟨_, rfl⟩
        have HOB : Hid (ob = true ↔ od ≠ 0) := by
          show ob = true ↔ od ≠ 0
          rw [← hob]; simp
        rintro e We ⟨rfl, hb_We⟩
        clear k0 k1 k2 k3 k4
        clear l0 l1 l2 l3 l4
        have hs_We := hb_We.size
        have hbW_We : Below W0.heap.size W0 We := belOn hbW_Wc (by omega) hb_We
        have hbw_We : Below w.heap.size w We := belOn hbw_Wc (by omega) hb_We
        obtain ⟨v0, v1, v2, v3, v4⟩ := (xv.below hbW_We (by omega)).cells
        obtain ⟨k0, k1, k2, k3, k4⟩ := (xk.below hbW_We (by omega)).cells
        obtain ⟨l0, l1, l2, l3, l4⟩ := (xl.below hbW_We (by omega)).cells
        gi_wp2_with fail
        refine ⟨trivial, ?_⟩
        obtain ⟨Wf, hWf⟩ : ∃ Wf, We.alloc (Obj.cells #[.int .i64 k.k, .int .u64 k.n, .string k.s, .slice k.a k.l.length k.c, .int .i64 k.e, .int .i64 v.k, .int .u64 v.n, .string v.s, .slice v.a v.l.length v.c, .int .i64 v.e, .int .i64 l.k, .int .u64 l.n, .string l.s, .slice l.a l.l.length l.c, .int .i64 l.e, .int .i64 k.k, .int .u64 k.n, .string k.s, .slice k.a k.l.length k.c, .int .i64 k.e] 25) = Wf := ⟨_, rfl⟩
        have hs_f : Wf.heap.size = We.heap.size + 1 := by rw [← hWf]; simp
        have hb_Wf : Below We.heap.size We Wf := by rw [← hWf]; exact bel1 (Below.refl _ _) (Nat.le_refl _) _
        have xrow : Row Wf We.heap.size 0 [k, v, l, k] := row4s (by rw [← hWf]; exact World.alloc_heap_new _ _)
        rw [hWf]
        clear hWf
        clear v0 v1 v2 v3 v4
        clear k0 k1 k2 k3 k4
        clear l0 l1 l2 l3 l4
        have hs_Wf := hb_Wf.size
        have hbW_Wf : Below W0.heap.size W0 Wf := belOn hbW_We (by omega) hb_Wf
        have hbw_Wf : Below w.heap.size w Wf := belOn hbw_We (by omega) hb_Wf
        refine (callsIn_wide.2 (mappedO_any [k, v, l, k] (some ⟨We.heap.size, 0, none⟩) 4 Wf.heap.size Wf (Nat.le_refl _) (by simp) (by simp) (fun _ => ⟨We.heap.size, 0, rfl, by omega, xrow⟩) ?_)).mono ?_
        · intro x hx
          simp only [List.mem_cons, List.not_mem_nil, or_false] at hx
          rcases hx with rfl | rfl | rfl | rfl
          · exact (HK.out.keep hbw_Wf (Nat.le_refl _)).mono (by omega)
          · exact (HV.out.keep hbw_Wf (Nat.le_refl _)).mono (by omega)
          · exact (HL.out.keep hbw_Wf (Nat.le_refl _)).mono (by omega)
          · exact (HK.out.keep hbw_Wf (Nat.le_refl _)).mono (by omega)
        rintro e Wg ⟨m, rfl, HM, hb_Wg⟩
        clear xrow
        have hs_Wg := hb_Wg.size
        have hbW_Wg : Below W0.heap.size W0 Wg := belOn hbW_Wf (by omega) hb_Wg
        have hbw_Wg : Below w.heap.size w Wg := belOn hbw_Wf (by omega) hb_Wg
        gi_wp2_with fail
        refine ⟨trivial, ?_⟩
        obtain ⟨Wh, hWh⟩ : ∃ Wh, Wg.alloc (Obj.cells #[.int .i64 m.k, .int .u64 m.n, .string m.s, .slice m.a m.l.length m.c, .int .i64 m.e] 25) = Wh := ⟨_, rfl⟩
        have hs_h : Wh.heap.size = Wg.heap.size + 1 := by rw [← hWh]; simp
        have hb_Wh : Below Wg.heap.size Wg Wh := by rw [← hWh]; exact bel1 (Below.refl _ _) (Nat.le_refl _) _
        have xm : BoxV Wh Wg.heap.size m := by rw [← hWh]; exact World.alloc_heap_new _ _
        rw [hWh]
        clear hWh
        have hs_Wh := hb_Wh.size
        have hbW_Wh : Below W0.heap.size W0 Wh := belOn hbW_Wg (by omega) hb_Wh
        have hbw_Wh : Below w.heap.size w Wh := belOn hbw_Wg (by omega) hb_Wh
        have HML : Hid (Lies Wg.heap.size Wh m) := LiesIn.keep HM.out.2.1 (fun b hb o => hb_Wh.cell (p := ⟨b, o, none⟩) hb.2) (fun b hb => hb.2)
        have q := check_any m Wg.heap.size Wh (by omega) HML.out (tabs_below HT.out hbw_Wh)
        rw [V.val_eq] at q
        refine (callsIn_wide.2 q).mono ?_
        clear q
        have HMI : Hid (firstE checkZ (m.all 1) = 0 ↔ Inn v ∧ Inn k ∧ Inn l ∧ od ≠ 0) := by
          have := map_iff v k l m HM.out.1 hwv hwk hwl
          rw [Hod.out] at this
          exact this
        obtain ⟨zm, hzm⟩ : ∃ zm, firstE checkZ (m.all 1) = zm := ⟨_, rfl⟩
        rw [hzm] at HMI ⊢
        clear hzm
        rintro e Wi ⟨rfl, hb_Wi⟩
        have hs_Wi := hb_Wi.size
        have hbW_Wi : Below W0.heap.size W0 Wi := belOn hbW_Wh (by omega) hb_Wi
        have hbw_Wi : Below w.heap.size w Wi := belOn hbw_Wh (by omega) hb_Wi
        have xm_i : BoxV Wi Wg.heap.size m := xm.below hb_Wi (by omega)
        clear xm
        by_cases hm0 : zm = 0
        · exact absurd trivial (fun _ => by exact HNI.out (HMI.out.1 hm0).1)
        · have hmb : (zm == 0) = false := by simp [hm0]
          have xr_Wi : Boxed Wi (w.heap.size + 1 + 1 + 1) 4 (.bool false) := (hbW_Wi.block _ (by omega)).trans xr
          have rc := xr_Wi.cell
          have rf := xr_Wi.frozen
          gi_wp2
          all_goals
            refine ⟨.bool true, ?_, rfl, hbw_Wi.setCell (p := ⟨w.heap.size + 1 + 1 + 1, 0, none⟩) (by show w.heap.size ≤ w.heap.size + 1 + 1 + 1; omega) _⟩
            simp only [results, Tryd.f7, go_sem]
            simp [(xr_Wi.set (.bool true)).cell]
  case inr.inl =>
    have hvlt7 : w.heap.size < w7.heap.size := by omega
    have hdlt7 : w4.heap.size < w7.heap.size := by omega
    gi_wp2_with fail
    refine ⟨trivial, ?_⟩
    clear v0 v1 v2 v3 v4 d7
    obtain ⟨W8, hW8⟩ : ∃ W8, w7.alloc (Obj.cells #[.int .i64 0] 3) = W8 := ⟨_, rfl⟩
    have hs8 : W8.heap.size = w7.heap.size + 1 := by rw [← hW8]; simp
    have hb8 : Below w7.heap.size w7 W8 := by rw [← hW8]; exact bel1 (Below.refl _ _) (Nat.le_refl _) _
    have xn8 : Boxed W8 w7.heap.size 3 (.int .i64 0) := by rw [← hW8]; exact World.alloc_heap_new _ _
    rw [hW8]
    clear hW8
    have hbW8 : Below W0.heap.size W0 W8 := belOn hbW7 (by omega) hb8
    have hbw8 : Below w.heap.size w W8 := belOn hbw7 (by omega) hb8
    have xd8 : Boxed W8 w4.heap.size 3 (.int .i64 dp) := (hb8.block _ (by omega)).trans xd7
    clear hb8 xd7
    refine (callsIn_wide.2 (allf_any v w.heap.size W8 (by omega) (HV.out.keep hbw8 (Nat.le_refl _)))).mono ?_
    rintro e w9 ⟨B, y2, rfl, HY2, hb9⟩
    have hs9 := hb9.size
    have hbW9 : Below W0.heap.size W0 w9 := belOn hbW8 (by omega) hb9
    have hbw9 : Below w.heap.size w w9 := belOn hbw8 (by omega) hb9
    have xd9 : Boxed w9 w4.heap.size 3 (.int .i64 dp) := (hb9.block _ (by omega)).trans xd8
    have xn9 : Boxed w9 w7.heap.size 3 (.int .i64 0) := (hb9.block _ (by omega)).trans xn8
    clear hb9 xd8 xn8
    have heq : ∀ u, (binOp BinOp.eql 45 (.func (.func 44) #[] #[.pointer (some ⟨B, 0, none⟩)]) .nilFunc).run Tryd.prog u = .ok (.bool false) u := fun u => by
      first | rfl | (simp [binOp, Tryd.underlying45, go_sem]; done)
    gi_wp2_with fail
    rename_i Q' K hKK
    have REST : ∀ (D : Nat) (W : World), w9.heap.size ≤ D → W.heap[D]? = some (.deferred (some [])) → Below W0.heap.size W0 W → K { tmps := sTmps v k l y w.heap.size w1.heap.size w4.heap.size w7.heap.size B z zi dp true true false undef undef undef undef, defers := [{ target := .collected D, args := #[] }] } W := by
      intro D W hD hD_W hbW_W
      refine hKK _ _ ?_
      clear hKK
      have hs_W := hbW_W.size
      have hDlt : D < W.heap.size := (Array.getElem?_eq_some_iff.1 hD_W).1
      have hbw_W : Below w.heap.size w W := hb0.trans (hbW_W.mono (by omega))
      simp only [sTmps]
      have HYI : Hid (Inn v) := ⟨by rw [HZ.out]; exact HG.out.1 trivial, by rw [HDP.out]; exact hd⟩
      obtain ⟨k0, k1, k2, k3, k4⟩ := (xk.below hbW_W (by omega)).cells
      gi_wp2_with fail
      refine ⟨trivial, ?_⟩
      have q := check_any k w.heap.size W (by omega) (HK.out.keep hbw_W (Nat.le_refl _)) (tabs_below HT.out hbw_W)
      rw [V.val_eq] at q
      refine (callsIn_wide.2 q).mono ?_
      clear q
      obtain ⟨zk, hzk⟩ : ∃ zk, firstE checkZ (k.all 1) = zk := ⟨_, rfl⟩
      have Hzk := hide hzk
      rw [hzk]
      clear hzk
      rintro e Wa ⟨rfl, hb_Wa⟩
      clear k0 k1 k2 k3 k4
      have hs_Wa := hb_Wa.size
      have hbW_Wa : Below W0.heap.size W0 Wa := belOn hbW_W (by omega) hb_Wa
      have hbw_Wa : Below w.heap.size w Wa := belOn hbw_W (by omega) hb_Wa
      have hD_Wa : Wa.heap[D]? = some (.deferred (some [])) := (hb_Wa.block D (by omega)).trans hD_W
      by_cases hk0 : zk = 0
      · subst hk0
        obtain ⟨k0, k1, k2, k3, k4⟩ := (xk.below hbW_Wa (by omega)).cells
        gi_wp2_with fail
        refine ⟨trivial, ?_⟩
        have q := depth_any k w.heap.size Wa (by omega) (HK.out.keep hbw_Wa (Nat.le_refl _))
        rw [V.val_eq] at q
        refine (callsIn_wide.2 q).mono ?_
        clear q
        obtain ⟨dk, hdk⟩ : ∃ dk, mx (k.all 1) = dk := ⟨_, rfl⟩
        have Hdk := hide hdk
        rw [hdk]
        clear hdk
        rintro e Wb ⟨rfl, hb_Wb⟩
        clear k0 k1 k2 k3 k4
        have hs_Wb := hb_Wb.size
        have hbW_Wb : Below W0.heap.size W0 Wb := belOn hbW_Wa (by omega) hb_Wb
        have hbw_Wb : Below w.heap.size w Wb := belOn hbw_Wa (by omega) hb_Wb
        have hD_Wb : Wb.heap[D]? = some (.deferred (some [])) := (hb_Wb.block D (by omega)).trans hD_Wa
        obtain ⟨l0, l1, l2, l3, l4⟩ := (xl.below hbW_Wb (by omega)).cells
        gi_wp2_with fail
        refine ⟨trivial, ?_⟩
        have q := check_any l w.heap.size Wb (by omega) (HL.out.keep hbw_Wb (Nat.le_refl _)) (tabs_below HT.out hbw_Wb)
        rw [V.val_eq] at q
        refine (callsIn_wide.2 q).mono ?_
        clear q
        obtain ⟨zl, hzl⟩ : ∃ zl, firstE checkZ (l.all 1) = zl := ⟨_, rfl⟩
        have Hzl := hide hzl
        rw [hzl]
        clear hzl
        rintro e Wc ⟨rfl, hb_Wc⟩
        clear l0 l1 l2 l3 l4
        have hs_Wc := hb_Wc.size
        have hbW_Wc : Below W0.heap.size W0 Wc := belOn hbW_Wb (by omega) hb_Wc
        have hbw_Wc : Below w.heap.size w Wc := belOn hbw_Wb (by omega) hb_Wc
        have hD_Wc : Wc.heap[D]? = some (.deferred (some [])) := (hb_Wc.block D (by omega)).trans hD_Wb
        obtain ⟨o1, ho1⟩ : ∃ o1, decide (dk < 32) = o1 := ⟨_, rfl⟩
        rw [ho1]
        have HO1 : Hid (o1 = true ↔ Inn k) := by
          show o1 = true ↔ Inn k
          rw [← ho1, decide_eq_true_eq, Inn, Hzk.out, Hdk.out]
          exact ⟨fun h => ⟨rfl, h⟩, fun h => h.2⟩
        clear ho1
        by_cases hl0 : zl = 0
        · subst hl0
          obtain ⟨l0, l1, l2, l3, l4⟩ := (xl.below hbW_Wc (by omega)).cells
          gi_wp2_with fail
          refine ⟨trivial, ?_⟩
          have q := depth_any l w.heap.size Wc (by omega) (HL.out.keep hbw_Wc (Nat.le_refl _))
          rw [V.val_eq] at q
          refine (callsIn_wide.2 q).mono ?_
          clear q
          obtain ⟨dl, hdl⟩ : ∃ dl, mx (l.all 1) = dl := ⟨_, rfl⟩
          have Hdl := hide hdl
          rw [hdl]
          clear hdl
          rintro e Wd ⟨rfl, hb_Wd⟩
          clear l0 l1 l2 l3 l4
          have hs_Wd := hb_Wd.size
          have hbW_Wd : Below W0.heap.size W0 Wd := belOn hbW_Wc (by omega) hb_Wd
          have hbw_Wd : Below w.heap.size w Wd := belOn hbw_Wc (by omega) hb_Wd
          have hD_Wd : Wd.heap[D]? = some (.deferred (some [])) := (hb_Wd.block D (by omega)).trans hD_Wc
          have HO2D : Hid (decide (dl < 32) = true ↔ Inn l) := by
            show decide (dl < 32) = true ↔ Inn l
            rw [decide_eq_true_eq, Inn, Hzl.out, Hdl.out]
            exact ⟨fun h => ⟨rfl, h⟩, fun h => h.2⟩
          obtain ⟨k0, k1, k2, k3, k4⟩ := (xk.below hbW_Wd (by omega)).cells
          obtain ⟨l0, l1, l2, l3, l4⟩ := (xl.below hbW_Wd (by omega)).cells
          gi_wp2_with fail
          refine ⟨trivial, ?_⟩
          obtain ⟨o2, ho2⟩ : ∃ o2, decide (dl < 32) = o2 := ⟨_, rfl⟩
          rw [ho2]
          have HO2 : Hid (o2 = true ↔ Inn l) := by rw [← ho2]; exact HO2D
          clear ho2 HO2D
          have q := order_any k l w.heap.size Wd (by omega) (HK.out.keep hbw_Wd (Nat.le_refl _)) (HL.out.keep hbw_Wd (Nat.le_refl _))
          rw [V.val_eq, V.val_eq] at q
          refine (callsIn_wide.2 q).mono ?_
          clear q
          obtain ⟨od, hod⟩ : ∃ od, T.ord k.t l.t = od := ⟨_, rfl⟩
          have Hod := hide hod
          rw [hod]
          clear hod
          obtain ⟨ob, hob⟩ : ∃ ob : Bool, ((od : Int) != 0) = ob := ⟨_, rfl⟩
          have HOB : Hid (ob = true ↔ od ≠ 0) := by
            show ob = true ↔ od ≠ 0
            rw [← hob]; simp
          rintro e We ⟨rfl, hb_We⟩
          clear k0 k1 k2 k3 k4
          clear l0 l1 l2 l3 l4
          have hs_We := hb_We.size
          have hbW_We : Below W0.heap.size W0 We := belOn hbW_Wd (by omega) hb_We
          have hbw_We : Below w.heap.size w We := belOn hbw_Wd (by omega) hb_We
          have hD_We : We.heap[D]? = some (.deferred (some [])) := (hb_We.block D (by omega)).trans hD_Wd
          obtain ⟨v0, v1, v2, v3, v4⟩ := (xv.below hbW_We (by omega)).cells
          obtain ⟨k0, k1, k2, k3, k4⟩ := (xk.below hbW_We (by omega)).cells
          obtain ⟨l0, l1, l2, l3, l4⟩ := (xl.below hbW_We (by omega)).cells
          gi_wp2_with fail
          refine ⟨trivial, ?_⟩
          obtain ⟨Wf, hWf⟩ : ∃ Wf, We.alloc (Obj.cells #[.int .i64 k.k, .int .u64 k.n, .string k.s, .slice k.a k.l.length k.c, .int .i64 k.e, .int .i64 v.k, .int .u64 v.n, .string v.s, .slice v.a v.l.length v.c, .int .i64 v.e, .int .i64 l.k, .int .u64 l.n, .string l.s, .slice l.a l.l.length l.c, .int .i64 l.e, .int .i64 k.k, .int .u64 k.n, .string k.s, .slice k.a k.l.length k.c, .int .i64 k.e] 25) = Wf := ⟨_, rfl⟩
          have hs_f : Wf.heap.size = We.heap.size + 1 := by rw [← hWf]; simp
          have hb_Wf : Below We.heap.size We Wf := by rw [← hWf]; exact bel1 (Below.refl _ _) (Nat.le_refl _) _
          have xrow : Row Wf We.heap.size 0 [k, v, l, k] := row4s (by rw [← hWf]; exact World.alloc_heap_new _ _)
          rw [hWf]
          clear hWf
          clear v0 v1 v2 v3 v4
          clear k0 k1 k2 k3 k4
          clear l0 l1 l2 l3 l4
          have hs_Wf := hb_Wf.size
          have hbW_Wf : Below W0.heap.size W0 Wf := belOn hbW_We (by omega) hb_Wf
          have hbw_Wf : Below w.heap.size w Wf := belOn hbw_We (by omega) hb_Wf
          have hD_Wf : Wf.heap[D]? = some (.deferred (some [])) := (hb_Wf.block D (by omega)).trans hD_We
          refine (callsIn_wide.2 (mappedO_any [k, v, l, k] (some ⟨We.heap.size, 0, none⟩) 4 Wf.heap.size Wf (Nat.le_refl _) (by simp) (by simp) (fun _ => ⟨We.heap.size, 0, rfl, by omega, xrow⟩) ?_)).mono ?_
          · intro x hx
            simp only [List.mem_cons, List.not_mem_nil, or_false] at hx
            rcases hx with rfl | rfl | rfl | rfl
            · exact (HK.out.keep hbw_Wf (Nat.le_refl _)).mono (by omega)
            · exact (HV.out.keep hbw_Wf (Nat.le_refl _)).mono (by omega)
            · exact (HL.out.keep hbw_Wf (Nat.le_refl _)).mono (by omega)
            · exact (HK.out.keep hbw_Wf (Nat.le_refl _)).mono (by omega)
          rintro e Wg ⟨m, rfl, HM, hb_Wg⟩
          clear xrow
          have hs_Wg := hb_Wg.size
          have hbW_Wg : Below W0.heap.size W0 Wg := belOn hbW_Wf (by omega) hb_Wg
          have hbw_Wg : Below w.heap.size w Wg := belOn hbw_Wf (by omega) hb_Wg
          have hD_Wg : Wg.heap[D]? = some (.deferred (some [])) := (hb_Wg.block D (by omega)).trans hD_Wf
          gi_wp2_with fail
          refine ⟨trivial, ?_⟩
          obtain ⟨Wh, hWh⟩ : ∃ Wh, Wg.alloc (Obj.cells #[.int .i64 m.k, .int .u64 m.n, .string m.s, .slice m.a m.l.length m.c, .int .i64 m.e] 25) = Wh := ⟨_, rfl⟩
          have hs_h : Wh.heap.size = Wg.heap.size + 1 := by rw [← hWh]; simp
          have hb_Wh : Below Wg.heap.size Wg Wh := by rw [← hWh]; exact bel1 (Below.refl _ _) (Nat.le_refl _) _
          have xm : BoxV Wh Wg.heap.size m := by rw [← hWh]; exact World.alloc_heap_new _ _
          rw [hWh]
          clear hWh
          have hs_Wh := hb_Wh.size
          have hbW_Wh : Below W0.heap.size W0 Wh := belOn hbW_Wg (by omega) hb_Wh
          have hbw_Wh : Below w.heap.size w Wh := belOn hbw_Wg (by omega) hb_Wh
          have hD_Wh : Wh.heap[D]? = some (.deferred (some [])) := (hb_Wh.block D (by omega)).trans hD_Wg
          have HML : Hid (Lies Wg.heap.size Wh m) := LiesIn.keep HM.out.2.1 (fun b hb o => hb_Wh.cell (p := ⟨b, o, none⟩) hb.2) (fun b hb => hb.2)
          have q := check_any m Wg.heap.size Wh (by omega) HML.out (tabs_below HT.out hbw_Wh)
          rw [V.val_eq] at q
          refine (callsIn_wide.2 q).mono ?_
          clear q
          have HMI : Hid (firstE checkZ (m.all 1) = 0 ↔ Inn v ∧ Inn k ∧ Inn l ∧ od ≠ 0) := by
            have := map_iff v k l m HM.out.1 hwv hwk hwl
            rw [Hod.out] at this
            exact this
          obtain ⟨zm, hzm⟩ : ∃ zm, firstE checkZ (m.all 1) = zm := ⟨_, rfl⟩
          rw [hzm] at HMI ⊢
          clear hzm
          rintro e Wi ⟨rfl, hb_Wi⟩
          have hs_Wi := hb_Wi.size
          have hbW_Wi : Below W0.heap.size W0 Wi := belOn hbW_Wh (by omega) hb_Wi
          have hbw_Wi : Below w.heap.size w Wi := belOn hbw_Wh (by omega) hb_Wi
          have hD_Wi : Wi.heap[D]? = some (.deferred (some [])) := (hb_Wi.block D (by omega)).trans hD_Wh
          have xm_i : BoxV Wi Wg.heap.size m := xm.below hb_Wi (by omega)
          clear xm
          by_cases hm0 : zm = 0
          · obtain ⟨iv, ik, il, hod0⟩ := HMI.out.1 hm0
            have e1 : o1 = true := HO1.out.2 ik
            have e2 : o2 = true := HO2.out.2 il
            subst e1 e2
            have hF := hide (find4 v k l m HM.out.1)
            have hodn := hide hod0
            have e3 : ob = true := HOB.out.2 hod0
            subst e3
            clear iv ik il hod0
            subst hm0
            obtain ⟨m0, m1, m2, m3, m4⟩ := xm_i.cells
            obtain ⟨k0, k1, k2, k3, k4⟩ := (xk.below hbW_Wi (by omega)).cells
            gi_wp2_with fail
            refine ⟨trivial, ?_⟩
            have q := find_any m k Wg.heap.size Wi (by omega) (HML.out.keep hb_Wi (by omega)) ((HK.out.keep hbw_Wi (Nat.le_refl _)).mono (by omega))
            rw [V.val_eq, V.val_eq] at q
            refine (callsIn_wide.2 q).mono ?_
            clear q
            rintro e Wj ⟨a, ba, rfl, HA, hb_Wj⟩
            obtain rfl : ba = true := by rw [HA.out.1.1, hF.out.1]; rfl
            have HAT : Hid (a.t = v.t) := by
              have := HA.out.1.2
              rw [hF.out.1] at this
              exact this
            have HAL : Hid (Lies Wj.heap.size Wj a) := LiesIn.keep HA.out.2.1 (fun _ _ _ => rfl) (fun b hb => hb.2)
            clear HA m0 m1 m2 m3 m4
            clear k0 k1 k2 k3 k4
            have hs_Wj := hb_Wj.size
            have hbW_Wj : Below W0.heap.size W0 Wj := belOn hbW_Wi (by omega) hb_Wj
            have hbw_Wj : Below w.heap.size w Wj := belOn hbw_Wi (by omega) hb_Wj
            have hD_Wj : Wj.heap[D]? = some (.deferred (some [])) := (hb_Wj.block D (by omega)).trans hD_Wi
            have xm_j : BoxV Wj Wg.heap.size m := xm_i.below hb_Wj (by omega)
            obtain ⟨m0, m1, m2, m3, m4⟩ := xm_j.cells
            have hmlt : Wg.heap.size < Wj.heap.size := by omega
            have hllt : w.heap.size + 2 < Wj.heap.size := by omega
            obtain ⟨l0, l1, l2, l3, l4⟩ := (xl.below hbW_Wj (by omega)).cells
            gi_wp2_with fail
            refine ⟨trivial, ?_⟩
            obtain ⟨Wk, hWk⟩ : ∃ Wk, Wj.alloc (Obj.cells #[.int .i64 a.k, .int .u64 a.n, .string a.s, .slice a.a a.l.length a.c, .int .i64 a.e] 25) = Wk := ⟨_, rfl⟩
            have hs_k : Wk.heap.size = Wj.heap.size + 1 := by rw [← hWk]; simp
            have hb_Wk : Below Wj.heap.size Wj Wk := by rw [← hWk]; exact bel1 (Below.refl _ _) (Nat.le_refl _) _
            have xa : BoxV Wk Wj.heap.size a := by rw [← hWk]; exact World.alloc_heap_new _ _
            rw [hWk]
            clear hWk m0 m1 m2 m3 m4
            clear l0 l1 l2 l3 l4
            have hs_Wk := hb_Wk.size
            have hbW_Wk : Below W0.heap.size W0 Wk := belOn hbW_Wj (by omega) hb_Wk
            have hbw_Wk : Below w.heap.size w Wk := belOn hbw_Wj (by omega) hb_Wk
            have hD_Wk : Wk.heap[D]? = some (.deferred (some [])) := (hb_Wk.block D (by omega)).trans hD_Wj
            have HMK : Hid (Lies Wj.heap.size Wk m) := ((HML.out.keep hb_Wi (by omega)).keep hb_Wj (by omega)).keep hb_Wk (by omega) |>.mono (by omega)
            have q := find_any m l Wj.heap.size Wk (by omega) HMK.out ((HL.out.keep hbw_Wk (Nat.le_refl _)).mono (by omega))
            rw [V.val_eq, V.val_eq] at q
            refine (callsIn_wide.2 q).mono ?_
            clear q
            rintro e Wl ⟨b, bb, rfl, HB, hb_Wl⟩
            have hfl : Hid (findT m.t l.t = some k.t) := hF.out.2 (by rw [Hod.out]; exact hodn.out)
            obtain rfl : bb = true := by rw [HB.out.1.1, hfl.out]; rfl
            have HBT : Hid (b.t = k.t) := by
              have := HB.out.1.2
              rw [hfl.out] at this
              exact this
            have HBL : Hid (Lies Wl.heap.size Wl b) := LiesIn.keep HB.out.2.1 (fun _ _ _ => rfl) (fun b hb => hb.2)
            clear HB
            have hs_Wl := hb_Wl.size
            have hbW_Wl : Below W0.heap.size W0 Wl := belOn hbW_Wk (by omega) hb_Wl
            have hbw_Wl : Below w.heap.size w Wl := belOn hbw_Wk (by omega) hb_Wl
            have hD_Wl : Wl.heap[D]? = some (.deferred (some [])) := (hb_Wl.block D (by omega)).trans hD_Wk
            have xa_l : BoxV Wl Wj.heap.size a := xa.below hb_Wl (by omega)
            obtain ⟨a0, a1, a2, a3, a4⟩ := xa_l.cells
            have halt : Wj.heap.size < Wl.heap.size := by omega
            have hvlt : w.heap.size < Wl.heap.size := by omega
            obtain ⟨v0, v1, v2, v3, v4⟩ := (xv.below hbW_Wl (by omega)).cells
            gi_wp2_with fail
            refine ⟨trivial, ?_⟩
            obtain ⟨Wn, hWn⟩ : ∃ Wn, Wl.alloc (Obj.cells #[.int .i64 b.k, .int .u64 b.n, .string b.s, .slice b.a b.l.length b.c, .int .i64 b.e] 25) = Wn := ⟨_, rfl⟩
            have hs_n : Wn.heap.size = Wl.heap.size + 1 := by rw [← hWn]; simp
            have hb_Wn : Below Wl.heap.size Wl Wn := by rw [← hWn]; exact bel1 (Below.refl _ _) (Nat.le_refl _) _
            have xb : BoxV Wn Wl.heap.size b := by rw [← hWn]; exact World.alloc_heap_new _ _
            rw [hWn]
            clear hWn a0 a1 a2 a3 a4
            clear v0 v1 v2 v3 v4
            have hs_Wn := hb_Wn.size
            have hbW_Wn : Below W0.heap.size W0 Wn := belOn hbW_Wl (by omega) hb_Wn
            have hbw_Wn : Below w.heap.size w Wn := belOn hbw_Wl (by omega) hb_Wn
            have hD_Wn : Wn.heap[D]? = some (.deferred (some [])) := (hb_Wn.block D (by omega)).trans hD_Wl
            have q := equal_any a v Wl.heap.size Wn (by omega) ((((HAL.out.keep hb_Wk (by omega)).keep hb_Wl (by omega)).keep hb_Wn (by omega)).mono (by omega)) ((HV.out.keep hbw_Wn (Nat.le_refl _)).mono (by omega))
            rw [V.val_eq, V.val_eq, HAT.out, eqT_selfS] at q
            refine (callsIn_wide.2 q).mono ?_
            clear q
            rintro e Wo ⟨rfl, hb_Wo⟩
            have hs_Wo := hb_Wo.size
            have hbW_Wo : Below W0.heap.size W0 Wo := belOn hbW_Wn (by omega) hb_Wo
            have hbw_Wo : Below w.heap.size w Wo := belOn hbw_Wn (by omega) hb_Wo
            have hD_Wo : Wo.heap[D]? = some (.deferred (some [])) := (hb_Wo.block D (by omega)).trans hD_Wn
            have xb_o : BoxV Wo Wl.heap.size b := xb.below hb_Wo (by omega)
            obtain ⟨b0, b1, b2, b3, b4⟩ := xb_o.cells
            obtain ⟨k0, k1, k2, k3, k4⟩ := (xk.below hbW_Wo (by omega)).cells
            gi_wp2_with fail
            refine ⟨trivial, ?_⟩
            have q := equal_any b k Wl.heap.size Wo (by omega) (((HBL.out.keep hb_Wn (by omega)).keep hb_Wo (by omega))) ((HK.out.keep hbw_Wo (Nat.le_refl _)).mono (by omega))
            rw [V.val_eq, V.val_eq, HBT.out, eqT_selfS] at q
            refine (callsIn_wide.2 q).mono ?_
            clear q b0 b1 b2 b3 b4
            rintro e Wp ⟨rfl, hb_Wp⟩
            clear k0 k1 k2 k3 k4
            have hs_Wp := hb_Wp.size
            have hbW_Wp : Below W0.heap.size W0 Wp := belOn hbW_Wo (by omega) hb_Wp
            have hbw_Wp : Below w.heap.size w Wp := belOn hbw_Wo (by omega) hb_Wp
            have hD_Wp : Wp.heap[D]? = some (.deferred (some [])) := (hb_Wp.block D (by omega)).trans hD_Wo
            have xr_Wp : Boxed Wp (w.heap.size + 1 + 1 + 1) 4 (.bool false) := (hbW_Wp.block _ (by omega)).trans xr
            have rc := xr_Wp.cell
            have rf := xr_Wp.frozen
            gi_wp2
            all_goals
              have hK' := (KeepsOthers.setCell Wp ⟨w.heap.size + 1 + 1 + 1, 0, none⟩ (.bool true)).same D _ hD_Wp rfl
              refine ⟨by simp, .inl ⟨_, _, rfl, run_takeDeferred hK', ?_⟩⟩
              have hc5 := cell_kept (xr_Wp.set (.bool true)).cell (grownBy_putObj' _ D (.deferred none)) (fun r e => by cases e; exact ⟨_, hK', rfl⟩)
              refine ⟨.bool true, ?_, rfl, (hbw_Wp.setCell (p := ⟨w.heap.size + 1 + 1 + 1, 0, none⟩) (by show w.heap.size ≤ w.heap.size + 1 + 1 + 1; omega) _).trans (belowK_b (w := w) (Nat.le_refl _) _ D _ _ (by omega) hK' rfl rfl)⟩
              simp only [results, Tryd.f7, go_sem]
              simp [hc5]
          · have h3 : o1 = false ∨ (o1 = true ∧ o2 = false) ∨ (o1 = true ∧ o2 = true ∧ ob = false) := by
              rcases Bool.eq_false_or_eq_true o1 with h1 | h1
              · rcases Bool.eq_false_or_eq_true o2 with h2 | h2
                · refine .inr (.inr ⟨h1, h2, Bool.eq_false_iff.2 fun hne => hm0 (HMI.out.2 ⟨HYI.out, HO1.out.1 h1, HO2.out.1 h2, HOB.out.1 hne⟩)⟩)
                · exact .inr (.inl ⟨h1, h2⟩)
              · exact .inl h1
            rcases h3 with rfl | ⟨rfl, rfl⟩ | ⟨rfl, rfl, rfl⟩
            · have hmb : (zm == 0) = false := by simp [hm0]
              have xr_Wi : Boxed Wi (w.heap.size + 1 + 1 + 1) 4 (.bool false) := (hbW_Wi.block _ (by omega)).trans xr
              have rc := xr_Wi.cell
              have rf := xr_Wi.frozen
              gi_wp2
              all_goals
                have hK' := (KeepsOthers.setCell Wi ⟨w.heap.size + 1 + 1 + 1, 0, none⟩ (.bool true)).same D _ hD_Wi rfl
                refine ⟨by simp, .inl ⟨_, _, rfl, run_takeDeferred hK', ?_⟩⟩
                have hc5 := cell_kept (xr_Wi.set (.bool true)).cell (grownBy_putObj' _ D (.deferred none)) (fun r e => by cases e; exact ⟨_, hK', rfl⟩)
                refine ⟨.bool true, ?_, rfl, (hbw_Wi.setCell (p := ⟨w.heap.size + 1 + 1 + 1, 0, none⟩) (by show w.heap.size ≤ w.heap.size + 1 + 1 + 1; omega) _).trans (belowK_b (w := w) (Nat.le_refl _) _ D _ _ (by omega) hK' rfl rfl)⟩
                simp only [results, Tryd.f7, go_sem]
                simp [hc5]
            · have hmb : (zm == 0) = false := by simp [hm0]
              have xr_Wi : Boxed Wi (w.heap.size + 1 + 1 + 1) 4 (.bool false) := (hbW_Wi.block _ (by omega)).trans xr
              have rc := xr_Wi.cell
              have rf := xr_Wi.frozen
              gi_wp2
              all_goals
                have hK' := (KeepsOthers.setCell Wi ⟨w.heap.size + 1 + 1 + 1, 0, none⟩ (.bool true)).same D _ hD_Wi rfl
                refine ⟨by simp, .inl ⟨_, _, rfl, run_takeDeferred hK', ?_⟩⟩
                have hc5 := cell_kept (xr_Wi.set (.bool true)).cell (grownBy_putObj' _ D (.deferred none)) (fun r e => by cases e; exact ⟨_, hK', rfl⟩)
                refine ⟨.bool true, ?_, rfl, (hbw_Wi.setCell (p := ⟨w.heap.size + 1 + 1 + 1, 0, none⟩) (by show w.heap.size ≤ w.heap.size + 1 + 1 + 1; omega) _).trans (belowK_b (w := w) (Nat.le_refl _) _ D _ _ (by omega) hK' rfl rfl)⟩
                simp only [results, Tryd.f7, go_sem]
                simp [hc5]
            · have hmb : (zm == 0) = false := by simp [hm0]
              have xr_Wi : Boxed Wi (w.heap.size + 1 + 1 + 1) 4 (.bool false) := (hbW_Wi.block _ (by omega)).trans xr
              have rc := xr_Wi.cell
              have rf := xr_Wi.frozen
              gi_wp2
              all_goals
                have hK' := (KeepsOthers.setCell Wi ⟨w.heap.size + 1 + 1 + 1, 0, none⟩ (.bool true)).same D _ hD_Wi rfl
                refine ⟨by simp, .inl ⟨_, _, rfl, run_takeDeferred hK', ?_⟩⟩
                have hc5 := cell_kept (xr_Wi.set (.bool true)).cell (grownBy_putObj' _ D (.deferred none)) (fun r e => by cases e; exact ⟨_, hK', rfl⟩)
                refine ⟨.bool true, ?_, rfl, (hbw_Wi.setCell (p := ⟨w.heap.size + 1 + 1 + 1, 0, none⟩) (by show w.heap.size ≤ w.heap.size + 1 + 1 + 1; omega) _).trans (belowK_b (w := w) (Nat.le_refl _) _ D _ _ (by omega) hK' rfl rfl)⟩
                simp only [results, Tryd.f7, go_sem]
                simp [hc5]
        · have hlb : (zl == 0) = false := by simp [hl0]
          gi_wp2_with fail
          refine ⟨trivial, ?_⟩
          have HN2 : Hid (¬ Inn l) := fun h => hl0 (by rw [← Hzl.out]; exact h.1)
          obtain ⟨k0, k1, k2, k3, k4⟩ := (xk.below hbW_Wc (by omega)).cells
          obtain ⟨l0, l1, l2, l3, l4⟩ := (xl.below hbW_Wc (by omega)).cells
          gi_wp2_with fail
          refine ⟨trivial, ?_⟩
          have q := order_any k l w.heap.size Wc (by omega) (HK.out.keep hbw_Wc (Nat.le_refl _)) (HL.out.keep hbw_Wc (Nat.le_refl _))
          rw [V.val_eq, V.val_eq] at q
          refine (callsIn_wide.2 q).mono ?_
          clear q
          obtain ⟨od, hod⟩ : ∃ od, T.ord k.t l.t = od := ⟨_, rfl⟩
          have Hod := hide hod
          rw [hod]
          clear hod
          obtain ⟨ob, hob⟩ : ∃ ob : Bool, ((od : Int) != 0) = ob := ⟨_, rfl⟩
          have HOB : Hid (ob = true ↔ od ≠ 0) := by
            show ob = true ↔ od ≠ 0
            rw [← hob]; simp
          rintro e We ⟨rfl, hb_We⟩
          clear k0 k1 k2 k3 k4
          clear l0 l1 l2 l3 l4
          have hs_We := hb_We.size
          have hbW_We : Below W0.heap.size W0 We := belOn hbW_Wc (by omega) hb_We
          have hbw_We : Below w.heap.size w We := belOn hbw_Wc (by omega) hb_We
          have hD_We : We.heap[D]? = some (.deferred (some [])) := (hb_We.block D (by omega)).trans hD_Wc
          obtain ⟨v0, v1, v2, v3, v4⟩ := (xv.below hbW_We (by omega)).cells
          obtain ⟨k0, k1, k2, k3, k4⟩ := (xk.below hbW_We (by omega)).cells
          obtain ⟨l0, l1, l2, l3, l4⟩ := (xl.below hbW_We (by omega)).cells
          gi_wp2_with fail
          refine ⟨trivial, ?_⟩
          obtain ⟨Wf, hWf⟩ : ∃ Wf, We.alloc (Obj.cells #[.int .i64 k.k, .int .u64 k.n, .string k.s, .slice k.a k.l.length k.c, .int .i64 k.e, .int .i64 v.k, .int .u64 v.n, .string v.s, .slice v.a v.l.length v.c, .int .i64 v.e, .int .i64 l.k, .int .u64 l.n, .string l.s, .slice l.a l.l.length l.c, .int .i64 l.e, .int .i64 k.k, .int .u64 k.n, .string k.s, .slice k.a k.l.length k.c, .int .i64 k.e] 25) = Wf := ⟨_, rfl⟩
          have hs_f : Wf.heap.size = We.heap.size + 1 := by rw [← hWf]; simp
          have hb_Wf : Below We.heap.size We Wf := by rw [← hWf]; exact bel1 (Below.refl _ _) (Nat.le_refl _) _
          have xrow : Row Wf We.heap.size 0 [k, v, l, k] := row4s (by rw [← hWf]; exact World.alloc_heap_new _ _)
          rw [hWf]
          clear hWf
          clear v0 v1 v2 v3 v4
          clear k0 k1 k2 k3 k4
          clear l0 l1 l2 l3 l4
          have hs_Wf := hb_Wf.size
          have hbW_Wf : Below W0.heap.size W0 Wf := belOn hbW_We (by omega) hb_Wf
          have hbw_Wf : Below w.heap.size w Wf := belOn hbw_We (by omega) hb_Wf
          have hD_Wf : Wf.heap[D]? = some (.deferred (some [])) := (hb_Wf.block D (by omega)).trans hD_We
          refine (callsIn_wide.2 (mappedO_any [k, v, l, k] (some ⟨We.heap.size, 0, none⟩) 4 Wf.heap.size Wf (Nat.le_refl _) (by simp) (by simp) (fun _ => ⟨We.heap.size, 0, rfl, by omega, xrow⟩) ?_)).mono ?_
          · intro x hx
            simp only [List.mem_cons, List.not_mem_nil, or_false] at hx
            rcases hx with rfl | rfl | rfl | rfl
            · exact (HK.out.keep hbw_Wf (Nat.le_refl _)).mono (by omega)
            · exact (HV.out.keep hbw_Wf (Nat.le_refl _)).mono (by omega)
            · exact (HL.out.keep hbw_Wf (Nat.le_refl _)).mono (by omega)
            · exact (HK.out.keep hbw_Wf (Nat.le_refl _)).mono (by omega)
          rintro e Wg ⟨m, rfl, HM, hb_Wg⟩
          clear xrow
          have hs_Wg := hb_Wg.size
          have hbW_Wg : Below W0.heap.size W0 Wg := belOn hbW_Wf (by omega) hb_Wg
          have hbw_Wg : Below w.heap.size w Wg := belOn hbw_Wf (by omega) hb_Wg
          have hD_Wg : Wg.heap[D]? = some (.deferred (some [])) := (hb_Wg.block D (by omega)).trans hD_Wf
          gi_wp2_with fail
          refine ⟨trivial, ?_⟩
          obtain ⟨Wh, hWh⟩ : ∃ Wh, Wg.alloc (Obj.cells #[.int .i64 m.k, .int .u64 m.n, .string m.s, .slice m.a m.l.length m.c, .int .i64 m.e] 25) = Wh := ⟨_, rfl⟩
          have hs_h : Wh.heap.size = Wg.heap.size + 1 := by rw [← hWh]; simp
          have hb_Wh : Below Wg.heap.size Wg Wh := by rw [← hWh]; exact bel1 (Below.refl _ _) (Nat.le_refl _) _
          have xm : BoxV Wh Wg.heap.size m := by rw [← hWh]; exact World.alloc_heap_new _ _
          rw [hWh]
          clear hWh
          have hs_Wh := hb_Wh.size
          have hbW_Wh : Below W0.heap.size W0 Wh := belOn hbW_Wg (by omega) hb_Wh
          have hbw_Wh : Below w.heap.size w Wh := belOn hbw_Wg (by omega) hb_Wh
          have hD_Wh : Wh.heap[D]? = some (.deferred (some [])) := (hb_Wh.block D (by omega)).trans hD_Wg
          have HML : Hid (Lies Wg.heap.size Wh m) := LiesIn.keep HM.out.2.1 (fun b hb o => hb_Wh.cell (p := ⟨b, o, none⟩) hb.2) (fun b hb => hb.2)
          have q := check_any m Wg.heap.size Wh (by omega) HML.out (tabs_below HT.out hbw_Wh)
          rw [V.val_eq] at q
          refine (callsIn_wide.2 q).mono ?_
          clear q
          have HMI : Hid (firstE checkZ (m.all 1) = 0 ↔ Inn v ∧ Inn k ∧ Inn l ∧ od ≠ 0) := by
            have := map_iff v k l m HM.out.1 hwv hwk hwl
            rw [Hod.out] at this
            exact this
          obtain ⟨zm, hzm⟩ : ∃ zm, firstE checkZ (m.all 1) = zm := ⟨_, rfl⟩
          rw [hzm] at HMI ⊢
          clear hzm
          rintro e Wi ⟨rfl, hb_Wi⟩
          have hs_Wi := hb_Wi.size
          have hbW_Wi : Below W0.heap.size W0 Wi := belOn hbW_Wh (by omega) hb_Wi
          have hbw_Wi : Below w.heap.size w Wi := belOn hbw_Wh (by omega) hb_Wi
          have hD_Wi : Wi.heap[D]? = some (.deferred (some [])) := (hb_Wi.block D (by omega)).trans hD_Wh
          have xm_i : BoxV Wi Wg.heap.size m := xm.below hb_Wi (by omega)
          clear xm
          by_cases hm0 : zm = 0
          · exact absurd trivial (fun _ => by exact HN2.out (HMI.out.1 hm0).2.2.1)
          · have hmb : (zm == 0) = false := by simp [hm0]
            have xr_Wi : Boxed Wi (w.heap.size + 1 + 1 + 1) 4 (.bool false) := (hbW_Wi.block _ (by omega)).trans xr
            have rc := xr_Wi.cell
            have rf := xr_Wi.frozen
            gi_wp2
            all_goals
              have hK' := (KeepsOthers.setCell Wi ⟨w.heap.size + 1 + 1 + 1, 0, none⟩ (.bool true)).same D _ hD_Wi rfl
              refine ⟨by simp, .inl ⟨_, _, rfl, run_takeDeferred hK', ?_⟩⟩
              have hc5 := cell_kept (xr_Wi.set (.bool true)).cell (grownBy_putObj' _ D (.deferred none)) (fun r e => by cases e; exact ⟨_, hK', rfl⟩)
              refine ⟨.bool true, ?_, rfl, (hbw_Wi.setCell (p := ⟨w.heap.size + 1 + 1 + 1, 0, none⟩) (by show w.heap.size ≤ w.heap.size + 1 + 1 + 1; omega) _).trans (belowK_b (w := w) (Nat.le_refl _) _ D _ _ (by omega) hK' rfl rfl)⟩
              simp only [results, Tryd.f7, go_sem]
              simp [hc5]
      · have hkb : (zk == 0) = false := by simp [hk0]
        gi_wp2_with fail
        refine ⟨trivial, ?_⟩
        have HN1 : Hid (¬ Inn k) := fun h => hk0 (by rw [← Hzk.out]; exact h.1)
        obtain ⟨l0, l1, l2, l3, l4⟩ := (xl.below hbW_Wa (by omega)).cells
        gi_wp2_with fail
        refine ⟨trivial, ?_⟩
        have q := check_any l w.heap.size Wa (by omega) (HL.out.keep hbw_Wa (Nat.le_refl _)) (tabs_below HT.out hbw_Wa)
        rw [V.val_eq] at q
        refine (callsIn_wide.2 q).mono ?_
        clear q
        obtain ⟨zl, hzl⟩ : ∃ zl, firstE checkZ (l.all 1) = zl := ⟨_, rfl⟩
        have Hzl := hide hzl
        rw [hzl]
        clear hzl
        rintro e Wc ⟨rfl, hb_Wc⟩
        clear l0 l1 l2 l3 l4
        have hs_Wc := hb_Wc.size
        have hbW_Wc : Below W0.heap.size W0 Wc := belOn hbW_Wa (by omega) hb_Wc
        have hbw_Wc : Below w.heap.size w Wc := belOn hbw_Wa (by omega) hb_Wc
        have hD_Wc : Wc.heap[D]? = some (.deferred (some [])) := (hb_Wc.block D (by omega)).trans hD_Wa
        by_cases hl0 : zl = 0
        · subst hl0
          obtain ⟨l0, l1, l2, l3, l4⟩ := (xl.below hbW_Wc (by omega)).cells
          gi_wp2_with fail
          refine ⟨trivial, ?_⟩
          have q := depth_any l w.heap.size Wc (by omega) (HL.out.keep hbw_Wc (Nat.le_refl _))
          rw [V.val_eq] at q
          refine (callsIn_wide.2 q).mono ?_
          clear q
          obtain ⟨dl, hdl⟩ : ∃ dl, mx (l.all 1) = dl := ⟨_, rfl⟩
          have Hdl := hide hdl
          rw [hdl]
          clear hdl
          rintro e Wd ⟨rfl, hb_Wd⟩
          clear l0 l1 l2 l3 l4
          have hs_Wd := hb_Wd.size
          have hbW_Wd : Below W0.heap.size W0 Wd := belOn hbW_Wc (by omega) hb_Wd
          have hbw_Wd : Below w.heap.size w Wd := belOn hbw_Wc (by omega) hb_Wd
          have hD_Wd : Wd.heap[D]? = some (.deferred (some [])) := (hb_Wd.block D (by omega)).trans hD_Wc
          have HO2D : Hid (decide (dl < 32) = true ↔ Inn l) := by
            show decide (dl < 32) = true ↔ Inn l
            rw [decide_eq_true_eq, Inn, Hzl.out, Hdl.out]
            exact ⟨fun h => ⟨rfl, h⟩, fun h => h.2⟩
          obtain ⟨k0, k1, k2, k3, k4⟩ := (xk.below hbW_Wd (by omega)).cells
          obtain ⟨l0, l1, l2, l3, l4⟩ := (xl.below hbW_Wd (by omega)).cells
          gi_wp2_with fail
          refine ⟨trivial, ?_⟩
          obtain ⟨o2, ho2⟩ : ∃ o2, decide (dl < 32) = o2 := ⟨_, rfl⟩
          rw [ho2]
          have HO2 : Hid (o2 = true ↔ Inn l) := by rw [← ho2]; exact HO2D
          clear ho2 HO2D
          have q := order_any k l w.heap.size Wd (by omega) (HK.out.keep hbw_Wd (Nat.le_refl _)) (HL.out.keep hbw_Wd (Nat.le_refl _))
          rw [V.val_eq, V.val_eq] at q
          refine (callsIn_wide.2 q).mono ?_
          clear q
          obtain ⟨od, hod⟩ : ∃ od, T.ord k.t l.t = od := ⟨_, rfl⟩
          have Hod := hide hod
          rw [hod]
          clear hod
          obtain ⟨ob, hob⟩ : ∃ ob : Bool, ((od : Int) != 0) = ob := ⟨_, rfl⟩
          have HOB : Hid (ob = true ↔ od ≠ 0) := by
            show ob = true ↔ od ≠ 0
            rw [← hob]; simp
          rintro e We ⟨rfl, hb_We⟩
          clear k0 k1 k2 k3 k4
          clear l0 l1 l2 l3 l4
          have hs_We := hb_We.size
          have hbW_We : Below W0.heap.size W0 We := belOn hbW_Wd (by omega) hb_We
          have hbw_We : Below w.heap.size w We := belOn hbw_Wd (by omega) hb_We
          have hD_We : We.heap[D]? = some (.deferred (some [])) := (hb_We.block D (by omega)).trans hD_Wd
          obtain ⟨v0, v1, v2, v3, v4⟩ := (xv.below hbW_We (by omega)).cells
          obtain ⟨k0, k1, k2, k3, k4⟩ := (xk.below hbW_We (by omega)).cells
          obtain ⟨l0, l1, l2, l3, l4⟩ := (xl.below hbW_We (by omega)).cells
          gi_wp2_with fail
          refine ⟨trivial, ?_⟩
          obtain ⟨Wf, hWf⟩ : ∃ Wf, We.alloc (Obj.cells #[.int .i64 k.k, .int .u64 k.n, .string k.s, .slice k.a k.l.length k.c, .int .i64 k.e, .int .i64 v.k, .int .u64 v.n, .string v.s, .slice v.a v.l.length v.c, .int .i64 v.e, .int .i64 l.k, .int .u64 l.n, .string l.s, .slice l.a l.l.length l.c, .int .i64 l.e, .int .i64 k.k, .int .u64 k.n, .string k.s, .slice k.a k.l.length k.c, .int .i64 k.e] 25) = Wf := ⟨_, rfl⟩
          have hs_f : Wf.heap.size = We.heap.size + 1 := by rw [← hWf]; simp
          have hb_Wf : Below We.heap.size We Wf := by rw [← hWf]; exact bel1 (Below.refl _ _) (Nat.le_refl _) _
          have xrow : Row Wf We.heap.size 0 [k, v, l, k] := row4s (by rw [← hWf]; exact World.alloc_heap_new _ _)
          rw [hWf]
          clear hWf
          clear v0 v1 v2 v3 v4
          clear k0 k1 k2 k3 k4
          clear l0 l1 l2 l3 l4
          have hs_Wf := hb_Wf.size
          have hbW_Wf : Below W0.heap.size W0 Wf := belOn hbW_We (by omega) hb_Wf
          have hbw_Wf : Below w.heap.size w Wf := belOn hbw_We (by omega) hb_Wf
          have hD_Wf : Wf.heap[D]? = some (.deferred (some [])) := (hb_Wf.block D (by omega)).trans hD_We
          refine (callsIn_wide.2 (mappedO_any [k, v, l, k] (some ⟨We.heap.size, 0, none⟩) 4 Wf.heap.size Wf (Nat.le_refl _) (by simp) (by simp) (fun _ => ⟨We.heap.size, 0, rfl, by omega, xrow⟩) ?_)).mono ?_
          · intro x hx
            simp only [List.mem_cons, List.not_mem_nil, or_false] at hx
            rcases hx with rfl | rfl | rfl | rfl
            · exact (HK.out.keep hbw_Wf (Nat.le_refl _)).mono (by omega)
            · exact (HV.out.keep hbw_Wf (Nat.le_refl _)).mono (by omega)
            · exact (HL.out.keep hbw_Wf (Nat.le_refl _)).mono (by omega)
            · exact (HK.out.keep hbw_Wf (Nat.le_refl _)).mono (by omega)
          rintro e Wg ⟨m, rfl, HM, hb_Wg⟩
          clear xrow
          have hs_Wg := hb_Wg.size
          have hbW_Wg : Below W0.heap.size W0 Wg := belOn hbW_Wf (by omega) hb_Wg
          have hbw_Wg : Below w.heap.size w Wg := belOn hbw_Wf (by omega) hb_Wg
          have hD_Wg : Wg.heap[D]? = some (.deferred (some [])) := (hb_Wg.block D (by omega)).trans hD_Wf
          gi_wp2_with fail
          refine ⟨trivial, ?_⟩
          obtain ⟨Wh, hWh⟩ : ∃ Wh, Wg.alloc (Obj.cells #[.int .i64 m.k, .int .u64 m.n, .string m.s, .slice m.a m.l.length m.c, .int .i64 m.e] 25) = Wh := ⟨_, rfl⟩
          have hs_h : Wh.heap.size = Wg.heap.size + 1 := by rw [← hWh]; simp
          have hb_Wh : Below Wg.heap.size Wg Wh := by rw [← hWh]; exact bel1 (Below.refl _ _) (Nat.le_refl _) _
          have xm : BoxV Wh Wg.heap.size m := by rw [← hWh]; exact World.alloc_heap_new _ _
          rw [hWh]
          clear hWh
          have hs_Wh := hb_Wh.size
          have hbW_Wh : Below W0.heap.size W0 Wh := belOn hbW_Wg (by omega) hb_Wh
          have hbw_Wh : Below w.heap.size w Wh := belOn hbw_Wg (by omega) hb_Wh
          have hD_Wh : Wh.heap[D]? = some (.deferred (some [])) := (hb_Wh.block D (by omega)).trans hD_Wg
          have HML : Hid (Lies Wg.heap.size Wh m) := LiesIn.keep HM.out.2.1 (fun b hb o => hb_Wh.cell (p := ⟨b, o, none⟩) hb.2) (fun b hb => hb.2)
          have q := check_any m Wg.heap.size Wh (by omega) HML.out (tabs_below HT.out hbw_Wh)
          rw [V.val_eq] at q
          refine (callsIn_wide.2 q).mono ?_
          clear q
          have HMI : Hid (firstE checkZ (m.all 1) = 0 ↔ Inn v ∧ Inn k ∧ Inn l ∧ od ≠ 0) := by
            have := map_iff v k l m HM.out.1 hwv hwk hwl
            rw [Hod.out] at this
            exact this
          obtain ⟨zm, hzm⟩ : ∃ zm, firstE checkZ (m.all 1) = zm := ⟨_, rfl⟩
          rw [hzm] at HMI ⊢
          clear hzm
          rintro e Wi ⟨rfl, hb_Wi⟩
          have hs_Wi := hb_Wi.size
          have hbW_Wi : Below W0.heap.size W0 Wi := belOn hbW_Wh (by omega) hb_Wi
          have hbw_Wi : Below w.heap.size w Wi := belOn hbw_Wh (by omega) hb_Wi
          have hD_Wi : Wi.heap[D]? = some (.deferred (some [])) := (hb_Wi.block D (by omega)).trans hD_Wh
          have xm_i : BoxV Wi Wg.heap.size m := xm.below hb_Wi (by omega)
          clear xm
          by_cases hm0 : zm = 0
          · exact absurd trivial (fun _ => by exact HN1.out (HMI.out.1 hm0).2.1)
          · have hmb : (zm == 0) = false := by simp [hm0]
            have xr_Wi : Boxed Wi (w.heap.size + 1 + 1 + 1) 4 (.bool false) := (hbW_Wi.block _ (by omega)).trans xr
            have rc := xr_Wi.cell
            have rf := xr_Wi.frozen
            gi_wp2
            all_goals
              have hK' := (KeepsOthers.setCell Wi ⟨w.heap.size + 1 + 1 + 1, 0, none⟩ (.bool true)).same D _ hD_Wi rfl
              refine ⟨by simp, .inl ⟨_, _, rfl, run_takeDeferred hK', ?_⟩⟩
              have hc5 := cell_kept (xr_Wi.set (.bool true)).cell (grownBy_putObj' _ D (.deferred none)) (fun r e => by cases e; exact ⟨_, hK', rfl⟩)
              refine ⟨.bool true, ?_, rfl, (hbw_Wi.setCell (p := ⟨w.heap.size + 1 + 1 + 1, 0, none⟩) (by show w.heap.size ≤ w.heap.size + 1 + 1 + 1; omega) _).trans (belowK_b (w := w) (Nat.le_refl _) _ D _ _ (by omega) hK' rfl rfl)⟩
              simp only [results, Tryd.f7, go_sem]
              simp [hc5]
        · have hlb : (zl == 0) = false := by simp [hl0]
          gi_wp2_with fail
          refine ⟨trivial, ?_⟩
          have HN2 : Hid (¬ Inn l) := fun h => hl0 (by rw [← Hzl.out]; exact h.1)
          obtain ⟨k0, k1, k2, k3, k4⟩ := (xk.below hbW_Wc (by omega)).cells
          obtain ⟨l0, l1, l2, l3, l4⟩ := (xl.below hbW_Wc (by omega)).cells
          gi_wp2_with fail
          refine ⟨trivial, ?_⟩
          have q := order_any k l w.heap.size Wc (by omega) (HK.out.keep hbw_Wc (Nat.le_refl _)) (HL.out.keep hbw_Wc (Nat.le_refl _))
          rw [V.val_eq, V.val_eq] at q
          refine (callsIn_wide.2 q).mono ?_
          clear q
          obtain ⟨od, hod⟩ : ∃ od, T.ord k.t l.t = od := ⟨_, rfl⟩
          have Hod := hide hod
          rw [hod]
          clear hod
          obtain ⟨ob, hob⟩ : ∃ ob : Bool, ((od : Int) != 0) = ob := ⟨_, rfl⟩
          have HOB : Hid (ob = true ↔ od ≠ 0) := by
            show ob = true ↔ od ≠ 0
            rw [← hob]; simp
          rintro e We ⟨rfl, hb_We⟩
          clear k0 k1 k2 k3 k4
          clear l0 l1 l2 l3 l4
          have hs_We := hb_We.size
          have hbW_We : Below W0.heap.size W0 We := belOn hbW_Wc (by omega) hb_We
          have hbw_We : Below w.heap.size w We := belOn hbw_Wc (by omega) hb_We
          have hD_We : We.heap[D]? = some (.deferred (some [])) := (hb_We.block D (by omega)).trans hD_Wc
          obtain ⟨v0, v1, v2, v3, v4⟩ := (xv.below hbW_We (by omega)).cells
          obtain ⟨k0, k1, k2, k3, k4⟩ := (xk.below hbW_We (by omega)).cells
          obtain ⟨l0, l1, l2, l3, l4⟩ := (xl.below hbW_We (by omega)).cells
          gi_wp2_with fail
          refine ⟨trivial, ?_⟩
          obtain ⟨Wf, hWf⟩ : ∃ Wf, We.alloc (Obj.cells #[.int .i64 k.k, .int .u64 k.n, .string k.s, .slice k.a k.l.length k.c, .int .i64 k.e, .int .i64 v.k, .int .u64 v.n, .string v.s, .slice v.a v.l.length v.c, .int .i64 v.e, .int .i64 l.k, .int .u64 l.n, .string l.s, .slice l.a l.l.length l.c, .int .i64 l.e, .int .i64 k.k, .int .u64 k.n, .string k.s, .slice k.a k.l.length k.c, .int .i64 k.e] 25) = Wf := ⟨_, rfl⟩
          have hs_f : Wf.heap.size = We.heap.size + 1 := by rw [← hWf]; simp
          have hb_Wf : Below We.heap.size We Wf := by rw [← hWf]; exact bel1 (Below.refl _ _) (Nat.le_refl _) _
          have xrow : Row Wf We.heap.size 0 [k, v, l, k] := row4s (by rw [← hWf]; exact World.alloc_heap_new _ _)
          rw [hWf]
          clear hWf
          clear v0 v1 v2 v3 v4
          clear k0 k1 k2 k3 k4
          clear l0 l1 l2 l3 l4
          have hs_Wf := hb_Wf.size
          have hbW_Wf : Below W0.heap.size W0 Wf := belOn hbW_We (by omega) hb_Wf
          have hbw_Wf : Below w.heap.size w Wf := belOn hbw_We (by omega) hb_Wf
          have hD_Wf : Wf.heap[D]? = some (.deferred (some [])) := (hb_Wf.block D (by omega)).trans hD_We
          refine (callsIn_wide.2 (mappedO_any [k, v, l, k] (some ⟨We.heap.size, 0, none⟩) 4 Wf.heap.size Wf (Nat.le_refl _) (by simp) (by simp) (fun _ => ⟨We.heap.size, 0, rfl, by omega, xrow⟩) ?_)).mono ?_
          · intro x hx
            simp only [List.mem_cons, List.not_mem_nil, or_false] at hx
            rcases hx with rfl | rfl | rfl | rfl
            · exact (HK.out.keep hbw_Wf (Nat.le_refl _)).mono (by omega)
            · exact (HV.out.keep hbw_Wf (Nat.le_refl _)).mono (by omega)
            · exact (HL.out.keep hbw_Wf (Nat.le_refl _)).mono (by omega)
            · exact (HK.out.keep hbw_Wf (Nat.le_refl _)).mono (by omega)
          rintro e Wg ⟨m, rfl, HM, hb_Wg⟩
          clear xrow
          have hs_Wg := hb_Wg.size
          have hbW_Wg : Below W0.heap.size W0 Wg := belOn hbW_Wf (by omega) hb_Wg
          have hbw_Wg : Below w.heap.size w Wg := belOn hbw_Wf (by omega) hb_Wg
          have hD_Wg : Wg.heap[D]? = some (.deferred (some [])) := (hb_Wg.block D (by omega)).trans hD_Wf
          gi_wp2_with fail
          refine ⟨trivial, ?_⟩
          obtain ⟨Wh, hWh⟩ : ∃ Wh, Wg.alloc (Obj.cells #[.int .i64 m.k, .int .u64 m.n, .string m.s, .slice m.a m.l.length m.c, .int .i64 m.e] 25) = Wh := ⟨_, rfl⟩
          have hs_h : Wh.heap.size = Wg.heap.size + 1 := by rw [← hWh]; simp
          have hb_Wh : Below Wg.heap.size Wg Wh := by rw [← hWh]; exact bel1 (Below.refl _ _) (Nat.le_refl _) _
          have xm : BoxV Wh Wg.heap.size m := by rw [← hWh]; exact World.alloc_heap_new _ _
          rw [hWh]
          clear hWh
          have hs_Wh := hb_Wh.size
          have hbW_Wh : Below W0.heap.size W0 Wh := belOn hbW_Wg (by omega) hb_Wh
          have hbw_Wh : Below w.heap.size w Wh := belOn hbw_Wg (by omega) hb_Wh
          have hD_Wh : Wh.heap[D]? = some (.deferred (some [])) := (hb_Wh.block D (by omega)).trans hD_Wg
          have HML : Hid (Lies Wg.heap.size Wh m) := LiesIn.keep HM.out.2.1 (fun b hb o => hb_Wh.cell (p := ⟨b, o, none⟩) hb.2) (fun b hb => hb.2)
          have q := check_any m Wg.heap.size Wh (by omega) HML.out (tabs_below HT.out hbw_Wh)
          rw [V.val_eq] at q
          refine (callsIn_wide.2 q).mono ?_
          clear q
          have HMI : Hid (firstE checkZ (m.all 1) = 0 ↔ Inn v ∧ Inn k ∧ Inn l ∧ od ≠ 0) := by
            have := map_iff v k l m HM.out.1 hwv hwk hwl
            rw [Hod.out] at this
            exact this
          obtain ⟨zm, hzm⟩ : ∃ zm, firstE checkZ (m.all 1) = zm := ⟨_, rfl⟩
          rw [hzm] at HMI ⊢
          clear hzm
          rintro e Wi ⟨rfl, hb_Wi⟩
          have hs_Wi := hb_Wi.size
          have hbW_Wi : Below W0.heap.size W0 Wi := belOn hbW_Wh (by omega) hb_Wi
          have hbw_Wi : Below w.heap.size w Wi := belOn hbw_Wh (by omega) hb_Wi
          have hD_Wi : Wi.heap[D]? = some (.deferred (some [])) := (hb_Wi.block D (by omega)).trans hD_Wh
          have xm_i : BoxV Wi Wg.heap.size m := xm.below hb_Wi (by omega)
          clear xm
          by_cases hm0 : zm = 0
          · exact absurd trivial (fun _ => by exact HN1.out (HMI.out.1 hm0).2.1)
          · have hmb : (zm == 0) = false := by simp [hm0]
            have xr_Wi : Boxed Wi (w.heap.size + 1 + 1 + 1) 4 (.bool false) := (hbW_Wi.block _ (by omega)).trans xr
            have rc := xr_Wi.cell
            have rf := xr_Wi.frozen
            gi_wp2
            all_goals
              have hK' := (KeepsOthers.setCell Wi ⟨w.heap.size + 1 + 1 + 1, 0, none⟩ (.bool true)).same D _ hD_Wi rfl
              refine ⟨by simp, .inl ⟨_, _, rfl, run_takeDeferred hK', ?_⟩⟩
              have hc5 := cell_kept (xr_Wi.set (.bool true)).cell (grownBy_putObj' _ D (.deferred none)) (fun r e => by cases e; exact ⟨_, hK', rfl⟩)
              refine ⟨.bool true, ?_, rfl, (hbw_Wi.setCell (p := ⟨w.heap.size + 1 + 1 + 1, 0, none⟩) (by show w.heap.size ≤ w.heap.size + 1 + 1 + 1; omega) _).trans (belowK_b (w := w) (Nat.le_refl _) _ D _ _ (by omega) hK' rfl rfl)⟩
              simp only [results, Tryd.f7, go_sem]
              simp [hc5]

    clear hKK
    obtain ⟨hy2, hB2, hB3, hl2⟩ := HY2.out
    have hBlt := hB2.lt
    have hst := all_seq (fun b => b = w7.heap.size) (fun b => b = w7.heap.size ∨ b = w.heap.size + 1 + 1 + 1) (fun b => W8.heap.size ≤ b ∧ b < w9.heap.size) (fun _ h => .inl h) (fun b h1 h2 => by omega) y2 B (by show ¬ B = w7.heap.size; omega) w9 hB2 hl2 (fun b h => h.2) (fun b h => by omega)
    refine range_own (gf := 44) (lb := #[.pointer (some ⟨B, 0, none⟩)]) rfl (enters_of Tryd.func44 (by kernel_rfl) rfl) hst (fun b h => by omega) (fun _ h => .inl h) (fun b h => by omega) (fun _ => rfl)
      (fun pre W => (pre.length < 300 ∧ Boxed W w7.heap.size 3 (.int .i64 (pre.length : Int))) ∧ Below w7.heap.size w9 W)
      (fun c pre W => (c = .ret ∧ ∃ (p : List (Int × V)) (x : Int × V), pre = p ++ [x] ∧ ¬ (firstE checkZ (x.2.all 1) = 0 ∧ wrap64 (wrap64 (x.1 + mx (x.2.all 1)) - 1) ≤ dp)) ∨ (c = .exit 0 ∧ Below w7.heap.size w9 W))
      (OwnFrom.and (OwnFrom.and (ownFrom_pure _ _) (Own.from (boxed_own _ _ _) _)) (ownFrom_below (by omega) (by omega)))
      (fun c s A B row hs hg hr => Or.elim hs (fun h => .inl h) (fun h => .inr ⟨h.1, ownFrom_below (β := Unit) (n₀ := w7.heap.size) (w₀ := w9) (by omega) (by omega) () A B row h.2 hg hr⟩)) ⟨⟨by simp, xn9⟩, Below.refl _ _⟩
      (fun x a' W => LiesIn (fun b => b < W.heap.size) W x.2 ∧ ∃ Bx, BoxV W Bx x.2 ∧ a' = { tmps := sTmps v k l y w.heap.size w1.heap.size w4.heap.size w7.heap.size B z zi dp true true false (.int .i64 x.1) (.pointer (some ⟨Bx, 0, none⟩)) (.int .i64 x.1) (.agg #[.int .i64 x.2.k, .int .u64 x.2.n, .string x.2.s, .slice x.2.a x.2.l.length x.2.c, .int .i64 x.2.e]), defers := [] })
      ?hAx ?assign ?body ?done ?stop
    case hAx =>
      intro x a' _ A B row hs hg hr
      obtain ⟨h1, Bx, h2, h3⟩ := hs
      refine ⟨lies_grown hg (fun r e => (hr r e).2) hg.size x.2 h1, Bx, ?_, h3⟩
      exact (hg.block Bx h2.lt (fun e => by
        obtain ⟨_, o, ho, hc⟩ := hr Bx e.symm
        rw [show A.heap[Bx]? = _ from h2] at ho
        cases ho
        cases hc)).trans h2
    case assign =>
      rintro l' pre x W K' hR ⟨⟨hp, hv⟩, hB⟩ hK
      simp only [encV, V.val_eq]
      have hsz := hB.size
      gi_wp2
      exact hK _ _ ((KpX.refl _ W).alloc _) ⟨⟨hp, hv.alloc _⟩, bel1 hB (by omega) _⟩ ⟨LiesIn.keep hR (fun b hb o => (bel1 (Below.refl _ W) (Nat.le_refl _) _).cell (p := ⟨b, o, none⟩) hb) (fun b hb => by simp; omega), W.heap.size, BoxV.new W x.2, rfl⟩
    case body =>
      rintro l' pre x a' W hl' ⟨r, hr⟩ ⟨⟨hp, hv⟩, hB⟩ ⟨hR, Bx, bX, rfl⟩ hlt
      simp only [sTmps]
      have hsz := hB.size
      have hBw : Below w.heap.size w W := hbw9.trans (hB.mono (by omega))
      have hBW : Below W0.heap.size W0 W := hbW9.trans (hB.mono (by omega))
      have xd : Boxed W w4.heap.size 3 (.int .i64 dp) := (hB.block _ (by omega)).trans xd9
      have xr' : Boxed W (w.heap.size + 1 + 1 + 1) 4 (.bool false) := (hBW.block _ (by omega)).trans xr
      have hR1 := hide hR
      obtain ⟨c0, c1, c2, c3, c4⟩ := bX.cells
      have hbx := bX.lt
      gi_wp2_with fail
      refine ⟨trivial, ?_⟩
      have q := check_any x.2 W.heap.size W (Nat.le_refl _) hR1.out (tabs_below HT.out hBw)
      rw [V.val_eq] at q
      refine (CallsIn.inRound l' (callsIn_wide.2 q)).mono ?_
      clear q c0 c1 c2 c3 c4
      obtain ⟨zx, hzx⟩ : ∃ zx, firstE checkZ (x.2.all 1) = zx := ⟨_, rfl⟩
      have HZX := hide hzx
      rw [hzx]
      clear hzx
      rintro e W1 ⟨rfl, hb1⟩
      have hz1 := hb1.size
      obtain ⟨c0, c1, c2, c3, c4⟩ := (bX.below hb1 hbx).cells
      gi_wp2_with fail
      refine ⟨trivial, ?_⟩
      have q := depth_any x.2 W.heap.size W1 hz1 (Lies.keep hR1.out hb1 (Nat.le_refl _))
      rw [V.val_eq] at q
      refine (CallsIn.inRound l' (callsIn_wide.2 q)).mono ?_
      clear q c0 c1 c2 c3 c4
      obtain ⟨dx, hdx⟩ : ∃ dx, mx (x.2.all 1) = dx := ⟨_, rfl⟩
      have HDX := hide hdx
      rw [hdx]
      clear hdx
      rintro e W2 ⟨rfl, hb2⟩
      have hz2 := hb2.size
      have hb02 : Below W.heap.size W W2 := hb1.trans (hb2.mono hz1)
      have xd2 : Boxed W2 w4.heap.size 3 (.int .i64 dp) := (hb02.block _ xd.lt).trans xd
      have hc := xd2.cell
      have xn2 : Boxed W2 w7.heap.size 3 (.int .i64 (pre.length : Int)) := (hb02.block _ hv.lt).trans hv
      have hn := xn2.cell
      have hnf := xn2.frozen
      have xr2 : Boxed W2 (w.heap.size + 1 + 1 + 1) 4 (.bool false) := (hb02.block _ xr'.lt).trans xr'
      have hr0 := xr2.cell
      have hrf := xr2.frozen
      gi_wp2
      · rename_i h0 h1
        refine ⟨KpX.setCell (X := fun b => b = w7.heap.size ∨ b = w.heap.size + 1 + 1 + 1) (KpX.of_below hb02) (.inr rfl) _ _, .inl ⟨rfl, pre, x, rfl, fun h => ?_⟩⟩
        rw [HDX.out] at h
        omega
      · exact ⟨KpX.setCell (X := fun b => b = w7.heap.size ∨ b = w.heap.size + 1 + 1 + 1) (KpX.of_below hb02) (.inl rfl) _ _, .inr ⟨rfl, (hB.trans (hb02.mono (by omega))).setCell (p := ⟨w7.heap.size, 0, none⟩) (Nat.le_refl _) _⟩⟩
      · rename_i h0 h1 h2
        have hne : pre.length + 1 ≠ 300 := by
          intro e
          have : ((pre.length : Int) + 1 == 300) = true := by simp; omega
          rw [this] at h2
          cases h2
        refine ⟨KpX.setCell (X := fun b => b = w7.heap.size) (KpX.of_below hb02) rfl _ _, ⟨⟨by simp; omega, ?_⟩, (hB.trans (hb02.mono (by omega))).setCell (p := ⟨w7.heap.size, 0, none⟩) (Nat.le_refl _) _⟩⟩
        rw [show ((pre ++ [x]).length : Int) = pre.length + 1 by simp]
        exact xn2.set _
      · rename_i h0
        refine ⟨KpX.setCell (X := fun b => b = w7.heap.size ∨ b = w.heap.size + 1 + 1 + 1) (KpX.of_below hb02) (.inr rfl) _ _, .inl ⟨rfl, pre, x, rfl, fun h => ?_⟩⟩
        rw [HZX.out] at h
        exact h0 h.1
    case done =>
      rintro D ys W hD hys ⟨⟨hp, hv⟩, hB⟩ hK
      exact REST D W hD hK (hbW9.trans (hB.mono (by omega)))
    case stop =>
      rintro D c pre W hD hpre (⟨rfl, p, x, rfl, hbad⟩ | ⟨rfl, hB⟩) hK
      · exfalso
        apply hbad
        have hm : (x.1, x.2.t) ∈ bare (y2.all 1) := hpre.subset (by unfold bare; simp)
        unfold bare at hm
        obtain ⟨x', hx', he⟩ := List.mem_map.1 hm
        simp only [Prod.mk.injEq] at he
        have hz0 : z = 0 := HG.out.1 trivial
        have hgy : firstE checkZ (y2.all 1) = 0 := by rw [check_sameS hy2 1, HZ.out, hz0]
        obtain ⟨g1, g2, g3, g4⟩ := sub_good y2 (by rw [hy2]; exact hwv) hgy x' hx'
        have hd32 : dp ≤ 32 := by
          have := ((good_iff v hwv).1 (by rw [HZ.out, hz0])).1
          rw [HDP.out] at this
          exact this
        have hmy : mx (y2.all 1) = dp := by rw [mx_bareS (all_bareS y2 v 1 hy2), HDP.out]
        have hmx : mx (x.2.all 1) = mx (x'.2.all 1) := mx_bareS (all_bareS x.2 x'.2 1 he.2.symm)
        have hn0 := sm_nonneg (x'.2.all 1)
        rw [check_sameS he.2.symm 1]
        refine ⟨g1, ?_⟩
        rw [hmx, ← he.1, sm_wrap (d := x'.1 + mx (x'.2.all 1)) (by omega) (by omega), sm_wrap (by omega) (by omega)]
        omega
      · gi_wp2
        exact REST D W hD hK (hbW9.trans (hB.mono (by omega)))
  case inr.inr =>
    have hvlt7 : w.heap.size < w7.heap.size := by omega
    have hdlt7 : w4.heap.size < w7.heap.size := by omega
    gi_wp2_with fail
    refine ⟨trivial, ?_⟩
    clear v0 v1 v2 v3 v4 d7
    obtain ⟨W8, hW8⟩ : ∃ W8, w7.alloc (Obj.cells #[.int .i64 0] 3) = W8 := ⟨_, rfl⟩
    have hs8 : W8.heap.size = w7.heap.size + 1 := by rw [← hW8]; simp
    have hb8 : Below w7.heap.size w7 W8 := by rw [← hW8]; exact bel1 (Below.refl _ _) (Nat.le_refl _) _
    have xn8 : Boxed W8 w7.heap.size 3 (.int .i64 0) := by rw [← hW8]; exact World.alloc_heap_new _ _
    rw [hW8]
    clear hW8
    have hbW8 : Below W0.heap.size W0 W8 := belOn hbW7 (by omega) hb8
    have hbw8 : Below w.heap.size w W8 := belOn hbw7 (by omega) hb8
    have xd8 : Boxed W8 w4.heap.size 3 (.int .i64 dp) := (hb8.block _ (by omega)).trans xd7
    clear hb8 xd7
    refine (callsIn_wide.2 (allf_any v w.heap.size W8 (by omega) (HV.out.keep hbw8 (Nat.le_refl _)))).mono ?_
    rintro e w9 ⟨B, y2, rfl, HY2, hb9⟩
    have hs9 := hb9.size
    have hbW9 : Below W0.heap.size W0 w9 := belOn hbW8 (by omega) hb9
    have hbw9 : Below w.heap.size w w9 := belOn hbw8 (by omega) hb9
    have xd9 : Boxed w9 w4.heap.size 3 (.int .i64 dp) := (hb9.block _ (by omega)).trans xd8
    have xn9 : Boxed w9 w7.heap.size 3 (.int .i64 0) := (hb9.block _ (by omega)).trans xn8
    clear hb9 xd8 xn8
    have heq : ∀ u, (binOp BinOp.eql 45 (.func (.func 44) #[] #[.pointer (some ⟨B, 0, none⟩)]) .nilFunc).run Tryd.prog u = .ok (.bool false) u := fun u => by
      first | rfl | (simp [binOp, Tryd.underlying45, go_sem]; done)
    gi_wp2_with fail
    rename_i Q' K hKK
    have REST : ∀ (D : Nat) (W : World), w9.heap.size ≤ D → W.heap[D]? = some (.deferred (some [])) → Below W0.heap.size W0 W → K { tmps := sTmps v k l y w.heap.size w1.heap.size w4.heap.size w7.heap.size B z zi dp false (decide (dp < 32)) (decide (dp < 32)) undef undef undef undef, defers := [{ target := .collected D, args := #[] }] } W := by
      intro D W hD hD_W hbW_W
      refine hKK _ _ ?_
      clear hKK
      have hs_W := hbW_W.size
      have hDlt : D < W.heap.size := (Array.getElem?_eq_some_iff.1 hD_W).1
      have hbw_W : Below w.heap.size w W := hb0.trans (hbW_W.mono (by omega))
      simp only [sTmps]
      have HNI : Hid (¬ Inn v) := fun h => by
        have := h.2
        rw [HDP.out] at this
        omega
      obtain ⟨k0, k1, k2, k3, k4⟩ := (xk.below hbW_W (by omega)).cells
      gi_wp2_with fail
      refine ⟨trivial, ?_⟩
      have q := check_any k w.heap.size W (by omega) (HK.out.keep hbw_W (Nat.le_refl _)) (tabs_below HT.out hbw_W)
      rw [V.val_eq] at q
      refine (callsIn_wide.2 q).mono ?_
      clear q
      obtain ⟨zk, hzk⟩ : ∃ zk, firstE checkZ (k.all 1) = zk := ⟨_, rfl⟩
      have Hzk := hide hzk
      rw [hzk]
      clear hzk
      rintro e Wa ⟨rfl, hb_Wa⟩
      clear k0 k1 k2 k3 k4
      have hs_Wa := hb_Wa.size
      have hbW_Wa : Below W0.heap.size W0 Wa := belOn hbW_W (by omega) hb_Wa
      have hbw_Wa : Below w.heap.size w Wa := belOn hbw_W (by omega) hb_Wa
      have hD_Wa : Wa.heap[D]? = some (.deferred (some [])) := (hb_Wa.block D (by omega)).trans hD_W
      by_cases hk0 : zk = 0
      · subst hk0
        obtain ⟨k0, k1, k2, k3, k4⟩ := (xk.below hbW_Wa (by omega)).cells
        gi_wp2_with fail
        refine ⟨trivial, ?_⟩
        have q := depth_any k w.heap.size Wa (by omega) (HK.out.keep hbw_Wa (Nat.le_refl _))
        rw [V.val_eq] at q
        refine (callsIn_wide.2 q).mono ?_
        clear q
        obtain ⟨dk, hdk⟩ : ∃ dk, mx (k.all 1) = dk := ⟨_, rfl⟩
        have Hdk := hide hdk
        rw [hdk]
        clear hdk
        rintro e Wb ⟨rfl, hb_Wb⟩
        clear k0 k1 k2 k3 k4
        have hs_Wb := hb_Wb.size
        have hbW_Wb : Below W0.heap.size W0 Wb := belOn hbW_Wa (by omega) hb_Wb
        have hbw_Wb : Below w.heap.size w Wb := belOn hbw_Wa (by omega) hb_Wb
        have hD_Wb : Wb.heap[D]? = some (.deferred (some [])) := (hb_Wb.block D (by omega)).trans hD_Wa
        obtain ⟨l0, l1, l2, l3, l4⟩ := (xl.below hbW_Wb (by omega)).cells
        gi_wp2_with fail
        refine ⟨trivial, ?_⟩
        have q := check_any l w.heap.size Wb (by omega) (HL.out.keep hbw_Wb (Nat.le_refl _)) (tabs_below HT.out hbw_Wb)
        rw [V.val_eq] at q
        refine (callsIn_wide.2 q).mono ?_
        clear q
        obtain ⟨zl, hzl⟩ : ∃ zl, firstE checkZ (l.all 1) = zl := ⟨_, rfl⟩
        have Hzl := hide hzl
        rw [hzl]
        clear hzl
        rintro e Wc ⟨rfl, hb_Wc⟩
        clear l0 l1 l2 l3 l4
        have hs_Wc := hb_Wc.size
        have hbW_Wc : Below W0.heap.size W0 Wc := belOn hbW_Wb (by omega) hb_Wc
        have hbw_Wc : Below w.heap.size w Wc := belOn hbw_Wb (by omega) hb_Wc
        have hD_Wc : Wc.heap[D]? = some (.deferred (some [])) := (hb_Wc.block D (by omega)).trans hD_Wb
        obtain ⟨o1, ho1⟩ : ∃ o1, decide (dk < 32) = o1 := ⟨_, rfl⟩
        rw [ho1]
        have HO1 : Hid (o1 = true ↔ Inn k) := by
          show o1 = true ↔ Inn k
          rw [← ho1, decide_eq_true_eq, Inn, Hzk.out, Hdk.out]
          exact ⟨fun h => ⟨rfl, h⟩, fun h => h.2⟩
        clear ho1
        by_cases hl0 : zl = 0
        · subst hl0
          obtain ⟨l0, l1, l2, l3, l4⟩ := (xl.below hbW_Wc (by omega)).cells
          gi_wp2_with fail
          refine ⟨trivial, ?_⟩
          have q := depth_any l w.heap.size Wc (by omega) (HL.out.keep hbw_Wc (Nat.le_refl _))
          rw [V.val_eq] at q
          refine (callsIn_wide.2 q).mono ?_
          clear q
          obtain ⟨dl, hdl⟩ : ∃ dl, mx (l.all 1) = dl := ⟨_, rfl⟩
          have Hdl := hide hdl
          rw [hdl]
          clear hdl
          rintro e Wd ⟨rfl, hb_Wd⟩
          clear l0 l1 l2 l3 l4
          have hs_Wd := hb_Wd.size
          have hbW_Wd : Below W0.heap.size W0 Wd := belOn hbW_Wc (by omega) hb_Wd
          have hbw_Wd : Below w.heap.size w Wd := belOn hbw_Wc (by omega) hb_Wd
          have hD_Wd : Wd.heap[D]? = some (.deferred (some [])) := (hb_Wd.block D (by omega)).trans hD_Wc
          have HO2D : Hid (decide (dl < 32) = true ↔ Inn l) := by
            show decide (dl < 32) = true ↔ Inn l
            rw [decide_eq_true_eq, Inn, Hzl.out, Hdl.out]
            exact ⟨fun h => ⟨rfl, h⟩, fun h => h.2⟩
          obtain ⟨k0, k1, k2, k3, k4⟩ := (xk.below hbW_Wd (by omega)).cells
          obtain ⟨l0, l1, l2, l3, l4⟩ := (xl.below hbW_Wd (by omega)).cells
          gi_wp2_with fail
          refine ⟨trivial, ?_⟩
          obtain ⟨o2, ho2⟩ : ∃ o2, decide (dl < 32) = o2 := ⟨_, rfl⟩
          rw [ho2]
          have HO2 : Hid (o2 = true ↔ Inn l) := by rw [← ho2]; exact HO2D
          clear ho2 HO2D
          have q := order_any k l w.heap.size Wd (by omega) (HK.out.keep hbw_Wd (Nat.le_refl _)) (HL.out.keep hbw_Wd (Nat.le_refl _))
          rw [V.val_eq, V.val_eq] at q
          refine (callsIn_wide.2 q).mono ?_
          clear q
          obtain ⟨od, hod⟩ : ∃ od, T.ord k.t l.t = od := ⟨_, rfl⟩
          have Hod := hide hod
          rw [hod]
          clear hod
          obtain ⟨ob, hob⟩ : ∃ ob : Bool, ((od : Int) != 0) = ob := ⟨_, rfl⟩
          have HOB : Hid (ob = true ↔ od ≠ 0) := by
            show ob = true ↔ od ≠ 0
            rw [← hob]; simp
          rintro e We ⟨rfl, hb_We⟩
          clear k0 k1 k2 k3 k4
          clear l0 l1 l2 l3 l4
          have hs_We := hb_We.size
          have hbW_We : Below W0.heap.size W0 We := belOn hbW_Wd (by omega) hb_We
          have hbw_We : Below w.heap.size w We := belOn hbw_Wd (by omega) hb_We
          have hD_We : We.heap[D]? = some (.deferred (some [])) := (hb_We.block D (by omega)).trans hD_Wd
          obtain ⟨v0, v1, v2, v3, v4⟩ := (xv.below hbW_We (by omega)).cells
          obtain ⟨k0, k1, k2, k3, k4⟩ := (xk.below hbW_We (by omega)).cells
          obtain ⟨l0, l1, l2, l3, l4⟩ := (xl.below hbW_We (by omega)).cells
          gi_wp2_with fail
          refine ⟨trivial, ?_⟩
          obtain ⟨Wf, hWf⟩ : ∃ Wf, We.alloc (Obj.cells #[.int .i64 k.k, .int .u64 k.n, .string k.s, .slice k.a k.l.length k.c, .int .i64 k.e, .int .i64 v.k, .int .u64 v.n, .string v.s, .slice v.a v.l.length v.c, .int .i64 v.e, .int .i64 l.k, .int .u64 l.n, .string l.s, .slice l.a l.l.length l.c, .int .i64 l.e, .int .i64 k.k, .int .u64 k.n, .string k.s, .slice k.a k.l.length k.c, .int .i64 k.e] 25) = Wf := ⟨_, rfl⟩
          have hs_f : Wf.heap.size = We.heap.size + 1 := by rw [← hWf]; simp
          have hb_Wf : Below We.heap.size We Wf := by rw [← hWf]; exact bel1 (Below.refl _ _) (Nat.le_refl _) _
          have xrow : Row Wf We.heap.size 0 [k, v, l, k] := row4s (by rw [← hWf]; exact World.alloc_heap_new _ _)
          rw [hWf]
          clear hWf
          clear v0 v1 v2 v3 v4
          clear k0 k1 k2 k3 k4
          clear l0 l1 l2 l3 l4
          have hs_Wf := hb_Wf.size
          have hbW_Wf : Below W0.heap.size W0 Wf := belOn hbW_We (by omega) hb_Wf
          have hbw_Wf : Below w.heap.size w Wf := belOn hbw_We (by omega) hb_Wf
          have hD_Wf : Wf.heap[D]? = some (.deferred (some [])) := (hb_Wf.block D (by omega)).trans hD_We
          refine (callsIn_wide.2 (mappedO_any [k, v, l, k] (some ⟨We.heap.size, 0, none⟩) 4 Wf.heap.size Wf (Nat.le_refl _) (by simp) (by simp) (fun _ => ⟨We.heap.size, 0, rfl, by omega, xrow⟩) ?_)).mono ?_
          · intro x hx
            simp only [List.mem_cons, List.not_mem_nil, or_false] at hx
            rcases hx with rfl | rfl | rfl | rfl
            · exact (HK.out.keep hbw_Wf (Nat.le_refl _)).mono (by omega)
            · exact (HV.out.keep hbw_Wf (Nat.le_refl _)).mono (by omega)
            · exact (HL.out.keep hbw_Wf (Nat.le_refl _)).mono (by omega)
            · exact (HK.out.keep hbw_Wf (Nat.le_refl _)).mono (by omega)
          rintro e Wg ⟨m, rfl, HM, hb_Wg⟩
          clear xrow
          have hs_Wg := hb_Wg.size
          have hbW_Wg : Below W0.heap.size W0 Wg := belOn hbW_Wf (by omega) hb_Wg
          have hbw_Wg : Below w.heap.size w Wg := belOn hbw_Wf (by omega) hb_Wg
          have hD_Wg : Wg.heap[D]? = some (.deferred (some [])) := (hb_Wg.block D (by omega)).trans hD_Wf
          gi_wp2_with fail
          refine ⟨trivial, ?_⟩
          obtain ⟨Wh, hWh⟩ : ∃ Wh, Wg.alloc (Obj.cells #[.int .i64 m.k, .int .u64 m.n, .string m.s, .slice m.a m.l.length m.c, .int .i64 m.e] 25) = Wh := ⟨_, rfl⟩
          have hs_h : Wh.heap.size = Wg.heap.size + 1 := by rw [← hWh]; simp
          have hb_Wh : Below Wg.heap.size Wg Wh := by rw [← hWh]; exact bel1 (Below.refl _ _) (Nat.le_refl _) _
          have xm : BoxV Wh Wg.heap.size m := by rw [← hWh]; exact World.alloc_heap_new _ _
          rw [hWh]
          clear hWh
          have hs_Wh := hb_Wh.size
          have hbW_Wh : Below W0.heap.size W0 Wh := belOn hbW_Wg (by omega) hb_Wh
          have hbw_Wh : Below w.heap.size w Wh := belOn hbw_Wg (by omega) hb_Wh
          have hD_Wh : Wh.heap[D]? = some (.deferred (some [])) := (hb_Wh.block D (by omega)).trans hD_Wg
          have HML : Hid (Lies Wg.heap.size Wh m) := LiesIn.keep HM.out.2.1 (fun b hb o => hb_Wh.cell (p := ⟨b, o, none⟩) hb.2) (fun b hb => hb.2)
          have q := check_any m Wg.heap.size Wh (by omega) HML.out (tabs_below HT.out hbw_Wh)
          rw [V.val_eq] at q
          refine (callsIn_wide.2 q).mono ?_
          clear q
          have HMI : Hid (firstE checkZ (m.all 1) = 0 ↔ Inn v ∧ Inn k ∧ Inn l ∧ od ≠ 0) := by
            have := map_iff v k l m HM.out.1 hwv hwk hwl
            rw [Hod.out] at this
            exact this
          obtain ⟨zm, hzm⟩ : ∃ zm, firstE checkZ (m.all 1) = zm := ⟨_, rfl⟩
          rw [hzm] at HMI ⊢
          clear hzm
          rintro e Wi ⟨rfl, hb_Wi⟩
          have hs_Wi := hb_Wi.size
          have hbW_Wi : Below W0.heap.size W0 Wi := belOn hbW_Wh (by omega) hb_Wi
          have hbw_Wi : Below w.heap.size w Wi := belOn hbw_Wh (by omega) hb_Wi
          have hD_Wi : Wi.heap[D]? = some (.deferred (some [])) := (hb_Wi.block D (by omega)).trans hD_Wh
          have xm_i : BoxV Wi Wg.heap.size m := xm.below hb_Wi (by omega)
          clear xm
          by_cases hm0 : zm = 0
          · exact absurd trivial (fun _ => by exact HNI.out (HMI.out.1 hm0).1)
          · have hmb : (zm == 0) = false := by simp [hm0]
            have xr_Wi : Boxed Wi (w.heap.size + 1 + 1 + 1) 4 (.bool false) := (hbW_Wi.block _ (by omega)).trans xr
            have rc := xr_Wi.cell
            have rf := xr_Wi.frozen
            gi_wp2
            all_goals
              have hK' := (KeepsOthers.setCell Wi ⟨w.heap.size + 1 + 1 + 1, 0, none⟩ (.bool true)).same D _ hD_Wi rfl
              refine ⟨by simp, .inl ⟨_, _, rfl, run_takeDeferred hK', ?_⟩⟩
              have hc5 := cell_kept (xr_Wi.set (.bool true)).cell (grownBy_putObj' _ D (.deferred none)) (fun r e => by cases e; exact ⟨_, hK', rfl⟩)
              refine ⟨.bool true, ?_, rfl, (hbw_Wi.setCell (p := ⟨w.heap.size + 1 + 1 + 1, 0, none⟩) (by show w.heap.size ≤ w.heap.size + 1 + 1 + 1; omega) _).trans (belowK_b (w := w) (Nat.le_refl _) _ D _ _ (by omega) hK' rfl rfl)⟩
              simp only [results, Tryd.f7, go_sem]
              simp [hc5]
        · have hlb : (zl == 0) = false := by simp [hl0]
          gi_wp2_with fail
          refine ⟨trivial, ?_⟩
          have HN2 : Hid (¬ Inn l) := fun h => hl0 (by rw [← Hzl.out]; exact h.1)
          obtain ⟨k0, k1, k2, k3, k4⟩ := (xk.below hbW_Wc (by omega)).cells
          obtain ⟨l0, l1, l2, l3, l4⟩ := (xl.below hbW_Wc (by omega)).cells
          gi_wp2_with fail
          refine ⟨trivial, ?_⟩
          have q := order_any k l w.heap.size Wc (by omega) (HK.out.keep hbw_Wc (Nat.le_refl _)) (HL.out.keep hbw_Wc (Nat.le_refl _))
          rw [V.val_eq, V.val_eq] at q
          refine (callsIn_wide.2 q).mono ?_
          clear q
          obtain ⟨od, hod⟩ : ∃ od, T.ord k.t l.t = od := ⟨_, rfl⟩
          have Hod := hide hod
          rw [hod]
          clear hod
          obtain ⟨ob, hob⟩ : ∃ ob : Bool, ((od : Int) != 0) = ob := ⟨_, rfl⟩
          have HOB : Hid (ob = true ↔ od ≠ 0) := by
            show ob = true ↔ od ≠ 0
            rw [← hob]; simp
          rintro e We ⟨rfl, hb_We⟩
          clear k0 k1 k2 k3 k4
          clear l0 l1 l2 l3 l4
          have hs_We := hb_We.size
          have hbW_We : Below W0.heap.size W0 We := belOn hbW_Wc (by omega) hb_We
          have hbw_We : Below w.heap.size w We := belOn hbw_Wc (by omega) hb_We
          have hD_We : We.heap[D]? = some (.deferred (some [])) := (hb_We.block D (by omega)).trans hD_Wc
          obtain ⟨v0, v1, v2, v3, v4⟩ := (xv.below hbW_We (by omega)).cells
          obtain ⟨k0, k1, k2, k3, k4⟩ := (xk.below hbW_We (by omega)).cells
          obtain ⟨l0, l1, l2, l3, l4⟩ := (xl.below hbW_We (by omega)).cells
          gi_wp2_with fail
          refine ⟨trivial, ?_⟩
          obtain ⟨Wf, hWf⟩ : ∃ Wf, We.alloc (Obj.cells #[.int .i64 k.k, .int .u64 k.n, .string k.s, .slice k.a k.l.length k.c, .int .i64 k.e, .int .i64 v.k, .int .u64 v.n, .string v.s, .slice v.a v.l.length v.c, .int .i64 v.e, .int .i64 l.k, .int .u64 l.n, .string l.s, .slice l.a l.l.length l.c, .int .i64 l.e, .int .i64 k.k, .int .u64 k.n, .string k.s, .slice k.a k.l.length k.c, .int .i64 k.e] 25) = Wf := ⟨_, rfl⟩
          have hs_f : Wf.heap.size = We.heap.size + 1 := by rw [← hWf]; simp
          have hb_Wf : Below We.heap.size We Wf := by rw [← hWf]; exact bel1 (Below.refl _ _) (Nat.le_refl _) _
          have xrow : Row Wf We.heap.size 0 [k, v, l, k] := row4s (by rw [← hWf]; exact World.alloc_heap_new _ _)
          rw [hWf]
          clear hWf
          clear v0 v1 v2 v3 v4
          clear k0 k1 k2 k3 k4
          clear l0 l1 l2 l3 l4
          have hs_Wf := hb_Wf.size
          have hbW_Wf : Below W0.heap.size W0 Wf := belOn hbW_We (by omega) hb_Wf
          have hbw_Wf : Below w.heap.size w Wf := belOn hbw_We (by omega) hb_Wf
          have hD_Wf : Wf.heap[D]? = some (.deferred (some [])) := (hb_Wf.block D (by omega)).trans hD_We
          refine (callsIn_wide.2 (mappedO_any [k, v, l, k] (some ⟨We.heap.size, 0, none⟩) 4 Wf.heap.size Wf (Nat.le_refl _) (by simp) (by simp) (fun _ => ⟨We.heap.size, 0, rfl, by omega, xrow⟩) ?_)).mono ?_
          · intro x hx
            simp only [List.mem_cons, List.not_mem_nil, or_false] at hx
            rcases hx with rfl | rfl | rfl | rfl
            · exact (HK.out.keep hbw_Wf (Nat.le_refl _)).mono (by omega)
            · exact (HV.out.keep hbw_Wf (Nat.le_refl _)).mono (by omega)
            · exact (HL.out.keep hbw_Wf (Nat.le_refl _)).mono (by omega)
            · exact (HK.out.keep hbw_Wf (Nat.le_refl _)).mono (by omega)
          rintro e Wg ⟨m, rfl, HM, hb_Wg⟩
          clear xrow
          have hs_Wg := hb_Wg.size
          have hbW_Wg : Below W0.heap.size W0 Wg := belOn hbW_Wf (by omega) hb_Wg
          have hbw_Wg : Below w.heap.size w Wg := belOn hbw_Wf (by omega) hb_Wg
          have hD_Wg : Wg.heap[D]? = some (.deferred (some [])) := (hb_Wg.block D (by omega)).trans hD_Wf
          gi_wp2_with fail
          refine ⟨trivial, ?_⟩
          obtain ⟨Wh, hWh⟩ : ∃ Wh, Wg.alloc (Obj.cells #[.int .i64 m.k, .int .u64 m.n, .string m.s, .slice m.a m.l.length m.c, .int .i64 m.e] 25) = Wh := ⟨_, rfl⟩
          have hs_h : Wh.heap.size = Wg.heap.size + 1 := by rw [← hWh]; simp
          have hb_Wh : Below Wg.heap.size Wg Wh := by rw [← hWh]; exact bel1 (Below.refl _ _) (Nat.le_refl _) _
          have xm : BoxV Wh Wg.heap.size m := by rw [← hWh]; exact World.alloc_heap_new _ _
          rw [hWh]
          clear hWh
          have hs_Wh := hb_Wh.size
          have hbW_Wh : Below W0.heap.size W0 Wh := belOn hbW_Wg (by omega) hb_Wh
          have hbw_Wh : Below w.heap.size w Wh := belOn hbw_Wg (by omega) hb_Wh
          have hD_Wh : Wh.heap[D]? = some (.deferred (some [])) := (hb_Wh.block D (by omega)).trans hD_Wg
          have HML : Hid (Lies Wg.heap.size Wh m) := LiesIn.keep HM.out.2.1 (fun b hb o => hb_Wh.cell (p := ⟨b, o, none⟩) hb.2) (fun b hb => hb.2)
          have q := check_any m Wg.heap.size Wh (by omega) HML.out (tabs_below HT.out hbw_Wh)
          rw [V.val_eq] at q
          refine (callsIn_wide.2 q).mono ?_
          clear q
          have HMI : Hid (firstE checkZ (m.all 1) = 0 ↔ Inn v ∧ Inn k ∧ Inn l ∧ od ≠ 0) := by
            have := map_iff v k l m HM.out.1 hwv hwk hwl
            rw [Hod.out] at this
            exact this
          obtain ⟨zm, hzm⟩ : ∃ zm, firstE checkZ (m.all 1) = zm := ⟨_, rfl⟩
          rw [hzm] at HMI ⊢
          clear hzm
          rintro e Wi ⟨rfl, hb_Wi⟩
          have hs_Wi := hb_Wi.size
          have hbW_Wi : Below W0.heap.size W0 Wi := belOn hbW_Wh (by omega) hb_Wi
          have hbw_Wi : Below w.heap.size w Wi := belOn hbw_Wh (by omega) hb_Wi
          have hD_Wi : Wi.heap[D]? = some (.deferred (some [])) := (hb_Wi.block D (by omega)).trans hD_Wh
          have xm_i : BoxV Wi Wg.heap.size m := xm.below hb_Wi (by omega)
          clear xm
          by_cases hm0 : zm = 0
          · exact absurd trivial (fun _ => by exact HNI.out (HMI.out.1 hm0).1)
          · have hmb : (zm == 0) = false := by simp [hm0]
            have xr_Wi : Boxed Wi (w.heap.size + 1 + 1 + 1) 4 (.bool false) := (hbW_Wi.block _ (by omega)).trans xr
            have rc := xr_Wi.cell
            have rf := xr_Wi.frozen
            gi_wp2
            all_goals
              have hK' := (KeepsOthers.setCell Wi ⟨w.heap.size + 1 + 1 + 1, 0, none⟩ (.bool true)).same D _ hD_Wi rfl
              refine ⟨by simp, .inl ⟨_, _, rfl, run_takeDeferred hK', ?_⟩⟩
              have hc5 := cell_kept (xr_Wi.set (.bool true)).cell (grownBy_putObj' _ D (.deferred none)) (fun r e => by cases e; exact ⟨_, hK', rfl⟩)
              refine ⟨.bool true, ?_, rfl, (hbw_Wi.setCell (p := ⟨w.heap.size + 1 + 1 + 1, 0, none⟩) (by show w.heap.size ≤ w.heap.size + 1 + 1 + 1; omega) _).trans (belowK_b (w := w) (Nat.le_refl _) _ D _ _ (by omega) hK' rfl rfl)⟩
              simp only [results, Tryd.f7, go_sem]
              simp [hc5]
      · have hkb : (zk == 0) = false := by simp [hk0]
        gi_wp2_with fail
        refine ⟨trivial, ?_⟩
        have HN1 : Hid (¬ Inn k) := fun h => hk0 (by rw [← Hzk.out]; exact h.1)
        obtain ⟨l0, l1, l2, l3, l4⟩ := (xl.below hbW_Wa (by omega)).cells
        gi_wp2_with fail
        refine ⟨trivial, ?_⟩
        have q := check_any l w.heap.size Wa (by omega) (HL.out.keep hbw_Wa (Nat.le_refl _)) (tabs_below HT.out hbw_Wa)
        rw [V.val_eq] at q
        refine (callsIn_wide.2 q).mono ?_
        clear q
        obtain ⟨zl, hzl⟩ : ∃ zl, firstE checkZ (l.all 1) = zl := ⟨_, rfl⟩
        have Hzl := hide hzl
        rw [hzl]
        clear hzl
        rintro e Wc ⟨rfl, hb_Wc⟩
        clear l0 l1 l2 l3 l4
        have hs_Wc := hb_Wc.size
        have hbW_Wc : Below W0.heap.size W0 Wc := belOn hbW_Wa (by omega) hb_Wc
        have hbw_Wc : Below w.heap.size w Wc := belOn hbw_Wa (by omega) hb_Wc
        have hD_Wc : Wc.heap[D]? = some (.deferred (some [])) := (hb_Wc.block D (by omega)).trans hD_Wa
        by_cases hl0 : zl = 0
        · subst hl0
          obtain ⟨l0, l1, l2, l3, l4⟩ := (xl.below hbW_Wc (by omega)).cells
          gi_wp2_with fail
          refine ⟨trivial, ?_⟩
          have q := depth_any l w.heap.size Wc (by omega) (HL.out.keep hbw_Wc (Nat.le_refl _))
          rw [V.val_eq] at q
          refine (callsIn_wide.2 q).mono ?_
          clear q
          obtain ⟨dl, hdl⟩ : ∃ dl, mx (l.all 1) = dl := ⟨_, rfl⟩
          have Hdl := hide hdl
          rw [hdl]
          clear hdl
          rintro e Wd ⟨rfl, hb_Wd⟩
          clear l0 l1 l2 l3 l4
          have hs_Wd := hb_Wd.size
          have hbW_Wd : Below W0.heap.size W0 Wd := belOn hbW_Wc (by omega) hb_Wd
          have hbw_Wd : Below w.heap.size w Wd := belOn hbw_Wc (by omega) hb_Wd
          have hD_Wd : Wd.heap[D]? = some (.deferred (some [])) := (hb_Wd.block D (by omega)).trans hD_Wc
          have HO2D : Hid (decide (dl < 32) = true ↔ Inn l) := by
            show decide (dl < 32) = true ↔ Inn l
            rw [decide_eq_true_eq, Inn, Hzl.out, Hdl.out]
            exact ⟨fun h => ⟨rfl, h⟩, fun h => h.2⟩
          obtain ⟨k0, k1, k2, k3, k4⟩ := (xk.below hbW_Wd (by omega)).cells
          obtain ⟨l0, l1, l2, l3, l4⟩ := (xl.below hbW_Wd (by omega)).cells
          gi_wp2_with fail
          refine ⟨trivial, ?_⟩
          obtain ⟨o2, ho2⟩ : ∃ o2, decide (dl < 32) = o2 := ⟨_, rfl⟩
          rw [ho2]
          have HO2 : Hid (o2 = true ↔ Inn l) := by rw [← ho2]; exact HO2D
          clear ho2 HO2D
          have q := order_any k l w.heap.size Wd (by omega) (HK.out.keep hbw_Wd (Nat.le_refl _)) (HL.out.keep hbw_Wd (Nat.le_refl _))
          rw [V.val_eq, V.val_eq] at q
          refine (callsIn_wide.2 q).mono ?_
          clear q
          obtain ⟨od, hod⟩ : ∃ od, T.ord k.t l.t = od := ⟨_, rfl⟩
          have Hod := hide hod
          rw [hod]
          clear hod
          obtain ⟨ob, hob⟩ : ∃ ob : Bool, ((od : Int) != 0) = ob := ⟨_, rfl⟩
          have HOB : Hid (ob = true ↔ od ≠ 0) := by
            show ob = true ↔ od ≠ 0
            rw [← hob]; simp
          rintro e We ⟨rfl, hb_We⟩
          clear k0 k1 k2 k3 k4
          clear l0 l1 l2 l3 l4
          have hs_We := hb_We.size
          have hbW_We : Below W0.heap.size W0 We := belOn hbW_Wd (by omega) hb_We
          have hbw_We : Below w.heap.size w We := belOn hbw_Wd (by omega) hb_We
          have hD_We : We.heap[D]? = some (.deferred (some [])) := (hb_We.block D (by omega)).trans hD_Wd
          obtain ⟨v0, v1, v2, v3, v4⟩ := (xv.below hbW_We (by omega)).cells
          obtain ⟨k0, k1, k2, k3, k4⟩ := (xk.below hbW_We (by omega)).cells
          obtain ⟨l0, l1, l2, l3, l4⟩ := (xl.below hbW_We (by omega)).cells
          gi_wp2_with fail
          refine ⟨trivial, ?_⟩
          obtain ⟨Wf, hWf⟩ : ∃ Wf, We.alloc (Obj.cells #[.int .i64 k.k, .int .u64 k.n, .string k.s, .slice k.a k.l.length k.c, .int .i64 k.e, .int .i64 v.k, .int .u64 v.n, .string v.s, .slice v.a v.l.length v.c, .int .i64 v.e, .int .i64 l.k, .int .u64 l.n, .string l.s, .slice l.a l.l.length l.c, .int .i64 l.e, .int .i64 k.k, .int .u64 k.n, .string k.s, .slice k.a k.l.length k.c, .int .i64 k.e] 25) = Wf := ⟨_, rfl⟩
          have hs_f : Wf.heap.size = We.heap.size + 1 := by rw [← hWf]; simp
          have hb_Wf : Below We.heap.size We Wf := by rw [← hWf]; exact bel1 (Below.refl _ _) (Nat.le_refl _) _
          have xrow : Row Wf We.heap.size 0 [k, v, l, k] := row4s (by rw [← hWf]; exact World.alloc_heap_new _ _)
          rw [hWf]
          clear hWf
          clear v0 v1 v2 v3 v4
          clear k0 k1 k2 k3 k4
          clear l0 l1 l2 l3 l4
          have hs_Wf := hb_Wf.size
          have hbW_Wf : Below W0.heap.size W0 Wf := belOn hbW_We (by omega) hb_Wf
          have hbw_Wf : Below w.heap.size w Wf := belOn hbw_We (by omega) hb_Wf
          have hD_Wf : Wf.heap[D]? = some (.deferred (some [])) := (hb_Wf.block D (by omega)).trans hD_We
          refine (callsIn_wide.2 (mappedO_any [k, v, l, k] (some ⟨We.heap.size, 0, none⟩) 4 Wf.heap.size Wf (Nat.le_refl _) (by simp) (by simp) (fun _ => ⟨We.heap.size, 0, rfl, by omega, xrow⟩) ?_)).mono ?_
          · intro x hx
            simp only [List.mem_cons, List.not_mem_nil, or_false] at hx
            rcases hx with rfl | rfl | rfl | rfl
            · exact (HK.out.keep hbw_Wf (Nat.le_refl _)).mono (by omega)
            · exact (HV.out.keep hbw_Wf (Nat.le_refl _)).mono (by omega)
            · exact (HL.out.keep hbw_Wf (Nat.le_refl _)).mono (by omega)
            · exact (HK.out.keep hbw_Wf (Nat.le_refl _)).mono (by omega)
          rintro e Wg ⟨m, rfl, HM, hb_Wg⟩
          clear xrow
          have hs_Wg := hb_Wg.size
          have hbW_Wg : Below W0.heap.size W0 Wg := belOn hbW_Wf (by omega) hb_Wg
          have hbw_Wg : Below w.heap.size w Wg := belOn hbw_Wf (by omega) hb_Wg
          have hD_Wg : Wg.heap[D]? = some (.deferred (some [])) := (hb_Wg.block D (by omega)).trans hD_Wf
          gi_wp2_with fail
          refine ⟨trivial, ?_⟩
          obtain ⟨Wh, hWh⟩ : ∃ Wh, Wg.alloc (Obj.cells #[.int .i64 m.k, .int .u64 m.n, .string m.s, .slice m.a m.l.length m.c, .int .i64 m.e] 25) = Wh := ⟨_, rfl⟩
          have hs_h : Wh.heap.size = Wg.heap.size + 1 := by rw [← hWh]; simp
          have hb_Wh : Below Wg.heap.size Wg Wh := by rw [← hWh]; exact bel1 (Below.refl _ _) (Nat.le_refl _) _
          have xm : BoxV Wh Wg.heap.size m := by rw [← hWh]; exact World.alloc_heap_new _ _
          rw [hWh]
          clear hWh
          have hs_Wh := hb_Wh.size
          have hbW_Wh : Below W0.heap.size W0 Wh := belOn hbW_Wg (by omega) hb_Wh
          have hbw_Wh : Below w.heap.size w Wh := belOn hbw_Wg (by omega) hb_Wh
          have hD_Wh : Wh.heap[D]? = some (.deferred (some [])) := (hb_Wh.block D (by omega)).trans hD_Wg
          have HML : Hid (Lies Wg.heap.size Wh m) := LiesIn.keep HM.out.2.1 (fun b hb o => hb_Wh.cell (p := ⟨b, o, none⟩) hb.2) (fun b hb => hb.2)
          have q := check_any m Wg.heap.size Wh (by omega) HML.out (tabs_below HT.out hbw_Wh)
          rw [V.val_eq] at q
          refine (callsIn_wide.2 q).mono ?_
          clear q
          have HMI : Hid (firstE checkZ (m.all 1) = 0 ↔ Inn v ∧ Inn k ∧ Inn l ∧ od ≠ 0) := by
            have := map_iff v k l m HM.out.1 hwv hwk hwl
            rw [Hod.out] at this
            exact this
          obtain ⟨zm, hzm⟩ : ∃ zm, firstE checkZ (m.all 1) = zm := ⟨_, rfl⟩
          rw [hzm] at HMI ⊢
          clear hzm
          rintro e Wi ⟨rfl, hb_Wi⟩
          have hs_Wi := hb_Wi.size
          have hbW_Wi : Below W0.heap.size W0 Wi := belOn hbW_Wh (by omega) hb_Wi
          have hbw_Wi : Below w.heap.size w Wi := belOn hbw_Wh (by omega) hb_Wi
          have hD_Wi : Wi.heap[D]? = some (.deferred (some [])) := (hb_Wi.block D (by omega)).trans hD_Wh
          have xm_i : BoxV Wi Wg.heap.size m := xm.below hb_Wi (by omega)
          clear xm
          by_cases hm0 : zm = 0
          · exact absurd trivial (fun _ => by exact HNI.out (HMI.out.1 hm0).1)
          · have hmb : (zm == 0) = false := by simp [hm0]
            have xr_Wi : Boxed Wi (w.heap.size + 1 + 1 + 1) 4 (.bool false) := (hbW_Wi.block _ (by omega)).trans xr
            have rc := xr_Wi.cell
            have rf := xr_Wi.frozen
            gi_wp2
            all_goals
              have hK' := (KeepsOthers.setCell Wi ⟨w.heap.size + 1 + 1 + 1, 0, none⟩ (.bool true)).same D _ hD_Wi rfl
              refine ⟨by simp, .inl ⟨_, _, rfl, run_takeDeferred hK', ?_⟩⟩
              have hc5 := cell_kept (xr_Wi.set (.bool true)).cell (grownBy_putObj' _ D (.deferred none)) (fun r e => by cases e; exact ⟨_, hK', rfl⟩)
              refine ⟨.bool true, ?_, rfl, (hbw_Wi.setCell (p := ⟨w.heap.size + 1 + 1 + 1, 0, none⟩) (by show w.heap.size ≤ w.heap.size + 1 + 1 + 1; omega) _).trans (belowK_b (w := w) (Nat.le_refl _) _ D _ _ (by omega) hK' rfl rfl)⟩
              simp only [results, Tryd.f7, go_sem]
              simp [hc5]
        · have hlb : (zl == 0) = false := by simp [hl0]
          gi_wp2_with fail
          refine ⟨trivial, ?_⟩
          have HN2 : Hid (¬ Inn l) := fun h => hl0 (by rw [← Hzl.out]; exact h.1)
          obtain ⟨k0, k1, k2, k3, k4⟩ := (xk.below hbW_Wc (by omega)).cells
          obtain ⟨l0, l1, l2, l3, l4⟩ := (xl.below hbW_Wc (by omega)).cells
          gi_wp2_with fail
          refine ⟨trivial, ?_⟩
          have q := order_any k l w.heap.size Wc (by omega) (HK.out.keep hbw_Wc (Nat.le_refl _)) (HL.out.keep hbw_Wc (Nat.le_refl _))
          rw [V.val_eq, V.val_eq] at q
          refine (callsIn_wide.2 q).mono ?_
          clear q
          obtain ⟨od, hod⟩ : ∃ od, T.ord k.t l.t = od := ⟨_, rfl⟩
          have Hod := hide hod
          rw [hod]
          clear hod
          obtain ⟨ob, hob⟩ : ∃ ob : Bool, ((od : Int) != 0) = ob := ⟨_, rfl⟩
          have HOB : Hid (ob = true ↔ od ≠ 0) := by
            show ob = true ↔ od ≠ 0
            rw [← hob]; simp
          rintro e We ⟨rfl, hb_We⟩
          clear k0 k1 k2 k3 k4
          clear l0 l1 l2 l3 l4
          have hs_We := hb_We.size
          have hbW_We : Below W0.heap.size W0 We := belOn hbW_Wc (by omega) hb_We
          have hbw_We : Below w.heap.size w We := belOn hbw_Wc (by omega) hb_We
          have hD_We : We.heap[D]? = some (.deferred (some [])) := (hb_We.block D (by omega)).trans hD_Wc
          obtain ⟨v0, v1, v2, v3, v4⟩ := (xv.below hbW_We (by omega)).cells
          obtain ⟨k0, k1, k2, k3, k4⟩ := (xk.below hbW_We (by omega)).cells
          obtain ⟨l0, l1, l2, l3, l4⟩ := (xl.below hbW_We (by omega)).cells
          gi_wp2_with fail
          refine ⟨trivial, ?_⟩
          obtain ⟨Wf, hWf⟩ : ∃ Wf, We.alloc (Obj.cells #[.int .i64 k.k, .int .u64 k.n, .string k.s, .slice k.a k.l.length k.c, .int .i64 k.e, .int .i64 v.k, .int .u64 v.n, .string v.s, .slice v.a v.l.length v.c, .int .i64 v.e, .int .i64 l.k, .int .u64 l.n, .string l.s, .slice l.a l.l.length l.c, .int .i64 l.e, .int .i64 k.k, .int .u64 k.n, .string k.s, .slice k.a k.l.length k.c, .int .i64 k.e] 25) = Wf := ⟨_, rfl⟩
          have hs_f : Wf.heap.size = We.heap.size + 1 := by rw [← hWf]; simp
          have hb_Wf : Below We.heap.size We Wf := by rw [← hWf]; exact bel1 (Below.refl _ _) (Nat.le_refl _) _
          have xrow : Row Wf We.heap.size 0 [k, v, l, k] := row4s (by rw [← hWf]; exact World.alloc_heap_new _ _)
          rw [hWf]
          clear hWf
          clear v0 v1 v2 v3 v4
          clear k0 k1 k2 k3 k4
          clear l0 l1 l2 l3 l4
          have hs_Wf := hb_Wf.size
          have hbW_Wf : Below W0.heap.size W0 Wf := belOn hbW_We (by omega) hb_Wf
          have hbw_Wf : Below w.heap.size w Wf := belOn hbw_We (by omega) hb_Wf
          have hD_Wf : Wf.heap[D]? = some (.deferred (some [])) := (hb_Wf.block D (by omega)).trans hD_We
          refine (callsIn_wide.2 (mappedO_any [k, v, l, k] (some ⟨We.heap.size, 0, none⟩) 4 Wf.heap.size Wf (Nat.le_refl _) (by simp) (by simp) (fun _ => ⟨We.heap.size, 0, rfl, by omega, xrow⟩) ?_)).mono ?_
          · intro x hx
            simp only [List.mem_cons, List.not_mem_nil, or_false] at hx
            rcases hx with rfl | rfl | rfl | rfl
            · exact (HK.out.keep hbw_Wf (Nat.le_refl _)).mono (by omega)
            · exact (HV.out.keep hbw_Wf (Nat.le_refl _)).mono (by omega)
            · exact (HL.out.keep hbw_Wf (Nat.le_refl _)).mono (by omega)
            · exact (HK.out.keep hbw_Wf (Nat.le_refl _)).mono (by omega)
          rintro e Wg ⟨m, rfl, HM, hb_Wg⟩
          clear xrow
          have hs_Wg := hb_Wg.size
          have hbW_Wg : Below W0.heap.size W0 Wg := belOn hbW_Wf (by omega) hb_Wg
          have hbw_Wg : Below w.heap.size w Wg := belOn hbw_Wf (by omega) hb_Wg
          have hD_Wg : Wg.heap[D]? = some (.deferred (some [])) := (hb_Wg.block D (by omega)).trans hD_Wf
          gi_wp2_with fail
          refine ⟨trivial, ?_⟩
          obtain ⟨Wh, hWh⟩ : ∃ Wh, Wg.alloc (Obj.cells #[.int .i64 m.k, .int .u64 m.n, .string m.s, .slice m.a m.l.length m.c, .int .i64 m.e] 25) = Wh := ⟨_, rfl⟩
          have hs_h : Wh.heap.size = Wg.heap.size + 1 := by rw [← hWh]; simp
          have hb_Wh : Below Wg.heap.size Wg Wh := by rw [← hWh]; exact bel1 (Below.refl _ _) (Nat.le_refl _) _
          have xm : BoxV Wh Wg.heap.size m := by rw [← hWh]; exact World.alloc_heap_new _ _
          rw [hWh]
          clear hWh
          have hs_Wh := hb_Wh.size
          have hbW_Wh : Below W0.heap.size W0 Wh := belOn hbW_Wg (by omega) hb_Wh
          have hbw_Wh : Below w.heap.size w Wh := belOn hbw_Wg (by omega) hb_Wh
          have hD_Wh : Wh.heap[D]? = some (.deferred (some [])) := (hb_Wh.block D (by omega)).trans hD_Wg
          have HML : Hid (Lies Wg.heap.size Wh m) := LiesIn.keep HM.out.2.1 (fun b hb o => hb_Wh.cell (p := ⟨b, o, none⟩) hb.2) (fun b hb => hb.2)
          have q := check_any m Wg.heap.size Wh (by omega) HML.out (tabs_below HT.out hbw_Wh)
          rw [V.val_eq] at q
          refine (callsIn_wide.2 q).mono ?_
          clear q
          have HMI : Hid (firstE checkZ (m.all 1) = 0 ↔ Inn v ∧ Inn k ∧ Inn l ∧ od ≠ 0) := by
            have := map_iff v k l m HM.out.1 hwv hwk hwl
            rw [Hod.out] at this
            exact this
          obtain ⟨zm, hzm⟩ : ∃ zm, firstE checkZ (m.all 1) = zm := ⟨_, rfl⟩
          rw [hzm] at HMI ⊢
          clear hzm
          rintro e Wi ⟨rfl, hb_Wi⟩
          have hs_Wi := hb_Wi.size
          have hbW_Wi : Below W0.heap.size W0 Wi := belOn hbW_Wh (by omega) hb_Wi
          have hbw_Wi : Below w.heap.size w Wi := belOn hbw_Wh (by omega) hb_Wi
          have hD_Wi : Wi.heap[D]? = some (.deferred (some [])) := (hb_Wi.block D (by omega)).trans hD_Wh
          have xm_i : BoxV Wi Wg.heap.size m := xm.below hb_Wi (by omega)
          clear xm
          by_cases hm0 : zm = 0
          · exact absurd trivial (fun _ => by exact HNI.out (HMI.out.1 hm0).1)
          · have hmb : (zm == 0) = false := by simp [hm0]
            have xr_Wi : Boxed Wi (w.heap.size + 1 + 1 + 1) 4 (.bool false) := (hbW_Wi.block _ (by omega)).trans xr
            have rc := xr_Wi.cell
            have rf := xr_Wi.frozen
            gi_wp2
            all_goals
              have hK' := (KeepsOthers.setCell Wi ⟨w.heap.size + 1 + 1 + 1, 0, none⟩ (.bool true)).same D _ hD_Wi rfl
              refine ⟨by simp, .inl ⟨_, _, rfl, run_takeDeferred hK', ?_⟩⟩
              have hc5 := cell_kept (xr_Wi.set (.bool true)).cell (grownBy_putObj' _ D (.deferred none)) (fun r e => by cases e; exact ⟨_, hK', rfl⟩)
              refine ⟨.bool true, ?_, rfl, (hbw_Wi.setCell (p := ⟨w.heap.size + 1 + 1 + 1, 0, none⟩) (by show w.heap.size ≤ w.heap.size + 1 + 1 + 1; omega) _).trans (belowK_b (w := w) (Nat.le_refl _) _ D _ _ (by omega) hK' rfl rfl)⟩
              simp only [results, Tryd.f7, go_sem]
              simp [hc5]

    clear hKK
    obtain ⟨hy2, hB2, hB3, hl2⟩ := HY2.out
    have hBlt := hB2.lt
    have hst := all_seq (fun b => b = w7.heap.size) (fun b => b = w7.heap.size ∨ b = w.heap.size + 1 + 1 + 1) (fun b => W8.heap.size ≤ b ∧ b < w9.heap.size) (fun _ h => .inl h) (fun b h1 h2 => by omega) y2 B (by show ¬ B = w7.heap.size; omega) w9 hB2 hl2 (fun b h => h.2) (fun b h => by omega)
    refine range_own (gf := 44) (lb := #[.pointer (some ⟨B, 0, none⟩)]) rfl (enters_of Tryd.func44 (by kernel_rfl) rfl) hst (fun b h => by omega) (fun _ h => .inl h) (fun b h => by omega) (fun _ => rfl)
      (fun pre W => (pre.length < 300 ∧ Boxed W w7.heap.size 3 (.int .i64 (pre.length : Int))) ∧ Below w7.heap.size w9 W)
      (fun c pre W => (c = .ret ∧ ∃ (p : List (Int × V)) (x : Int × V), pre = p ++ [x] ∧ ¬ (firstE checkZ (x.2.all 1) = 0 ∧ wrap64 (wrap64 (x.1 + mx (x.2.all 1)) - 1) ≤ dp)) ∨ (c = .exit 0 ∧ Below w7.heap.size w9 W))
      (OwnFrom.and (OwnFrom.and (ownFrom_pure _ _) (Own.from (boxed_own _ _ _) _)) (ownFrom_below (by omega) (by omega)))
      (fun c s A B row hs hg hr => Or.elim hs (fun h => .inl h) (fun h => .inr ⟨h.1, ownFrom_below (β := Unit) (n₀ := w7.heap.size) (w₀ := w9) (by omega) (by omega) () A B row h.2 hg hr⟩)) ⟨⟨by simp, xn9⟩, Below.refl _ _⟩
      (fun x a' W => LiesIn (fun b => b < W.heap.size) W x.2 ∧ ∃ Bx, BoxV W Bx x.2 ∧ a' = { tmps := sTmps v k l y w.heap.size w1.heap.size w4.heap.size w7.heap.size B z zi dp false (decide (dp < 32)) (decide (dp < 32)) (.int .i64 x.1) (.pointer (some ⟨Bx, 0, none⟩)) (.int .i64 x.1) (.agg #[.int .i64 x.2.k, .int .u64 x.2.n, .string x.2.s, .slice x.2.a x.2.l.length x.2.c, .int .i64 x.2.e]), defers := [] })
      ?hAx ?assign ?body ?done ?stop
    case hAx =>
      intro x a' _ A B row hs hg hr
      obtain ⟨h1, Bx, h2, h3⟩ := hs
      refine ⟨lies_grown hg (fun r e => (hr r e).2) hg.size x.2 h1, Bx, ?_, h3⟩
      exact (hg.block Bx h2.lt (fun e => by
        obtain ⟨_, o, ho, hc⟩ := hr Bx e.symm
        rw [show A.heap[Bx]? = _ from h2] at ho
        cases ho
        cases hc)).trans h2
    case assign =>
      rintro l' pre x W K' hR ⟨⟨hp, hv⟩, hB⟩ hK
      simp only [encV, V.val_eq]
      have hsz := hB.size
      gi_wp2
      exact hK _ _ ((KpX.refl _ W).alloc _) ⟨⟨hp, hv.alloc _⟩, bel1 hB (by omega) _⟩ ⟨LiesIn.keep hR (fun b hb o => (bel1 (Below.refl _ W) (Nat.le_refl _) _).cell (p := ⟨b, o, none⟩) hb) (fun b hb => by simp; omega), W.heap.size, BoxV.new W x.2, rfl⟩
    case body =>
      rintro l' pre x a' W hl' ⟨r, hr⟩ ⟨⟨hp, hv⟩, hB⟩ ⟨hR, Bx, bX, rfl⟩ hlt
      simp only [sTmps]
      have hsz := hB.size
      have hBw : Below w.heap.size w W := hbw9.trans (hB.mono (by omega))
      have hBW : Below W0.heap.size W0 W := hbW9.trans (hB.mono (by omega))
      have xd : Boxed W w4.heap.size 3 (.int .i64 dp) := (hB.block _ (by omega)).trans xd9
      have xr' : Boxed W (w.heap.size + 1 + 1 + 1) 4 (.bool false) := (hBW.block _ (by omega)).trans xr
      have hR1 := hide hR
      obtain ⟨c0, c1, c2, c3, c4⟩ := bX.cells
      have hbx := bX.lt
      gi_wp2_with fail
      refine ⟨trivial, ?_⟩
      have q := check_any x.2 W.heap.size W (Nat.le_refl _) hR1.out (tabs_below HT.out hBw)
      rw [V.val_eq] at q
      refine (CallsIn.inRound l' (callsIn_wide.2 q)).mono ?_
      clear q c0 c1 c2 c3 c4
      obtain ⟨zx, hzx⟩ : ∃ zx, firstE checkZ (x.2.all 1) = zx := ⟨_, rfl⟩
      have HZX := hide hzx
      rw [hzx]
      clear hzx
      rintro e W1 ⟨rfl, hb1⟩
      have hz1 := hb1.size
      obtain ⟨c0, c1, c2, c3, c4⟩ := (bX.below hb1 hbx).cells
      gi_wp2_with fail
      refine ⟨trivial, ?_⟩
      have q := depth_any x.2 W.heap.size W1 hz1 (Lies.keep hR1.out hb1 (Nat.le_refl _))
      rw [V.val_eq] at q
      refine (CallsIn.inRound l' (callsIn_wide.2 q)).mono ?_
      clear q c0 c1 c2 c3 c4
      obtain ⟨dx, hdx⟩ : ∃ dx, mx (x.2.all 1) = dx := ⟨_, rfl⟩
      have HDX := hide hdx
      rw [hdx]
      clear hdx
      rintro e W2 ⟨rfl, hb2⟩
      have hz2 := hb2.size
      have hb02 : Below W.heap.size W W2 := hb1.trans (hb2.mono hz1)
      have xd2 : Boxed W2 w4.heap.size 3 (.int .i64 dp) := (hb02.block _ xd.lt).trans xd
      have hc := xd2.cell
      have xn2 : Boxed W2 w7.heap.size 3 (.int .i64 (pre.length : Int)) := (hb02.block _ hv.lt).trans hv
      have hn := xn2.cell
      have hnf := xn2.frozen
      have xr2 : Boxed W2 (w.heap.size + 1 + 1 + 1) 4 (.bool false) := (hb02.block _ xr'.lt).trans xr'
      have hr0 := xr2.cell
      have hrf := xr2.frozen
      gi_wp2
      · rename_i h0 h1
        refine ⟨KpX.setCell (X := fun b => b = w7.heap.size ∨ b = w.heap.size + 1 + 1 + 1) (KpX.of_below hb02) (.inr rfl) _ _, .inl ⟨rfl, pre, x, rfl, fun h => ?_⟩⟩
        rw [HDX.out] at h
        omega
      · exact ⟨KpX.setCell (X := fun b => b = w7.heap.size ∨ b = w.heap.size + 1 + 1 + 1) (KpX.of_below hb02) (.inl rfl) _ _, .inr ⟨rfl, (hB.trans (hb02.mono (by omega))).setCell (p := ⟨w7.heap.size, 0, none⟩) (Nat.le_refl _) _⟩⟩
      · rename_i h0 h1 h2
        have hne : pre.length + 1 ≠ 300 := by
          intro e
          have : ((pre.length : Int) + 1 == 300) = true := by simp; omega
          rw [this] at h2
          cases h2
        refine ⟨KpX.setCell (X := fun b => b = w7.heap.size) (KpX.of_below hb02) rfl _ _, ⟨⟨by simp; omega, ?_⟩, (hB.trans (hb02.mono (by omega))).setCell (p := ⟨w7.heap.size, 0, none⟩) (Nat.le_refl _) _⟩⟩
        rw [show ((pre ++ [x]).length : Int) = pre.length + 1 by simp]
        exact xn2.set _
      · rename_i h0
        refine ⟨KpX.setCell (X := fun b => b = w7.heap.size ∨ b = w.heap.size + 1 + 1 + 1) (KpX.of_below hb02) (.inr rfl) _ _, .inl ⟨rfl, pre, x, rfl, fun h => ?_⟩⟩
        rw [HZX.out] at h
        exact h0 h.1
    case done =>
      rintro D ys W hD hys ⟨⟨hp, hv⟩, hB⟩ hK
      exact REST D W hD hK (hbW9.trans (hB.mono (by omega)))
    case stop =>
      rintro D c pre W hD hpre (⟨rfl, p, x, rfl, hbad⟩ | ⟨rfl, hB⟩) hK
      · exfalso
        apply hbad
        have hm : (x.1, x.2.t) ∈ bare (y2.all 1) := hpre.subset (by unfold bare; simp)
        unfold bare at hm
        obtain ⟨x', hx', he⟩ := List.mem_map.1 hm
        simp only [Prod.mk.injEq] at he
        have hz0 : z = 0 := HG.out.1 trivial
        have hgy : firstE checkZ (y2.all 1) = 0 := by rw [check_sameS hy2 1, HZ.out, hz0]
        obtain ⟨g1, g2, g3, g4⟩ := sub_good y2 (by rw [hy2]; exact hwv) hgy x' hx'
        have hd32 : dp ≤ 32 := by
          have := ((good_iff v hwv).1 (by rw [HZ.out, hz0])).1
          rw [HDP.out] at this
          exact this
        have hmy : mx (y2.all 1) = dp := by rw [mx_bareS (all_bareS y2 v 1 hy2), HDP.out]
        have hmx : mx (x.2.all 1) = mx (x'.2.all 1) := mx_bareS (all_bareS x.2 x'.2 1 he.2.symm)
        have hn0 := sm_nonneg (x'.2.all 1)
        rw [check_sameS he.2.symm 1]
        refine ⟨g1, ?_⟩
        rw [hmx, ← he.1, sm_wrap (d := x'.1 + mx (x'.2.all 1)) (by omega) (by omega), sm_wrap (by omega) (by omega)]
        omega
      · gi_wp2
        exact REST D W hD hK (hbW9.trans (hB.mono (by omega)))
end Go.Proofs.YtaedlnliglmomaaDoor
