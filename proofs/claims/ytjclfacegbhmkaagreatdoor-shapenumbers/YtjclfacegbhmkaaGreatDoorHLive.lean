
/- longshorelaw07.live. -/
import Derived.Test.YtjclfacegbhmkaaGreatDoorHLiveU
namespace Go.Proofs.YtjclfacegbhmkaaGreatDoor
open Go.RowKit
set_option linter.unusedVariables false
set_option linter.unusedSimpArgs false
set_option maxRecDepth 100000 in
set_option maxHeartbeats 2000000 in
theorem sameRecord_any (k : Int) (l m : List V) (a a' : Option Addr) (c c' n₀ : Nat) (w : World) (hn : n₀ ≤ w.heap.size) (hx : Lies n₀ w (.of 0 0 ⟨#[]⟩ a c 0 l)) (hy : Lies n₀ w (.of 0 0 ⟨#[]⟩ a' c' 0 m)) (he : eqsT (V.ts l) (V.ts m) = true) :
    Calls Tryz.prog 32 #[.agg #[.int .i64 k, .slice a l.length c], .agg #[.int .i64 k, .slice a' m.length c']] w fun e w' => e = .returned (.bool true) ∧ Below w.heap.size w w' := by
  obtain ⟨W0, hW0⟩ : ∃ W0, (w.alloc (Obj.cells #[.int .i64 k, .slice a l.length c] 39)).alloc (Obj.cells #[.int .i64 k, .slice a' m.length c'] 39) = W0 := ⟨_, rfl⟩
  have hs0 : W0.heap.size = w.heap.size + 2 := by rw [← hW0]; simp
  have hb0 : Below w.heap.size w W0 := by rw [← hW0]; exact bel2 (Below.refl _ _) (Nat.le_refl _) _ _
  have xa : BoxR W0 w.heap.size k a l.length c := by rw [← hW0]; exact heap_past (World.alloc_heap_new _ _) _
  have xb : BoxR W0 (w.heap.size + 1) k a' m.length c' := by rw [← hW0]; exact heap_at1 _ _ _
  have h := equalAll_any l m a a' c c' n₀ W0 (by omega) (hx.keep hb0 hn) (hy.keep hb0 hn)
  rw [he] at h
  have HH := hide h
  have HW0 := hide hW0
  clear h hx hy hW0 he
  go_enter Tryz.func32, Tryz.ntmps32
  go_wp2_with fail
  rw [HW0.out]
  refine HH.out.mono ?_
  rintro e w1 ⟨rfl, hb⟩
  have hs := hb.size
  obtain ⟨a0, a1⟩ := (xa.below hb (by omega)).cells
  obtain ⟨b0, b1⟩ := (xb.below hb (by omega)).cells
  have hz1 : w.heap.size < w1.heap.size := by omega
  have hz2 : w.heap.size + 1 < w1.heap.size := by omega
  go_wp2
  go_ret
  exact ⟨by simp, belOn hb0 (by omega) hb⟩
theorem same22 : eqsT (V.ts l22) (V.ts l22) = true := by
  have e0 : eqT l22[0].t l22[0].t = true := by
    show eqT (leaf 4 7 ⟨#[]⟩).t (leaf 4 7 ⟨#[]⟩).t = true
    rw [eqT_leaf]; simp
  have e1 : eqT l22[1].t l22[1].t = true := by
    show eqT (leaf 1 0 ⟨#[]⟩).t (leaf 1 0 ⟨#[]⟩).t = true
    rw [eqT_leaf]; simp
  have e2 : eqT l22[2].t l22[2].t = true := by
    show eqT (leaf 0 0 ⟨#[]⟩).t (leaf 0 0 ⟨#[]⟩).t = true
    rw [eqT_leaf]; simp
  have h3 : eqsT (V.ts (l22.drop 3)) (V.ts (l22.drop 3)) = true := rfl
  have h2 : eqsT (V.ts (l22.drop 2)) (V.ts (l22.drop 2)) = true := by rw [eqsT_step (by decide) (by decide), h3, e2]; rfl
  have h1 : eqsT (V.ts (l22.drop 1)) (V.ts (l22.drop 1)) = true := by rw [eqsT_step (by decide) (by decide), h2, e1]; rfl
  have h0 : eqsT (V.ts (l22.drop 0)) (V.ts (l22.drop 0)) = true := by rw [eqsT_step (by decide) (by decide), h1, e0]; rfl
  exact h0
theorem row22 (w : World) (t : TypeId) : Row (w.alloc (.cells #[.int .i64 4, .int .u64 7, .string ⟨#[]⟩, .slice none 0 0, .int .i64 0, .int .i64 1, .int .u64 0, .string ⟨#[]⟩, .slice none 0 0, .int .i64 0, .int .i64 0, .int .u64 0, .string ⟨#[]⟩, .slice none 0 0, .int .i64 0] t)) w.heap.size 0 l22 := by
  intro i hi
  have h3 : i < 3 := hi
  unfold World.cell?
  simp only [World.alloc_heap_new]
  obtain rfl | rfl | rfl : i = 0 ∨ i = 1 ∨ i = 2 := by omega
  all_goals exact ⟨rfl, rfl, rfl, rfl, rfl⟩
set_option maxRecDepth 100000 in
set_option maxHeartbeats 4000000 in
theorem live_any (w : World) (hT : Lib.Utf8Tabs 0 1 w) : Calls Tryz.prog 9 #[] w fun e w' => e = .returned (.bool true) ∧ Below w.heap.size w w' := by
  have HT : Hid (∀ W, Below w.heap.size w W → Lib.Utf8Tabs 0 1 W) := fun W h => tabs_below hT h
  have HF := hide (fields22_any w)
  clear hT
  go_enter Tryz.func9, Tryz.ntmps9
  go_wp2_with fail
  refine HF.out.mono ?_
  rintro e1 w1 ⟨ko, b, rfl, hb1, _, _, _⟩
  have HN := hide (name16_any w1)
  go_wp2_with fail
  refine HN.out.mono ?_
  rintro e2 w2 ⟨rfl, hb2⟩
  have hbw2 : Below w.heap.size w w2 := belOn hb1 hb1.size hb2
  have hs2 := hbw2.size
  obtain ⟨WA, hWA⟩ : ∃ WA, w2.alloc (.cells #[.int .i64 4, .int .u64 7, .string ⟨#[]⟩, .slice none 0 0, .int .i64 0, .int .i64 1, .int .u64 0, .string ⟨#[]⟩, .slice none 0 0, .int .i64 0, .int .i64 0, .int .u64 0, .string ⟨#[]⟩, .slice none 0 0, .int .i64 0] 34) = WA := ⟨_, rfl⟩
  obtain ⟨W3, hW3⟩ : ∃ W3, WA.alloc (Obj.cells #[.int .i64 22, .slice (some ⟨w2.heap.size, 0, none⟩) 3 3] 39) = W3 := ⟨_, rfl⟩
  have hsA : WA.heap.size = w2.heap.size + 1 := by rw [← hWA]; simp
  have hs3 : W3.heap.size = w2.heap.size + 2 := by rw [← hW3]; simp; omega
  have hbA : Below w2.heap.size w2 WA := by rw [← hWA]; exact bel1 (Below.refl _ _) (Nat.le_refl _) _
  have hbA3 : Below WA.heap.size WA W3 := by rw [← hW3]; exact bel1 (Below.refl _ _) (Nat.le_refl _) _
  have hb23 : Below w2.heap.size w2 W3 := hbA.trans (hbA3.mono (by omega))
  have hbw3 : Below w.heap.size w W3 := belOn hbw2 hs2 hb23
  have hrA : Row WA w2.heap.size 0 l22 := by rw [← hWA]; exact row22 _ _
  have hr3 : Row W3 w2.heap.size 0 l22 := hrA.below hbA3 (by omega)
  have hx3 : BoxR W3 (w2.heap.size + 1) 22 (some ⟨w2.heap.size, 0, none⟩) 3 3 := by rw [← hW3, ← hsA]; exact World.alloc_heap_new _ _
  have HP := hide (pack22 w2.heap.size W3 (by omega) hr3 (fun W h => HT.out W (belOn hbw3 hbw3.size h)))
  unfold VN at HP
  have HR := hide hr3
  have HWA := hide hWA
  have HW3 := hide hW3
  clear hWA hW3 hrA hr3
  go_wp2_with fail
  rw [HWA.out, HW3.out]
  refine HP.out.mono ?_
  rintro e3 w3 ⟨y, rfl, HY, hb3⟩
  have hsz3 := hb3.size
  have hbw4 : Below w.heap.size w w3 := belOn hbw3 hbw3.size hb3
  obtain ⟨W4, hW4⟩ : ∃ W4, w3.alloc (Obj.cells #[.int .i64 y.k, .int .u64 y.n, .string y.s, .slice y.a y.l.length y.c, .int .i64 y.e] 34) = W4 := ⟨_, rfl⟩
  have hs4 : W4.heap.size = w3.heap.size + 1 := by rw [← hW4]; simp
  have hb34 : Below w3.heap.size w3 W4 := by rw [← hW4]; exact bel1 (Below.refl _ _) (Nat.le_refl _) _
  have hbw5 : Below w.heap.size w W4 := belOn hbw4 hbw4.size hb34
  obtain ⟨⟨v, hv, hyt⟩, hyl⟩ := HY.out
  have hU := unpack22 hv hyt W4 ((hyl.keep hb34 (Nat.le_refl _)).mono (by omega)) (fun W h => HT.out W (belOn hbw5 hbw5.size h))
  rw [V.val_eq] at hU
  have HU := hide hU
  have HW4 := hide hW4
  clear hU hW4
  go_wp2_with fail
  rw [HW4.out]
  refine HU.out.mono ?_
  rintro e5 w5 ⟨z, rfl, HZ, hb5⟩
  have hsz5 := hb5.size
  have hb35 : Below W3.heap.size W3 w5 := (hb3.trans (hb34.mono (by omega))).trans (hb5.mono (by omega))
  have hbw6 : Below w.heap.size w w5 := belOn hbw5 hbw5.size hb5
  obtain ⟨W6, hW6⟩ : ∃ W6, w5.alloc (Obj.cells #[.int .i64 22, .slice z.a z.l.length z.c] 39) = W6 := ⟨_, rfl⟩
  have hs6 : W6.heap.size = w5.heap.size + 1 := by rw [← hW6]; simp
  have hb56 : Below w5.heap.size w5 W6 := by rw [← hW6]; exact bel1 (Below.refl _ _) (Nat.le_refl _) _
  have hx6 : BoxR W6 w5.heap.size 22 z.a z.l.length z.c := by rw [← hW6]; exact World.alloc_heap_new _ _
  have hb36 : Below W3.heap.size W3 W6 := belOn hb35 hb35.size hb56
  have hbw7 : Below w.heap.size w W6 := belOn hbw6 hbw6.size hb56
  obtain ⟨r0, r1⟩ := (hx3.below hb35 (by omega)).cells
  have hlx : Lies W6.heap.size W6 (.of 0 0 ⟨#[]⟩ (some ⟨w2.heap.size, 0, none⟩) 3 0 l22) := .mk ⟨by decide, by decide, by decide, by decide, by decide, by decide⟩ (fun _ => ⟨w2.heap.size, 0, rfl, by omega, HR.out.below hb36 (by omega)⟩) (fun x hx => by
    simp only [l22, List.mem_cons, List.not_mem_nil, or_false] at hx
    rcases hx with rfl | rfl | rfl <;> exact leaf_lies _ _ _ _ _ (by decide) (by decide) (by decide))
  have hzz : Lies W6.heap.size W6 z := LiesIn.keep HZ.out.2 (fun b' hq o => hb56.cell (p := ⟨b', o, none⟩) hq.2) (fun b' hq => by have h2 : b' < w5.heap.size := hq.2; omega)
  have hlz : Lies W6.heap.size W6 (.of 0 0 ⟨#[]⟩ z.a z.c 0 z.l) := by
    obtain ⟨zk, zn, zs, za, zc, ze, zl, rfl⟩ := V.ex z
    rw [V.a_of, V.c_of, V.l_of]
    exact .mk ⟨by decide, by decide, by decide, by decide, hzz.ok.l, hzz.ok.c⟩ hzz.row hzz.sub
  have hS := sameRecord_any 22 l22 z.l (some ⟨w2.heap.size, 0, none⟩) z.a 3 z.c W6.heap.size W6 (Nat.le_refl _) hlx hlz (by rw [HZ.out.1]; exact same22)
  have HS : Hid (Calls Tryz.prog 32 #[.agg #[.int .i64 22, .slice (some ⟨w2.heap.size, 0, none⟩) 3 3], .agg #[.int .i64 22, .slice z.a z.l.length z.c]] W6 fun e w' => e = .returned (.bool true) ∧ Below W6.heap.size W6 w') := hS
  have HW6 := hide hW6
  have hz1 : w2.heap.size + 1 < w5.heap.size := by omega
  clear hS hW6 hlx hlz hzz hx6
  go_wp2_with fail
  rw [HW6.out]
  refine HS.out.mono ?_
  rintro e7 w7 ⟨rfl, hb7⟩
  go_wp2
  go_ret
  exact ⟨by simp, belOn hbw7 hbw7.size hb7⟩
end Go.Proofs.YtjclfacegbhmkaaGreatDoor
