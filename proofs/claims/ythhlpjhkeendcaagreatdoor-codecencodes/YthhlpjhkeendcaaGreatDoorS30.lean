/- VFaultA, VCheckA, CGood -/
import Derived.Test.YthhlpjhkeendcaaGreatDoorS19
import Derived.Test.YthhlpjhkeendcaaGreatDoorS27
import Derived.Test.YthhlpjhkeendcaaGreatDoorS29
import Derived.Test.YthhlpjhkeendcaaGreatDoorS18
import Derived.Test.YthhlpjhkeendcaaGreatDoorS03
namespace Go.Proofs.YthhlpjhkeendcaaGreatDoor
open Go.RowKit
set_option linter.unusedVariables false
set_option linter.unusedSimpArgs false
def faultB (k d : Int) (bE bN bX bM bA : Bool) (len : Nat) : Int :=
  if k < 0 ∨ 24 < k then 20 else if 32 < d then 26 else if bE = true then 25 else if bN = false then 21 else if bX = false then 22
  else if k = 22 ∧ bM = false then 23 else if k = 23 ∧ bA = false then 24 else if k = 24 ∧ len ≠ 2 then 27 else 0
def faultT (d : Int) (x : T) : Int := faultB x.k d (extraT x.k x.n x.s x.l.length x.e) (numT x.k x.n) (textT x.k x.s) (mapT x.l) (arrT x.e x.l) x.l.length
theorem faultT_of (d k n : Int) (s : ByteArray) (a : Option Addr) (c : Nat) (e : Int) (l : List V) : faultT d (V.of k n s a c e l).t = faultB k d (extraT k n s l.length e) (numT k n) (textT k s) (mapT (V.ts l)) (arrT e (V.ts l)) l.length := by
  rw [V.t_of]
  show faultT d (V.of k n s none 0 e (V.ts l)) = _
  unfold faultT
  rw [V.k_of, V.n_of, V.s_of, V.e_of, V.l_of, V.ts_length]
set_option maxRecDepth 100000 in
set_option maxHeartbeats 8000000 in
theorem fault_any (x : V) (d : Int) (n₀ : Nat) (w : World) (hn : n₀ ≤ w.heap.size) (hx : Lies n₀ w x) (hT : Lib.Utf8Tabs 1 2 w) :
    Calls Tryz.prog 38 #[x.val, .int .i64 d] w fun e w' => e = .returned (.int .i64 (faultT d x.t)) ∧ Below w.heap.size w w' := by
  obtain ⟨k, n, s, a, c, e, l, rfl⟩ := V.ex x
  rw [faultT_of]
  have ok := hx.ok
  have hll := ok.c
  obtain ⟨W0, hW0⟩ : ∃ W0, w.alloc (Obj.cells #[.int .i64 k, .int .u64 n, .string s, .slice a l.length c, .int .i64 e] 25) = W0 := ⟨_, rfl⟩
  have hs0 : W0.heap.size = w.heap.size + 1 := by rw [← hW0]; simp
  have hb0 : Below w.heap.size w W0 := by rw [← hW0]; exact bel1 (Below.refl _ _) (Nat.le_refl _) _
  have xx : BoxV W0 w.heap.size (.of k n s a c e l) := by
    rw [← hW0]
    unfold BoxV
    rw [V.k_of, V.n_of, V.s_of, V.a_of, V.l_of, V.c_of, V.e_of]
    exact World.alloc_heap_new _ _
  have HC : Hid (∀ W, Below W0.heap.size W0 W → (W.cell? ⟨w.heap.size, 0, none⟩ = some (.int .i64 k) ∧ W.cell? ⟨w.heap.size, 1, none⟩ = some (.int .u64 n) ∧ W.cell? ⟨w.heap.size, 2, none⟩ = some (.string s) ∧ W.cell? ⟨w.heap.size, 3, none⟩ = some (.slice a l.length c) ∧ W.cell? ⟨w.heap.size, 4, none⟩ = some (.int .i64 e)) ∧ w.heap.size < W.heap.size) := fun W hW => by
    have h := (xx.below hW (by omega)).cells
    rw [V.k_of, V.n_of, V.s_of, V.a_of, V.l_of, V.c_of, V.e_of] at h
    exact ⟨h, by have := hW.size; omega⟩
  have HL : Hid (∀ W, Below W0.heap.size W0 W → Lies n₀ W (.of k n s a c e l) ∧ Lib.Utf8Tabs 1 2 W) := fun W hW => ⟨hx.keep (belOn hb0 (by omega) hW) hn, tabs_below hT (belOn hb0 (by omega) hW)⟩
  have HE : Hid (∀ W, Below W0.heap.size W0 W → Calls Tryz.prog 61 #[.agg #[.int .i64 k, .int .u64 n, .string s, .slice a l.length c, .int .i64 e]] W fun e' w' => e' = .returned (.bool (extraT k n s l.length e)) ∧ Below W0.heap.size W0 w') := fun W hW =>
    (extra_any k n s a l.length c e W (by omega)).mono (fun e' w' h => ⟨h.1, belOn hW hW.size h.2⟩)
  have HN : Hid (∀ W, Below W0.heap.size W0 W → Calls Tryz.prog 62 #[.agg #[.int .i64 k, .int .u64 n, .string s, .slice a l.length c, .int .i64 e]] W fun e' w' => e' = .returned (.bool (numT k n)) ∧ Below W0.heap.size W0 w') := fun W hW =>
    (num_any k n s a l.length c e W ok.n.1 ok.n.2).mono (fun e' w' h => ⟨h.1, belOn hW hW.size h.2⟩)
  have HX : Hid (∀ W, Below W0.heap.size W0 W → Calls Tryz.prog 63 #[.agg #[.int .i64 k, .int .u64 n, .string s, .slice a l.length c, .int .i64 e]] W fun e' w' => e' = .returned (.bool (textT k s)) ∧ Below W0.heap.size W0 w') := fun W hW =>
    (text_any k n s a l.length c e W ok.s (HL.out W hW).2).mono (fun e' w' h => ⟨h.1, belOn hW hW.size h.2⟩)
  have HM : Hid (∀ W, Below W0.heap.size W0 W → Calls Tryz.prog 64 #[.agg #[.int .i64 k, .int .u64 n, .string s, .slice a l.length c, .int .i64 e]] W fun e' w' => e' = .returned (.bool (mapT (V.ts l))) ∧ Below W0.heap.size W0 w') := fun W hW => by
    have q := ismap_any _ n₀ W (by have := hW.size; omega) (HL.out W hW).1
    rw [V.val_of, V.l_of] at q
    exact q.mono (fun e' w' h => ⟨h.1, belOn hW hW.size h.2⟩)
  have HA : Hid (∀ W, Below W0.heap.size W0 W → Calls Tryz.prog 65 #[.agg #[.int .i64 k, .int .u64 n, .string s, .slice a l.length c, .int .i64 e]] W fun e' w' => e' = .returned (.bool (arrT e (V.ts l))) ∧ Below W0.heap.size W0 w') := fun W hW => by
    have q := isarr_any _ n₀ W (by have := hW.size; omega) (HL.out W hW).1
    rw [V.val_of, V.l_of, V.e_of] at q
    exact q.mono (fun e' w' h => ⟨h.1, belOn hW hW.size h.2⟩)
  have hbr : Below W0.heap.size W0 W0 := Below.refl _ _
  have HBR : Hid (Below W0.heap.size W0 (w.alloc (Obj.cells #[.int .i64 k, .int .u64 n, .string s, .slice a l.length c, .int .i64 e] 25))) := by rw [hW0]; exact Below.refl _ _
  rw [V.val_of]
  clear hW0 ok hx hT HL xx
  generalize extraT k n s l.length e = bE at *
  generalize numT k n = bN at *
  generalize textT k s = bX at *
  generalize mapT (V.ts l) = bM at *
  generalize arrT e (V.ts l) = bA at *
  by_cases hk1 : k < 0
  · go_enter Tryz.func38, Tryz.ntmps38
    go_wp2_with (first
      | (go_at_call 61; refine (HE.out _ HBR.out).mono ?_; rintro e1 w1 ⟨rfl, hb1⟩; obtain ⟨⟨c10, c11, c12, c13, c14⟩, cz1⟩ := HC.out w1 hb1)
      | (go_at_call 62; refine (HN.out _ hb1).mono ?_; clear c10 c11 c12 c13 c14 cz1; rintro e2 w2 ⟨rfl, hb2⟩; obtain ⟨⟨c20, c21, c22, c23, c24⟩, cz2⟩ := HC.out w2 hb2)
      | (go_at_call 63; refine (HX.out _ hb2).mono ?_; clear c20 c21 c22 c23 c24 cz2; rintro e3 w3 ⟨rfl, hb3⟩; obtain ⟨⟨c30, c31, c32, c33, c34⟩, cz3⟩ := HC.out w3 hb3)
      | (go_at_call 64; refine (HM.out _ hb3).mono ?_; clear c30 c31 c32 c33 c34 cz3; rintro e4 w4 ⟨rfl, hb4⟩; obtain ⟨⟨c40, c41, c42, c43, c44⟩, cz4⟩ := HC.out w4 hb4)
      | (go_at_call 65; refine (HA.out _ hb3).mono ?_; clear c30 c31 c32 c33 c34 cz3; rintro e5 w5 ⟨rfl, hb5⟩; obtain ⟨⟨c50, c51, c52, c53, c54⟩, cz5⟩ := HC.out w5 hb5))
    go_ret
    exact ⟨by rw [show faultB _ _ _ _ _ _ _ _ = (20 : Int) by unfold faultB; rw [if_pos (by omega)]]; rfl, belOn hb0 (by omega) HBR.out⟩
  by_cases hk2 : 24 < k
  · go_enter Tryz.func38, Tryz.ntmps38
    go_wp2_with (first
      | (go_at_call 61; refine (HE.out _ HBR.out).mono ?_; rintro e1 w1 ⟨rfl, hb1⟩; obtain ⟨⟨c10, c11, c12, c13, c14⟩, cz1⟩ := HC.out w1 hb1)
      | (go_at_call 62; refine (HN.out _ hb1).mono ?_; clear c10 c11 c12 c13 c14 cz1; rintro e2 w2 ⟨rfl, hb2⟩; obtain ⟨⟨c20, c21, c22, c23, c24⟩, cz2⟩ := HC.out w2 hb2)
      | (go_at_call 63; refine (HX.out _ hb2).mono ?_; clear c20 c21 c22 c23 c24 cz2; rintro e3 w3 ⟨rfl, hb3⟩; obtain ⟨⟨c30, c31, c32, c33, c34⟩, cz3⟩ := HC.out w3 hb3)
      | (go_at_call 64; refine (HM.out _ hb3).mono ?_; clear c30 c31 c32 c33 c34 cz3; rintro e4 w4 ⟨rfl, hb4⟩; obtain ⟨⟨c40, c41, c42, c43, c44⟩, cz4⟩ := HC.out w4 hb4)
      | (go_at_call 65; refine (HA.out _ hb3).mono ?_; clear c30 c31 c32 c33 c34 cz3; rintro e5 w5 ⟨rfl, hb5⟩; obtain ⟨⟨c50, c51, c52, c53, c54⟩, cz5⟩ := HC.out w5 hb5))
    go_ret
    exact ⟨by rw [show faultB _ _ _ _ _ _ _ _ = (20 : Int) by unfold faultB; rw [if_pos (by omega)]]; rfl, belOn hb0 (by omega) HBR.out⟩
  by_cases hd : 32 < d
  · go_enter Tryz.func38, Tryz.ntmps38
    go_wp2_with (first
      | (go_at_call 61; refine (HE.out _ HBR.out).mono ?_; rintro e1 w1 ⟨rfl, hb1⟩; obtain ⟨⟨c10, c11, c12, c13, c14⟩, cz1⟩ := HC.out w1 hb1)
      | (go_at_call 62; refine (HN.out _ hb1).mono ?_; clear c10 c11 c12 c13 c14 cz1; rintro e2 w2 ⟨rfl, hb2⟩; obtain ⟨⟨c20, c21, c22, c23, c24⟩, cz2⟩ := HC.out w2 hb2)
      | (go_at_call 63; refine (HX.out _ hb2).mono ?_; clear c20 c21 c22 c23 c24 cz2; rintro e3 w3 ⟨rfl, hb3⟩; obtain ⟨⟨c30, c31, c32, c33, c34⟩, cz3⟩ := HC.out w3 hb3)
      | (go_at_call 64; refine (HM.out _ hb3).mono ?_; clear c30 c31 c32 c33 c34 cz3; rintro e4 w4 ⟨rfl, hb4⟩; obtain ⟨⟨c40, c41, c42, c43, c44⟩, cz4⟩ := HC.out w4 hb4)
      | (go_at_call 65; refine (HA.out _ hb3).mono ?_; clear c30 c31 c32 c33 c34 cz3; rintro e5 w5 ⟨rfl, hb5⟩; obtain ⟨⟨c50, c51, c52, c53, c54⟩, cz5⟩ := HC.out w5 hb5))
    go_ret
    exact ⟨by rw [show faultB _ _ _ _ _ _ _ _ = (26 : Int) by unfold faultB; rw [if_neg (by omega), if_pos (by omega)]]; rfl, belOn hb0 (by omega) HBR.out⟩
  cases bE
  rotate_left
  · go_enter Tryz.func38, Tryz.ntmps38
    go_wp2_with (first
      | (go_at_call 61; refine (HE.out _ HBR.out).mono ?_; rintro e1 w1 ⟨rfl, hb1⟩; obtain ⟨⟨c10, c11, c12, c13, c14⟩, cz1⟩ := HC.out w1 hb1)
      | (go_at_call 62; refine (HN.out _ hb1).mono ?_; clear c10 c11 c12 c13 c14 cz1; rintro e2 w2 ⟨rfl, hb2⟩; obtain ⟨⟨c20, c21, c22, c23, c24⟩, cz2⟩ := HC.out w2 hb2)
      | (go_at_call 63; refine (HX.out _ hb2).mono ?_; clear c20 c21 c22 c23 c24 cz2; rintro e3 w3 ⟨rfl, hb3⟩; obtain ⟨⟨c30, c31, c32, c33, c34⟩, cz3⟩ := HC.out w3 hb3)
      | (go_at_call 64; refine (HM.out _ hb3).mono ?_; clear c30 c31 c32 c33 c34 cz3; rintro e4 w4 ⟨rfl, hb4⟩; obtain ⟨⟨c40, c41, c42, c43, c44⟩, cz4⟩ := HC.out w4 hb4)
      | (go_at_call 65; refine (HA.out _ hb3).mono ?_; clear c30 c31 c32 c33 c34 cz3; rintro e5 w5 ⟨rfl, hb5⟩; obtain ⟨⟨c50, c51, c52, c53, c54⟩, cz5⟩ := HC.out w5 hb5))
    go_ret
    exact ⟨by rw [show faultB _ _ _ _ _ _ _ _ = (25 : Int) by unfold faultB; rw [if_neg (by omega), if_neg (by omega), if_pos rfl]]; rfl, belOn hb0 (by omega) hb1⟩
  cases bN
  · go_enter Tryz.func38, Tryz.ntmps38
    go_wp2_with (first
      | (go_at_call 61; refine (HE.out _ HBR.out).mono ?_; rintro e1 w1 ⟨rfl, hb1⟩; obtain ⟨⟨c10, c11, c12, c13, c14⟩, cz1⟩ := HC.out w1 hb1)
      | (go_at_call 62; refine (HN.out _ hb1).mono ?_; clear c10 c11 c12 c13 c14 cz1; rintro e2 w2 ⟨rfl, hb2⟩; obtain ⟨⟨c20, c21, c22, c23, c24⟩, cz2⟩ := HC.out w2 hb2)
      | (go_at_call 63; refine (HX.out _ hb2).mono ?_; clear c20 c21 c22 c23 c24 cz2; rintro e3 w3 ⟨rfl, hb3⟩; obtain ⟨⟨c30, c31, c32, c33, c34⟩, cz3⟩ := HC.out w3 hb3)
      | (go_at_call 64; refine (HM.out _ hb3).mono ?_; clear c30 c31 c32 c33 c34 cz3; rintro e4 w4 ⟨rfl, hb4⟩; obtain ⟨⟨c40, c41, c42, c43, c44⟩, cz4⟩ := HC.out w4 hb4)
      | (go_at_call 65; refine (HA.out _ hb3).mono ?_; clear c30 c31 c32 c33 c34 cz3; rintro e5 w5 ⟨rfl, hb5⟩; obtain ⟨⟨c50, c51, c52, c53, c54⟩, cz5⟩ := HC.out w5 hb5))
    go_ret
    exact ⟨by rw [show faultB _ _ _ _ _ _ _ _ = (21 : Int) by unfold faultB; rw [if_neg (by omega), if_neg (by omega), if_neg (by simp), if_pos rfl]]; rfl, belOn hb0 (by omega) hb2⟩
  cases bX
  · go_enter Tryz.func38, Tryz.ntmps38
    go_wp2_with (first
      | (go_at_call 61; refine (HE.out _ HBR.out).mono ?_; rintro e1 w1 ⟨rfl, hb1⟩; obtain ⟨⟨c10, c11, c12, c13, c14⟩, cz1⟩ := HC.out w1 hb1)
      | (go_at_call 62; refine (HN.out _ hb1).mono ?_; clear c10 c11 c12 c13 c14 cz1; rintro e2 w2 ⟨rfl, hb2⟩; obtain ⟨⟨c20, c21, c22, c23, c24⟩, cz2⟩ := HC.out w2 hb2)
      | (go_at_call 63; refine (HX.out _ hb2).mono ?_; clear c20 c21 c22 c23 c24 cz2; rintro e3 w3 ⟨rfl, hb3⟩; obtain ⟨⟨c30, c31, c32, c33, c34⟩, cz3⟩ := HC.out w3 hb3)
      | (go_at_call 64; refine (HM.out _ hb3).mono ?_; clear c30 c31 c32 c33 c34 cz3; rintro e4 w4 ⟨rfl, hb4⟩; obtain ⟨⟨c40, c41, c42, c43, c44⟩, cz4⟩ := HC.out w4 hb4)
      | (go_at_call 65; refine (HA.out _ hb3).mono ?_; clear c30 c31 c32 c33 c34 cz3; rintro e5 w5 ⟨rfl, hb5⟩; obtain ⟨⟨c50, c51, c52, c53, c54⟩, cz5⟩ := HC.out w5 hb5))
    go_ret
    exact ⟨by rw [show faultB _ _ _ _ _ _ _ _ = (22 : Int) by unfold faultB; rw [if_neg (by omega), if_neg (by omega), if_neg (by simp), if_neg (by simp), if_pos rfl]]; rfl, belOn hb0 (by omega) hb3⟩
  by_cases h22 : k = 22
  · subst h22
    cases bM
    · go_enter Tryz.func38, Tryz.ntmps38
      go_wp2_with (first
        | (go_at_call 61; refine (HE.out _ HBR.out).mono ?_; rintro e1 w1 ⟨rfl, hb1⟩; obtain ⟨⟨c10, c11, c12, c13, c14⟩, cz1⟩ := HC.out w1 hb1)
        | (go_at_call 62; refine (HN.out _ hb1).mono ?_; clear c10 c11 c12 c13 c14 cz1; rintro e2 w2 ⟨rfl, hb2⟩; obtain ⟨⟨c20, c21, c22, c23, c24⟩, cz2⟩ := HC.out w2 hb2)
        | (go_at_call 63; refine (HX.out _ hb2).mono ?_; clear c20 c21 c22 c23 c24 cz2; rintro e3 w3 ⟨rfl, hb3⟩; obtain ⟨⟨c30, c31, c32, c33, c34⟩, cz3⟩ := HC.out w3 hb3)
        | (go_at_call 64; refine (HM.out _ hb3).mono ?_; clear c30 c31 c32 c33 c34 cz3; rintro e4 w4 ⟨rfl, hb4⟩; obtain ⟨⟨c40, c41, c42, c43, c44⟩, cz4⟩ := HC.out w4 hb4)
        | (go_at_call 65; refine (HA.out _ hb3).mono ?_; clear c30 c31 c32 c33 c34 cz3; rintro e5 w5 ⟨rfl, hb5⟩; obtain ⟨⟨c50, c51, c52, c53, c54⟩, cz5⟩ := HC.out w5 hb5))
      go_ret
      exact ⟨by rw [show faultB _ _ _ _ _ _ _ _ = (23 : Int) by unfold faultB; rw [if_neg (by omega), if_neg (by omega), if_neg (by simp), if_neg (by simp), if_neg (by simp), if_pos ⟨rfl, rfl⟩]]; rfl, belOn hb0 (by omega) hb4⟩
    · go_enter Tryz.func38, Tryz.ntmps38
      go_wp2_with (first
        | (go_at_call 61; refine (HE.out _ HBR.out).mono ?_; rintro e1 w1 ⟨rfl, hb1⟩; obtain ⟨⟨c10, c11, c12, c13, c14⟩, cz1⟩ := HC.out w1 hb1)
        | (go_at_call 62; refine (HN.out _ hb1).mono ?_; clear c10 c11 c12 c13 c14 cz1; rintro e2 w2 ⟨rfl, hb2⟩; obtain ⟨⟨c20, c21, c22, c23, c24⟩, cz2⟩ := HC.out w2 hb2)
        | (go_at_call 63; refine (HX.out _ hb2).mono ?_; clear c20 c21 c22 c23 c24 cz2; rintro e3 w3 ⟨rfl, hb3⟩; obtain ⟨⟨c30, c31, c32, c33, c34⟩, cz3⟩ := HC.out w3 hb3)
        | (go_at_call 64; refine (HM.out _ hb3).mono ?_; clear c30 c31 c32 c33 c34 cz3; rintro e4 w4 ⟨rfl, hb4⟩; obtain ⟨⟨c40, c41, c42, c43, c44⟩, cz4⟩ := HC.out w4 hb4)
        | (go_at_call 65; refine (HA.out _ hb3).mono ?_; clear c30 c31 c32 c33 c34 cz3; rintro e5 w5 ⟨rfl, hb5⟩; obtain ⟨⟨c50, c51, c52, c53, c54⟩, cz5⟩ := HC.out w5 hb5))
      go_ret
      exact ⟨by rw [show faultB _ _ _ _ _ _ _ _ = (0 : Int) by unfold faultB; rw [if_neg (by omega), if_neg (by omega), if_neg (by simp), if_neg (by simp), if_neg (by simp), if_neg (by simp), if_neg (by simp), if_neg (by simp)]]; rfl, belOn hb0 (by omega) hb4⟩
  by_cases h23 : k = 23
  · subst h23
    cases bA
    · go_enter Tryz.func38, Tryz.ntmps38
      go_wp2_with (first
        | (go_at_call 61; refine (HE.out _ HBR.out).mono ?_; rintro e1 w1 ⟨rfl, hb1⟩; obtain ⟨⟨c10, c11, c12, c13, c14⟩, cz1⟩ := HC.out w1 hb1)
        | (go_at_call 62; refine (HN.out _ hb1).mono ?_; clear c10 c11 c12 c13 c14 cz1; rintro e2 w2 ⟨rfl, hb2⟩; obtain ⟨⟨c20, c21, c22, c23, c24⟩, cz2⟩ := HC.out w2 hb2)
        | (go_at_call 63; refine (HX.out _ hb2).mono ?_; clear c20 c21 c22 c23 c24 cz2; rintro e3 w3 ⟨rfl, hb3⟩; obtain ⟨⟨c30, c31, c32, c33, c34⟩, cz3⟩ := HC.out w3 hb3)
        | (go_at_call 64; refine (HM.out _ hb3).mono ?_; clear c30 c31 c32 c33 c34 cz3; rintro e4 w4 ⟨rfl, hb4⟩; obtain ⟨⟨c40, c41, c42, c43, c44⟩, cz4⟩ := HC.out w4 hb4)
        | (go_at_call 65; refine (HA.out _ hb3).mono ?_; clear c30 c31 c32 c33 c34 cz3; rintro e5 w5 ⟨rfl, hb5⟩; obtain ⟨⟨c50, c51, c52, c53, c54⟩, cz5⟩ := HC.out w5 hb5))
      go_ret
      exact ⟨by rw [show faultB _ _ _ _ _ _ _ _ = (24 : Int) by unfold faultB; rw [if_neg (by omega), if_neg (by omega), if_neg (by simp), if_neg (by simp), if_neg (by simp), if_neg (by simp), if_pos ⟨rfl, rfl⟩]]; rfl, belOn hb0 (by omega) hb5⟩
    · go_enter Tryz.func38, Tryz.ntmps38
      go_wp2_with (first
        | (go_at_call 61; refine (HE.out _ HBR.out).mono ?_; rintro e1 w1 ⟨rfl, hb1⟩; obtain ⟨⟨c10, c11, c12, c13, c14⟩, cz1⟩ := HC.out w1 hb1)
        | (go_at_call 62; refine (HN.out _ hb1).mono ?_; clear c10 c11 c12 c13 c14 cz1; rintro e2 w2 ⟨rfl, hb2⟩; obtain ⟨⟨c20, c21, c22, c23, c24⟩, cz2⟩ := HC.out w2 hb2)
        | (go_at_call 63; refine (HX.out _ hb2).mono ?_; clear c20 c21 c22 c23 c24 cz2; rintro e3 w3 ⟨rfl, hb3⟩; obtain ⟨⟨c30, c31, c32, c33, c34⟩, cz3⟩ := HC.out w3 hb3)
        | (go_at_call 64; refine (HM.out _ hb3).mono ?_; clear c30 c31 c32 c33 c34 cz3; rintro e4 w4 ⟨rfl, hb4⟩; obtain ⟨⟨c40, c41, c42, c43, c44⟩, cz4⟩ := HC.out w4 hb4)
        | (go_at_call 65; refine (HA.out _ hb3).mono ?_; clear c30 c31 c32 c33 c34 cz3; rintro e5 w5 ⟨rfl, hb5⟩; obtain ⟨⟨c50, c51, c52, c53, c54⟩, cz5⟩ := HC.out w5 hb5))
      go_ret
      exact ⟨by rw [show faultB _ _ _ _ _ _ _ _ = (0 : Int) by unfold faultB; rw [if_neg (by omega), if_neg (by omega), if_neg (by simp), if_neg (by simp), if_neg (by simp), if_neg (by simp), if_neg (by simp), if_neg (by simp)]]; rfl, belOn hb0 (by omega) hb5⟩
  by_cases h24 : k = 24
  · subst h24
    by_cases hl2 : l.length = 2
    · have hl2' : ((l.length : Int) == 2) = true := by simp; omega
      have HL2 := hide hl2
      clear hl2
      go_enter Tryz.func38, Tryz.ntmps38
      go_wp2_with (first
        | (go_at_call 61; refine (HE.out _ HBR.out).mono ?_; rintro e1 w1 ⟨rfl, hb1⟩; obtain ⟨⟨c10, c11, c12, c13, c14⟩, cz1⟩ := HC.out w1 hb1)
        | (go_at_call 62; refine (HN.out _ hb1).mono ?_; clear c10 c11 c12 c13 c14 cz1; rintro e2 w2 ⟨rfl, hb2⟩; obtain ⟨⟨c20, c21, c22, c23, c24⟩, cz2⟩ := HC.out w2 hb2)
        | (go_at_call 63; refine (HX.out _ hb2).mono ?_; clear c20 c21 c22 c23 c24 cz2; rintro e3 w3 ⟨rfl, hb3⟩; obtain ⟨⟨c30, c31, c32, c33, c34⟩, cz3⟩ := HC.out w3 hb3)
        | (go_at_call 64; refine (HM.out _ hb3).mono ?_; clear c30 c31 c32 c33 c34 cz3; rintro e4 w4 ⟨rfl, hb4⟩; obtain ⟨⟨c40, c41, c42, c43, c44⟩, cz4⟩ := HC.out w4 hb4)
        | (go_at_call 65; refine (HA.out _ hb3).mono ?_; clear c30 c31 c32 c33 c34 cz3; rintro e5 w5 ⟨rfl, hb5⟩; obtain ⟨⟨c50, c51, c52, c53, c54⟩, cz5⟩ := HC.out w5 hb5))
      go_ret
      exact ⟨by rw [show faultB _ _ _ _ _ _ _ _ = (0 : Int) by unfold faultB; rw [if_neg (by omega), if_neg (by omega), if_neg (by simp), if_neg (by simp), if_neg (by simp), if_neg (by simp), if_neg (by simp), if_neg (fun h => h.2 HL2.out)]]; rfl, belOn hb0 (by omega) hb3⟩
    · have hl2' : ((l.length : Int) == 2) = false := by simp; omega
      go_enter Tryz.func38, Tryz.ntmps38
      go_wp2_with (first
        | (go_at_call 61; refine (HE.out _ HBR.out).mono ?_; rintro e1 w1 ⟨rfl, hb1⟩; obtain ⟨⟨c10, c11, c12, c13, c14⟩, cz1⟩ := HC.out w1 hb1)
        | (go_at_call 62; refine (HN.out _ hb1).mono ?_; clear c10 c11 c12 c13 c14 cz1; rintro e2 w2 ⟨rfl, hb2⟩; obtain ⟨⟨c20, c21, c22, c23, c24⟩, cz2⟩ := HC.out w2 hb2)
        | (go_at_call 63; refine (HX.out _ hb2).mono ?_; clear c20 c21 c22 c23 c24 cz2; rintro e3 w3 ⟨rfl, hb3⟩; obtain ⟨⟨c30, c31, c32, c33, c34⟩, cz3⟩ := HC.out w3 hb3)
        | (go_at_call 64; refine (HM.out _ hb3).mono ?_; clear c30 c31 c32 c33 c34 cz3; rintro e4 w4 ⟨rfl, hb4⟩; obtain ⟨⟨c40, c41, c42, c43, c44⟩, cz4⟩ := HC.out w4 hb4)
        | (go_at_call 65; refine (HA.out _ hb3).mono ?_; clear c30 c31 c32 c33 c34 cz3; rintro e5 w5 ⟨rfl, hb5⟩; obtain ⟨⟨c50, c51, c52, c53, c54⟩, cz5⟩ := HC.out w5 hb5))
      go_ret
      exact ⟨by rw [show faultB _ _ _ _ _ _ _ _ = (27 : Int) by unfold faultB; rw [if_neg (by omega), if_neg (by omega), if_neg (by simp), if_neg (by simp), if_neg (by simp), if_neg (by simp), if_neg (by simp), if_pos ⟨rfl, hl2⟩]]; rfl, belOn hb0 (by omega) hb3⟩
  go_enter Tryz.func38, Tryz.ntmps38
  go_wp2_with (first
    | (go_at_call 61; refine (HE.out _ HBR.out).mono ?_; rintro e1 w1 ⟨rfl, hb1⟩; obtain ⟨⟨c10, c11, c12, c13, c14⟩, cz1⟩ := HC.out w1 hb1)
    | (go_at_call 62; refine (HN.out _ hb1).mono ?_; clear c10 c11 c12 c13 c14 cz1; rintro e2 w2 ⟨rfl, hb2⟩; obtain ⟨⟨c20, c21, c22, c23, c24⟩, cz2⟩ := HC.out w2 hb2)
    | (go_at_call 63; refine (HX.out _ hb2).mono ?_; clear c20 c21 c22 c23 c24 cz2; rintro e3 w3 ⟨rfl, hb3⟩; obtain ⟨⟨c30, c31, c32, c33, c34⟩, cz3⟩ := HC.out w3 hb3)
    | (go_at_call 64; refine (HM.out _ hb3).mono ?_; clear c30 c31 c32 c33 c34 cz3; rintro e4 w4 ⟨rfl, hb4⟩; obtain ⟨⟨c40, c41, c42, c43, c44⟩, cz4⟩ := HC.out w4 hb4)
    | (go_at_call 65; refine (HA.out _ hb3).mono ?_; clear c30 c31 c32 c33 c34 cz3; rintro e5 w5 ⟨rfl, hb5⟩; obtain ⟨⟨c50, c51, c52, c53, c54⟩, cz5⟩ := HC.out w5 hb5))
  go_ret
  exact ⟨by rw [show faultB _ _ _ _ _ _ _ _ = (0 : Int) by unfold faultB; rw [if_neg (by omega), if_neg (by omega), if_neg (by simp), if_neg (by simp), if_neg (by simp), if_neg (fun h => h22 h.1), if_neg (fun h => h23 h.1), if_neg (fun h => h24 h.1)]]; rfl, belOn hb0 (by omega) hb3⟩
open Go.RowKit Go.Shelf
attribute [local go_sem] Oper.semAt_some
def FaultAtT (x : Int × V) (r : Int) : Prop := ∀ (n₀ : Nat) (w : World), n₀ ≤ w.heap.size → Lies n₀ w x.2 → Lib.Utf8Tabs 1 2 w →
  Calls Tryz.prog 38 #[x.2.val, .int .i64 x.1] w fun e w' => e = .returned (.int .i64 r) ∧ Below w.heap.size w w'
set_option maxRecDepth 100000 in
set_option maxHeartbeats 2000000 in
theorem check_genT (v : V) (n₀ : Nat) (w : World) (hn : n₀ ≤ w.heap.size) (hl : Lies n₀ w v) (hT : Lib.Utf8Tabs 1 2 w) (z : Int × V → Int) (hz : ∀ x ∈ v.all 1, FaultAtT x (z x)) :
    Calls Tryz.prog 23 #[v.val] w fun e w' => e = .returned (.int .i64 (firstE z (v.all 1))) ∧ Below w.heap.size w w' := by
  have HT := hide hT
  clear hT
  refine (callsIn_wide (n := 3)).1 ?_
  have hdd : ∀ k : Nat, (Fence.wide.depth.isSome = true → 1 ≤ k) := fun k h => by cases h
  rw [V.val_eq]
  refine callsIn_of_wp_marks Tryz.func23 rfl trivial ?_ rfl
  simp only [Tryz.ntmps23, List.size_toArray, List.length_cons, List.length_nil, Nat.reduceAdd, Nat.reduceSub, Array.replicate_succ, Array.replicate_zero, List.push_toArray, List.append_toArray, List.nil_append, List.cons_append]
  gi_wp2_with ((first | refine ⟨trivial, hdd _, ?_⟩ | refine ⟨trivial, ?_⟩); gi_at_call 37; refine (callsIn_wide.2 (walk_any v _)).mono ?_; rintro e w' ⟨rfl, rfl⟩)
  obtain ⟨W0, hW0⟩ : ∃ W0, ((w.alloc (Obj.cells #[.int .i64 v.k, .int .u64 v.n, .string v.s, .slice v.a v.l.length v.c, .int .i64 v.e] 25)).alloc (Obj.cells #[.int .i64 0] 29)).alloc (Obj.cells #[.int .i64 v.k, .int .u64 v.n, .string v.s, .slice v.a v.l.length v.c, .int .i64 v.e] 25) = W0 := ⟨_, rfl⟩
  have hs0 : W0.heap.size = w.heap.size + 3 := by rw [← hW0]; simp
  have hb0 : Below w.heap.size w W0 := by rw [← hW0]; exact bel1 (bel2 (Below.refl _ _) (Nat.le_refl _) _ _) (by simp; omega) _
  have hB0 : BoxV W0 (w.heap.size + 2) v := by
    rw [← hW0]
    have := BoxV.new ((w.alloc (Obj.cells #[.int .i64 v.k, .int .u64 v.n, .string v.s, .slice v.a v.l.length v.c, .int .i64 v.e] 25)).alloc (Obj.cells #[.int .i64 0] 29)) v
    simpa using this
  have hD0 : Boxed W0 (w.heap.size + 1) 29 (.int .i64 0) := by
    rw [← hW0]
    exact heap_past (heap_at1 _ _ _) _
  rw [hW0]
  clear hW0
  have hl0 : LiesIn (fun b => b < n₀) W0 v := hl.keep hb0 hn
  have hst := walk_seq (fun b => b = w.heap.size + 1) (fun b => b = w.heap.size + 1) (fun b => b < n₀) (fun y => FaultAtT y (z y) ∧ Lies n₀ w y.2) (fun b h1 h2 => by omega) v (fun y hy => ⟨hz y hy, all_lies 1 v hl y hy⟩) (w.heap.size + 2) W0 hB0 hl0 (fun b h => by omega) (fun b h => by omega)
  clear hz
  refine range_own (gf := 59) (lb := #[.pointer (some ⟨w.heap.size + 2, 0, none⟩)]) rfl (enters_of Tryz.func59 (by kernel_rfl) rfl) hst (fun b h => by omega) (fun _ h => h) (fun b h => by omega) (fun _ => rfl)
    (fun pre W => ((∀ y ∈ pre, z y = 0) ∧ Boxed W (w.heap.size + 1) 29 (.int .i64 0)) ∧ Below w.heap.size w W)
    (fun c pre W => ((c = .ret ∧ ∃ p x, pre = p ++ [x] ∧ (∀ y ∈ p, z y = 0) ∧ z x ≠ 0) ∧ Boxed W (w.heap.size + 1) 29 (.int .i64 (firstE z pre))) ∧ Below w.heap.size w W)
    (OwnFrom.and (OwnFrom.and (ownFrom_pure _ _) (Own.from (boxed_own _ _ _) _)) (ownFrom_below (Nat.le_refl _) (by omega)))
    (fun c => OwnFrom.and (OwnFrom.and (ownFrom_pure _ _) (Own.from (boxed_own _ _ _) _)) (ownFrom_below (Nat.le_refl _) (by omega))) ⟨⟨by simp, hD0⟩, hb0⟩
    (fun x a' W => (FaultAtT x (z x) ∧ Lies n₀ w x.2) ∧ ∃ Bx, BoxV W Bx x.2 ∧ a' = { tmps := #[.agg #[.int .i64 v.k, .int .u64 v.n, .string v.s, .slice v.a v.l.length v.c, .int .i64 v.e], .pointer (some ⟨w.heap.size, 0, none⟩), .pointer (some ⟨w.heap.size + 1, 0, none⟩), .int .i64 x.1, .pointer (some ⟨Bx, 0, none⟩), undef, .agg #[.int .i64 v.k, .int .u64 v.n, .string v.s, .slice v.a v.l.length v.c, .int .i64 v.e], .func (.func 59) #[] #[.pointer (some ⟨w.heap.size + 2, 0, none⟩)], .int .i64 x.1, .agg #[.int .i64 x.2.k, .int .u64 x.2.n, .string x.2.s, .slice x.2.a x.2.l.length x.2.c, .int .i64 x.2.e], undef, undef, undef, undef, undef, undef], defers := [] })
    ?hAx ?assign ?body ?done ?stop
  case hAx =>
    intro x a' _ A B row hs hg hr
    obtain ⟨h1, Bx, h2, h3⟩ := hs
    refine ⟨h1, Bx, ?_, h3⟩
    exact (hg.block Bx h2.lt (fun e => by
      obtain ⟨_, o, ho, hc⟩ := hr Bx e.symm
      rw [show A.heap[Bx]? = _ from h2] at ho
      cases ho
      cases hc)).trans h2
  case assign =>
    rintro l pre x W K hR ⟨⟨hp, hv⟩, hB⟩ hK
    simp only [encV, V.val_eq]
    have hsz := hB.size
    gi_wp2
    exact hK _ _ ((KpX.refl _ W).alloc _) ⟨⟨hp, hv.alloc _⟩, bel1 hB hsz _⟩ ⟨hR, W.heap.size, BoxV.new W x.2, rfl⟩
  case body =>
    rintro l pre x a' W hl' ⟨r, hr⟩ ⟨⟨hp, hv⟩, hB⟩ ⟨hR, Bx, bX, rfl⟩ hlt
    have hsz := hB.size
    obtain ⟨c0, c1, c2, c3, c4⟩ := bX.cells
    have hc := hv.cell
    have hf := hv.frozen
    have hx := hR.1 n₀ W (by omega) (hR.2.keep hB hn) (tabs_below HT.out hB)
    rw [V.val_eq] at hx
    have HX := hide hx
    clear hx
    gi_wp2_with ((first | refine ⟨trivial, hdd _, ?_⟩ | refine ⟨trivial, ?_⟩); gi_at_call 38; refine (CallsIn.inRound l (callsIn_wide.2 HX.out)).mono ?_; rintro e w1 ⟨rfl, hb1⟩; have hv1 : Boxed w1 (w.heap.size + 1) 29 (.int .i64 0) := (hb1.block _ hv.lt).trans hv; have hc1 := hv1.cell; have hf1 := hv1.frozen)
    · have hne : z x ≠ 0 := by rename_i h; simpa using h
      have hB1 := belOn hB hsz hb1
      refine ⟨KpX.setCell (X := fun b => b = w.heap.size + 1) (KpX.of_below hb1) rfl _ _, ⟨⟨⟨rfl, pre, x, rfl, hp, hne⟩, ?_⟩, hB1.setCell (p := ⟨w.heap.size + 1, 0, none⟩) (by show w.heap.size ≤ w.heap.size + 1; omega) _⟩⟩
      rw [firstE_at z _ _ _ hp hne]
      exact hv1.set _
    · have he : z x = 0 := by rename_i h; simpa using h
      exact ⟨KpX.of_below hb1, ⟨⟨fun y hy => (List.mem_append.1 hy).elim (hp y) (fun h => by simp at h; subst h; exact he), hv1⟩, belOn hB hsz hb1⟩⟩
  case done =>
    rintro D ys W hD hys ⟨⟨hp, hv⟩, hB⟩ hK
    have hc := hv.cell
    have hf := hv.frozen
    gi_wp2
    have hK' := (KeepsOthers.setCell W ⟨w.heap.size + 1, 0, none⟩ (.int .i64 0)).same D _ hK rfl
    refine ⟨by simp, .inl ⟨_, _, rfl, run_takeDeferred hK', ?_⟩⟩
    have hc5 := cell_kept (hv.set (.int .i64 0)).cell (grownBy_putObj' _ D (.deferred none)) (fun r e => by cases e; exact ⟨_, hK', rfl⟩)
    refine ⟨.int .i64 0, ?_, by rw [← hys, firstE_none _ _ hp], (hB.setCell (p := ⟨w.heap.size + 1, 0, none⟩) (by simp) _).trans (belowK_b (w := w) (Nat.le_refl _) _ D _ _ (by omega) hK' rfl rfl)⟩
    simp [results, Tryz.f23, go_sem, hc5]
  case stop =>
    rintro D c pre W hD hpre ⟨⟨⟨rfl, p, x, rfl, h1, h2⟩, hv⟩, hB⟩ hK
    gi_wp2
    refine ⟨by simp, .inl ⟨_, _, rfl, run_takeDeferred hK, ?_⟩⟩
    have hc5 := cell_kept hv.cell (grownBy_putObj' _ D (.deferred none)) (fun r e => by cases e; exact ⟨_, hK, rfl⟩)
    obtain ⟨r, hr⟩ := hpre
    have he : firstE z (v.all 1) = firstE z (p ++ [x]) := by
      rw [← hr, List.append_assoc, List.singleton_append, firstE_at z _ _ _ h1 h2, firstE_at z _ _ _ h1 h2]
    refine ⟨.int .i64 (firstE z (p ++ [x])), ?_, by rw [he], hB.trans (belowK_b (w := w) (Nat.le_refl _) W D _ _ (by omega) hK rfl rfl)⟩
    simp only [results, Tryz.f23, go_sem]
    simp [hc5]
def checkZ (p : Int × V) : Int := faultT p.1 p.2.t
theorem check_any (v : V) (n₀ : Nat) (w : World) (hn : n₀ ≤ w.heap.size) (hl : Lies n₀ w v) (hT : Lib.Utf8Tabs 1 2 w) :
    Calls Tryz.prog 23 #[v.val] w fun e w' => e = .returned (.int .i64 (firstE checkZ (v.all 1))) ∧ Below w.heap.size w w' :=
  check_genT v n₀ w hn hl hT checkZ (fun x _ n₁ w1 h1 h2 h3 => fault_any x.2 x.1 n₁ w1 h1 h2 h3)
def ascZ (s : ByteArray) : Int := match s.data.toList.findIdx? (fun b => decide (128 ≤ b.toNat)) with
  | some i => (i : Int)
  | none => -1
theorem get_data (s : ByteArray) (j : Nat) (h : j < s.size) (h' : j < s.data.toList.length) : s[j] = s.data.toList[j] := by
  rw [Array.getElem_toList]
  rfl
theorem ascZ_asc (s : ByteArray) : Asc s (ascZ s) := by
  have hlen : s.data.toList.length = s.size := by rw [Array.length_toList]; rfl
  unfold ascZ
  cases hf : s.data.toList.findIdx? (fun b => decide (128 ≤ b.toNat)) with
  | none =>
    refine .inl ⟨rfl, fun j hj => ?_⟩
    rw [List.findIdx?_eq_none_iff] at hf
    have := hf (s.data.toList[j]'(by omega)) (List.getElem_mem _)
    rw [get_data s j hj (by omega)]
    simp at this
    exact this
  | some i =>
    rw [List.findIdx?_eq_some_iff_getElem] at hf
    obtain ⟨hi, h1, h2⟩ := hf
    refine .inr ⟨i, by omega, rfl, ?_, fun j hj => ?_⟩
    · rw [get_data s i (by omega) hi]
      simpa using h1
    · rw [get_data s j (by omega) (by omega)]
      have := h2 j hj
      simp at this
      exact this
def badB (k : Nat) (s : ByteArray) : Int := if k = 19 then utfZ s 0 else if k = 20 then ascZ s else -1
def twiceW (L : List T) : Bool := !nodupT (evens L)
theorem e0_of {s : ByteArray} (h : s.toList.isEmpty = true) : s = e0 := by
  rw [ByteArray.toList_eq] at h
  cases s with
  | mk d =>
    have : d.toList = [] := by simpa using h
    have : d = #[] := Array.toList_eq_nil_iff.1 this
    subst this
    rfl
theorem ascB_iff (s : ByteArray) : ascB s = true ↔ ascZ s < 0 := by
  rw [← asc_iff (ascZ_asc s)]
  simp
theorem faultB_zero (k d : Int) (bE bN bX bM bA : Bool) (len : Nat) : faultB k d bE bN bX bM bA len = 0 ↔ (0 ≤ k ∧ k ≤ 24) ∧ d ≤ 32 ∧ bE = false ∧ bN = true ∧ bX = true ∧ (k = 22 → bM = true) ∧ (k = 23 → bA = true) ∧ (k = 24 → len = 2) := by
  unfold faultB
  by_cases h1 : k < 0 ∨ 24 < k
  · rw [if_pos h1]; simp; omega
  rw [if_neg h1]
  by_cases h2 : 32 < d
  · rw [if_pos h2]; simp; omega
  rw [if_neg h2]
  cases bE <;> cases bN <;> cases bX <;> simp
  by_cases h3 : k = 22 ∧ bM = false
  · rw [if_pos h3]; simp [h3]
  rw [if_neg h3]
  by_cases h4 : k = 23 ∧ bA = false
  · rw [if_pos h4]; simp [h4]
  rw [if_neg h4]
  by_cases h5 : k = 24 ∧ ¬ len = 2
  · rw [if_pos h5]; simp [h5]
  rw [if_neg h5]
  simp
  refine ⟨by omega, by omega, fun h => ?_, fun h => ?_, fun h => ?_⟩
  · cases bM <;> simp_all
  · cases bA <;> simp_all
  · omega
theorem own_iff (k n : Int) (s : ByteArray) (e : Int) (l : List T) (d : Int) (h0 : 0 ≤ n) (h1 : n < 18446744073709551616) :
    faultB k d (extraT k n s l.length e) (numT k n) (textT k s) (mapT l) (arrT e l) l.length = 0 ↔ d ≤ 32 ∧ OwnG badB twiceW k n s e l := by
  rw [faultB_zero]
  constructor
  · rintro ⟨⟨k0, k1⟩, hd, hE, hN, hX, hM, hA, hD⟩
    refine ⟨hd, ⟨k0, k1, h0, h1, ?_, ?_, ?_, ?_, ?_, ?_, ?_, ?_, ?_, hD⟩⟩
    · rintro rfl
      simp [extraT] at hE
      exact hE.1
    · intro h
      unfold extraT at hE
      rw [if_neg (by omega), if_pos h] at hE
      simp at hE
      exact ⟨hE.1, by simpa using hE.2.1, hE.2.2⟩
    · intro h
      unfold extraT at hE
      rw [if_neg (by omega), if_neg (by omega), if_pos h] at hE
      simp only [Bool.or_eq_false_iff, decide_eq_false_iff_not, Bool.not_eq_false', ne_eq, Decidable.not_not] at hE
      exact ⟨hE.1, e0_of hE.2.1, hE.2.2⟩
    · rintro rfl
      unfold extraT at hE
      rw [if_neg (by omega), if_neg (by omega), if_neg (by omega), if_pos rfl] at hE
      simp only [Bool.or_eq_false_iff, decide_eq_false_iff_not, Bool.not_eq_false', ne_eq, Decidable.not_not] at hE
      have hA' := hA rfl
      unfold arrT at hA'
      simp only [Bool.and_eq_true, decide_eq_true_eq, List.all_eq_true] at hA'
      exact ⟨hE.1, e0_of hE.2, hA'.1.1, hA'.1.2, hA'.2⟩
    · intro h
      by_cases hk0 : k = 0
      · subst hk0
        simp only [extraT, if_true, Bool.or_eq_false_iff, decide_eq_false_iff_not, Bool.not_eq_false', ne_eq, Decidable.not_not] at hE
        exact ⟨e0_of hE.2.1, List.eq_nil_of_length_eq_zero (by omega), hE.2.2.2⟩
      · unfold extraT at hE
        rw [if_neg hk0, if_neg (by omega), if_neg (by omega), if_neg (by omega)] at hE
        simp only [Bool.or_eq_false_iff, decide_eq_false_iff_not, Bool.not_eq_false', ne_eq, Decidable.not_not] at hE
        exact ⟨e0_of hE.1, List.eq_nil_of_length_eq_zero (by omega), hE.2.2⟩
    · clear hE hX hM hA hD
      refine ⟨?_, ?_, ?_, ?_, ?_, ?_, ?_, ?_⟩
      · rintro rfl; simpa [numT] using hN
      · rintro rfl; simpa [numT] using hN
      · rintro rfl; simpa [numT] using hN
      · rintro (rfl | rfl | rfl) <;> simpa [numT] using hN
      · rintro rfl; simpa [numT] using hN
      · rintro rfl; simpa [numT] using hN
      · rintro rfl; simpa [numT] using hN
      · rintro rfl; simpa [numT] using hN
    · intro h
      unfold textT at hX
      rw [if_pos h] at hX
      simpa using hX
    · rintro (rfl | rfl | rfl)
      · simp [badB]
      · simpa [textT, badB] using hX
      · have : ascB s = true := by simpa [textT] using hX
        simpa [badB] using (ascB_iff s).1 this
    · intro h
      have hM' := hM h
      unfold mapT at hM'
      simp only [Bool.and_eq_true, decide_eq_true_eq] at hM'
      exact ⟨hM'.1, hM'.2.1, by unfold twiceW; rw [hM'.2.2]; rfl⟩
  · rintro ⟨hd, own⟩
    refine ⟨⟨own.k0, own.k1⟩, hd, ?_, ?_, ?_, ?_, ?_, own.desc⟩
    · have k0 := own.k0
      have k1 := own.k1
      have hse : (e0 : ByteArray).toList.isEmpty = true := by rw [ByteArray.toList_eq]; rfl
      unfold extraT
      by_cases hk0 : k = 0
      · obtain ⟨rfl, rfl, rfl⟩ := own.isNum (by omega)
        have hn := own.isNull hk0
        rw [if_pos hk0, hn, hse]; decide
      rw [if_neg hk0]
      by_cases ht : k = 14 ∨ k = 17 ∨ k = 18 ∨ k = 19 ∨ k = 20
      · obtain ⟨rfl, rfl, rfl⟩ := own.isText ht
        rw [if_pos ht]; decide
      rw [if_neg ht]
      by_cases hl : k = 21 ∨ k = 22 ∨ k = 24
      · obtain ⟨rfl, rfl, rfl⟩ := own.isList hl
        rw [if_pos hl, hse]; decide
      rw [if_neg hl]
      by_cases ha : k = 23
      · obtain ⟨hn, hs, _⟩ := own.isArr ha
        rw [if_pos ha, hn, hs, hse]; decide
      · obtain ⟨rfl, rfl, rfl⟩ := own.isNum (by omega)
        rw [if_neg ha, hse]; decide
    · have num := own.num
      unfold numT
      split
      · simpa using num.1 (by assumption)
      split
      · simpa using num.2.1 (by assumption)
      split
      · simpa using num.2.2.1 (by assumption)
      split
      · simpa using num.2.2.2.1 (by assumption)
      split
      · simpa using num.2.2.2.2.1 (by assumption)
      split
      · simpa using num.2.2.2.2.2.1 (by assumption)
      split
      · simpa using num.2.2.2.2.2.2.1 (by assumption)
      split
      · simpa using num.2.2.2.2.2.2.2 (by assumption)
      · rfl
    · unfold textT
      split
      · simpa using own.six (by assumption)
      split
      · rename_i h
        have := own.utf (by omega)
        subst h
        simpa [badB] using this
      split
      · rename_i h
        have := own.utf (by omega)
        subst h
        rw [ascB_iff]
        simpa [badB] using this
      · rfl
    · intro h
      obtain ⟨m1, m2, m3⟩ := own.map h
      unfold mapT
      unfold twiceW at m3
      simp only [Bool.not_eq_false'] at m3
      simp [m1, m2, m3]
    · intro h
      obtain ⟨_, _, a1, a2, a3⟩ := own.isArr h
      unfold arrT
      simp only [Bool.and_eq_true, decide_eq_true_eq, List.all_eq_true]
      exact ⟨⟨a1, a2⟩, a3⟩
theorem firstE_zero (z : Int × V → Int) (l : List (Int × V)) : firstE z l = 0 ↔ ∀ y ∈ l, z y = 0 := by
  constructor
  · intro h
    induction l with
    | nil => simp
    | cons x l ih =>
      rw [firstE] at h
      by_cases hx : z x = 0
      · rw [if_neg (by simp [hx])] at h
        intro y hy
        rcases List.mem_cons.1 hy with rfl | hy
        · exact hx
        · exact ih h y hy
      · rw [if_pos hx] at h
        exact absurd h hx
  · exact firstE_none z l
theorem check_gd (n₀ : Nat) (w : World) : ∀ v : V, ∀ (d f : Nat), Lies n₀ w v → d + f = 33 → ((∀ y ∈ V.all (d : Int) v, checkZ y = 0) ↔ Gd badB twiceW v.t f) := by
  refine V.ind ?_
  intro k n s a c e l ih d f hl hdf
  have ok := hl.ok
  rw [V.all_of]
  have hw : wrap64 ((d : Int) + 1) = ((d + 1 : Nat) : Int) := by
    have : IntKind.i64.wrap (((d + 1 : Nat) : Int)) = ((d + 1 : Nat) : Int) := by
      simp only [IntKind.wrap, IntKind.bits, IntKind.signed]
      simp
      omega
    rw [show ((d : Int) + 1) = ((d + 1 : Nat) : Int) by omega]
    simpa [wrap64, IntKind.wrap_i64] using this
  rw [hw]
  have h1 : checkZ ((d : Int), V.of k n s a c e l) = 0 ↔ (d : Int) ≤ 32 ∧ OwnG badB twiceW k n s e (V.ts l) := by
    unfold checkZ
    rw [faultT_of, ← V.ts_length l]
    exact own_iff k n s e (V.ts l) d ok.n.1 (by have := ok.n.2; omega)
  have h2 : (∀ y ∈ V.alls ((d + 1 : Nat) : Int) l, checkZ y = 0) ↔ ∀ x ∈ l, ∀ y ∈ V.all ((d + 1 : Nat) : Int) x, checkZ y = 0 := by
    clear ih hl h1 ok
    induction l with
    | nil => simp [V.alls]
    | cons x l ihl =>
      rw [V.alls]
      simp only [List.mem_append, List.mem_cons]
      constructor
      · intro h x' hx' y hy
        rcases hx' with rfl | hx'
        · exact h y (.inl hy)
        · exact ihl.1 (fun y hy => h y (.inr hy)) x' hx' y hy
      · intro h y hy
        rcases hy with hy | hy
        · exact h x (.inl rfl) y hy
        · exact ihl.2 (fun x' hx' => h x' (.inr hx')) y hy
  rw [V.t_of, T.of, Gd_of]
  constructor
  · intro h
    have g1 := h1.1 (h _ (by simp))
    have hf : 0 < f := by omega
    refine ⟨hf, g1.2, fun x hx => ?_⟩
    obtain ⟨y, hy, rfl⟩ : ∃ y ∈ l, y.t = x := by rw [V.ts_map] at hx; exact List.mem_map.1 hx
    refine (ih y hy (d + 1) (f - 1) (hl.sub y hy) (by omega)).1 ?_
    exact h2.1 (fun z hz => h z (List.mem_cons_of_mem _ hz)) y hy
  · rintro ⟨hf, own, sub⟩ y hy
    rcases List.mem_cons.1 hy with rfl | hy
    · exact h1.2 ⟨by omega, own⟩
    · refine h2.2 (fun x hx => ?_) y hy
      exact (ih x hx (d + 1) (f - 1) (hl.sub x hx) (by omega)).2 (sub x.t (by rw [V.ts_map]; exact List.mem_map.2 ⟨x, hx, rfl⟩))
theorem check_iff (n₀ : Nat) (w : World) (v : V) (hl : Lies n₀ w v) : firstE checkZ (v.all 1) = 0 ↔ Gd badB twiceW v.t 32 := by
  rw [firstE_zero]
  exact check_gd n₀ w v 1 32 hl (by omega)
end Go.Proofs.YthhlpjhkeendcaaGreatDoor
