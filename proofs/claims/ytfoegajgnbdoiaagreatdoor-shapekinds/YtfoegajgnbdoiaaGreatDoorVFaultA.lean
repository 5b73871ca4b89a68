
/- value.fault. -/
import Derived.Test.YtfoegajgnbdoiaaGreatDoorVExtra
import Derived.Test.YtfoegajgnbdoiaaGreatDoorVText
import Derived.Test.YtfoegajgnbdoiaaGreatDoorVIsMap
namespace Go.Proofs.YtfoegajgnbdoiaaGreatDoor
open Go.RowKit
set_option linter.unusedVariables false
set_option linter.unusedSimpArgs false

/-- what is wrong with a value, by what is asked of it -/
def faultB (k d : Int) (bE bN bX bM bA : Bool) (len : Nat) : Int :=
  if k < 0 ∨ 24 < k then 20 else if 32 < d then 26 else if bE = true then 25 else if bN = false then 21 else if bX = false then 22
  else if k = 22 ∧ bM = false then 23 else if k = 23 ∧ bA = false then 24 else if k = 24 ∧ len ≠ 2 then 27 else 0
/-- what is wrong with a value at a depth -/
def faultT (d : Int) (x : T) : Int := faultB x.k d (extraT x.k x.n x.s x.l.length x.e) (numT x.k x.n) (textT x.k x.s) (mapT x.l) (arrT x.e x.l) x.l.length
theorem faultT_of (d k n : Int) (s : ByteArray) (a : Option Addr) (c : Nat) (e : Int) (l : List V) : faultT d (V.of k n s a c e l).t = faultB k d (extraT k n s l.length e) (numT k n) (textT k s) (mapT (V.ts l)) (arrT e (V.ts l)) l.length := by
  rw [V.t_of]
  show faultT d (V.of k n s none 0 e (V.ts l)) = _
  unfold faultT
  rw [V.k_of, V.n_of, V.s_of, V.e_of, V.l_of, V.ts_length]

set_option maxRecDepth 100000 in
set_option maxHeartbeats 8000000 in
theorem fault_any (x : V) (d : Int) (n₀ : Nat) (w : World) (hn : n₀ ≤ w.heap.size) (hx : Lies n₀ w x) (hT : Lib.Utf8Tabs 0 1 w) :
    Calls Tryz.prog 111 #[x.val, .int .i64 d] w fun e w' => e = .returned (.int .i64 (faultT d x.t)) ∧ Below w.heap.size w w' := by
  obtain ⟨k, n, s, a, c, e, l, rfl⟩ := V.ex x
  rw [faultT_of]
  have ok := hx.ok
  have hll := ok.c
  obtain ⟨W0, hW0⟩ : ∃ W0, w.alloc (Obj.cells #[.int .i64 k, .int .u64 n, .string s, .slice a l.length c, .int .i64 e] 34) = W0 := ⟨_, rfl⟩
  have hs0 : W0.heap.size = w.heap.size + 1 := by rw [← hW0]; simp
  have hb0 : Below w.heap.size w W0 := by rw [← hW0]; exact bel1 (Below.refl _ _) (Nat.le_refl _) _
  have xx : BoxV W0 w.heap.size (.of k n s a c e l) := by
    rw [← hW0]
    unfold BoxV
    rw [V.k_of, V.n_of, V.s_of, V.a_of, V.l_of, V.c_of, V.e_of]
    exact World.alloc_heap_new _ _
  have HC : Hid (∀ W, Below W0.heap.size W0 W → (W.cell? ⟨w.heap.size, 0, none⟩ = some (.int .i64 k) ∧ W.cell? ⟨w.heap.size, 1, none⟩ = some (.int .u64 n) ∧ W.cell? ⟨w.heap.size, 2, none⟩ = some (.string s) ∧ W.cell? ⟨w.heap.size, 3, none⟩ = some (.slice a l.length c) ∧ W.cell? ⟨w.heap.size, 4, none⟩ = some (.int .i64 e)) ∧ w.heap.size < W.heap.size) := fun W hW => by
    have h := (xx.below hW (by omega)).cells
    rw [V.k_of, V.n_of, V.s_of, V.a_of, V.l_of, V.c_of, V.e_of] at h
    exact ⟨h, by have := hW.size; omega⟩
  have HL : Hid (∀ W, Below W0.heap.size W0 W → Lies n₀ W (.of k n s a c e l) ∧ Lib.Utf8Tabs 0 1 W) := fun W hW => ⟨hx.keep (belOn hb0 (by omega) hW) hn, tabs_below hT (belOn hb0 (by omega) hW)⟩
  have HE : Hid (∀ W, Below W0.heap.size W0 W → Calls Tryz.prog 124 #[.agg #[.int .i64 k, .int .u64 n, .string s, .slice a l.length c, .int .i64 e]] W fun e' w' => e' = .returned (.bool (extraT k n s l.length e)) ∧ Below W0.heap.size W0 w') := fun W hW =>
    (extra_any k n s a l.length c e W (by omega)).mono (fun e' w' h => ⟨h.1, belOn hW hW.size h.2⟩)
  have HN : Hid (∀ W, Below W0.heap.size W0 W → Calls Tryz.prog 125 #[.agg #[.int .i64 k, .int .u64 n, .string s, .slice a l.length c, .int .i64 e]] W fun e' w' => e' = .returned (.bool (numT k n)) ∧ Below W0.heap.size W0 w') := fun W hW =>
    (num_any k n s a l.length c e W ok.n.1 ok.n.2).mono (fun e' w' h => ⟨h.1, belOn hW hW.size h.2⟩)
  have HX : Hid (∀ W, Below W0.heap.size W0 W → Calls Tryz.prog 126 #[.agg #[.int .i64 k, .int .u64 n, .string s, .slice a l.length c, .int .i64 e]] W fun e' w' => e' = .returned (.bool (textT k s)) ∧ Below W0.heap.size W0 w') := fun W hW =>
    (text_any k n s a l.length c e W ok.s (HL.out W hW).2).mono (fun e' w' h => ⟨h.1, belOn hW hW.size h.2⟩)
  have HM : Hid (∀ W, Below W0.heap.size W0 W → Calls Tryz.prog 127 #[.agg #[.int .i64 k, .int .u64 n, .string s, .slice a l.length c, .int .i64 e]] W fun e' w' => e' = .returned (.bool (mapT (V.ts l))) ∧ Below W0.heap.size W0 w') := fun W hW => by
    have q := ismap_any _ n₀ W (by have := hW.size; omega) (HL.out W hW).1
    rw [V.val_of, V.l_of] at q
    exact q.mono (fun e' w' h => ⟨h.1, belOn hW hW.size h.2⟩)
  have HA : Hid (∀ W, Below W0.heap.size W0 W → Calls Tryz.prog 128 #[.agg #[.int .i64 k, .int .u64 n, .string s, .slice a l.length c, .int .i64 e]] W fun e' w' => e' = .returned (.bool (arrT e (V.ts l))) ∧ Below W0.heap.size W0 w') := fun W hW => by
    have q := isarr_any _ n₀ W (by have := hW.size; omega) (HL.out W hW).1
    rw [V.val_of, V.l_of, V.e_of] at q
    exact q.mono (fun e' w' h => ⟨h.1, belOn hW hW.size h.2⟩)
  have hbr : Below W0.heap.size W0 W0 := Below.refl _ _
  have HBR : Hid (Below W0.heap.size W0 (w.alloc (Obj.cells #[.int .i64 k, .int .u64 n, .string s, .slice a l.length c, .int .i64 e] 34))) := by rw [hW0]; exact Below.refl _ _
  rw [V.val_of]
  clear hW0 ok hx hT HL xx
  generalize extraT k n s l.length e = bE at *
  generalize numT k n = bN at *
  generalize textT k s = bX at *
  generalize mapT (V.ts l) = bM at *
  generalize arrT e (V.ts l) = bA at *
  by_cases hk1 : k < 0
  · go_enter Tryz.func111, Tryz.ntmps111
    go_wp2_with (first
      | (go_at_call 124; refine (HE.out _ HBR.out).mono ?_; rintro e1 w1 ⟨rfl, hb1⟩; obtain ⟨⟨c10, c11, c12, c13, c14⟩, cz1⟩ := HC.out w1 hb1)
      | (go_at_call 125; refine (HN.out _ hb1).mono ?_; clear c10 c11 c12 c13 c14 cz1; rintro e2 w2 ⟨rfl, hb2⟩; obtain ⟨⟨c20, c21, c22, c23, c24⟩, cz2⟩ := HC.out w2 hb2)
      | (go_at_call 126; refine (HX.out _ hb2).mono ?_; clear c20 c21 c22 c23 c24 cz2; rintro e3 w3 ⟨rfl, hb3⟩; obtain ⟨⟨c30, c31, c32, c33, c34⟩, cz3⟩ := HC.out w3 hb3)
      | (go_at_call 127; refine (HM.out _ hb3).mono ?_; clear c30 c31 c32 c33 c34 cz3; rintro e4 w4 ⟨rfl, hb4⟩; obtain ⟨⟨c40, c41, c42, c43, c44⟩, cz4⟩ := HC.out w4 hb4)
      | (go_at_call 128; refine (HA.out _ hb3).mono ?_; clear c30 c31 c32 c33 c34 cz3; rintro e5 w5 ⟨rfl, hb5⟩; obtain ⟨⟨c50, c51, c52, c53, c54⟩, cz5⟩ := HC.out w5 hb5))
    go_ret
    exact ⟨by rw [show faultB _ _ _ _ _ _ _ _ = (20 : Int) by unfold faultB; rw [if_pos (by omega)]]; rfl, belOn hb0 (by omega) HBR.out⟩
  by_cases hk2 : 24 < k
  · go_enter Tryz.func111, Tryz.ntmps111
    go_wp2_with (first
      | (go_at_call 124; refine (HE.out _ HBR.out).mono ?_; rintro e1 w1 ⟨rfl, hb1⟩; obtain ⟨⟨c10, c11, c12, c13, c14⟩, cz1⟩ := HC.out w1 hb1)
      | (go_at_call 125; refine (HN.out _ hb1).mono ?_; clear c10 c11 c12 c13 c14 cz1; rintro e2 w2 ⟨rfl, hb2⟩; obtain ⟨⟨c20, c21, c22, c23, c24⟩, cz2⟩ := HC.out w2 hb2)
      | (go_at_call 126; refine (HX.out _ hb2).mono ?_; clear c20 c21 c22 c23 c24 cz2; rintro e3 w3 ⟨rfl, hb3⟩; obtain ⟨⟨c30, c31, c32, c33, c34⟩, cz3⟩ := HC.out w3 hb3)
      | (go_at_call 127; refine (HM.out _ hb3).mono ?_; clear c30 c31 c32 c33 c34 cz3; rintro e4 w4 ⟨rfl, hb4⟩; obtain ⟨⟨c40, c41, c42, c43, c44⟩, cz4⟩ := HC.out w4 hb4)
      | (go_at_call 128; refine (HA.out _ hb3).mono ?_; clear c30 c31 c32 c33 c34 cz3; rintro e5 w5 ⟨rfl, hb5⟩; obtain ⟨⟨c50, c51, c52, c53, c54⟩, cz5⟩ := HC.out w5 hb5))
    go_ret
    exact ⟨by rw [show faultB _ _ _ _ _ _ _ _ = (20 : Int) by unfold faultB; rw [if_pos (by omega)]]; rfl, belOn hb0 (by omega) HBR.out⟩
  by_cases hd : 32 < d
  · go_enter Tryz.func111, Tryz.ntmps111
    go_wp2_with (first
      | (go_at_call 124; refine (HE.out _ HBR.out).mono ?_; rintro e1 w1 ⟨rfl, hb1⟩; obtain ⟨⟨c10, c11, c12, c13, c14⟩, cz1⟩ := HC.out w1 hb1)
      | (go_at_call 125; refine (HN.out _ hb1).mono ?_; clear c10 c11 c12 c13 c14 cz1; rintro e2 w2 ⟨rfl, hb2⟩; obtain ⟨⟨c20, c21, c22, c23, c24⟩, cz2⟩ := HC.out w2 hb2)
      | (go_at_call 126; refine (HX.out _ hb2).mono ?_; clear c20 c21 c22 c23 c24 cz2; rintro e3 w3 ⟨rfl, hb3⟩; obtain ⟨⟨c30, c31, c32, c33, c34⟩, cz3⟩ := HC.out w3 hb3)
      | (go_at_call 127; refine (HM.out _ hb3).mono ?_; clear c30 c31 c32 c33 c34 cz3; rintro e4 w4 ⟨rfl, hb4⟩; obtain ⟨⟨c40, c41, c42, c43, c44⟩, cz4⟩ := HC.out w4 hb4)
      | (go_at_call 128; refine (HA.out _ hb3).mono ?_; clear c30 c31 c32 c33 c34 cz3; rintro e5 w5 ⟨rfl, hb5⟩; obtain ⟨⟨c50, c51, c52, c53, c54⟩, cz5⟩ := HC.out w5 hb5))
    go_ret
    exact ⟨by rw [show faultB _ _ _ _ _ _ _ _ = (26 : Int) by unfold faultB; rw [if_neg (by omega), if_pos (by omega)]]; rfl, belOn hb0 (by omega) HBR.out⟩
  cases bE
  rotate_left
  · go_enter Tryz.func111, Tryz.ntmps111
    go_wp2_with (first
      | (go_at_call 124; refine (HE.out _ HBR.out).mono ?_; rintro e1 w1 ⟨rfl, hb1⟩; obtain ⟨⟨c10, c11, c12, c13, c14⟩, cz1⟩ := HC.out w1 hb1)
      | (go_at_call 125; refine (HN.out _ hb1).mono ?_; clear c10 c11 c12 c13 c14 cz1; rintro e2 w2 ⟨rfl, hb2⟩; obtain ⟨⟨c20, c21, c22, c23, c24⟩, cz2⟩ := HC.out w2 hb2)
      | (go_at_call 126; refine (HX.out _ hb2).mono ?_; clear c20 c21 c22 c23 c24 cz2; rintro e3 w3 ⟨rfl, hb3⟩; obtain ⟨⟨c30, c31, c32, c33, c34⟩, cz3⟩ := HC.out w3 hb3)
      | (go_at_call 127; refine (HM.out _ hb3).mono ?_; clear c30 c31 c32 c33 c34 cz3; rintro e4 w4 ⟨rfl, hb4⟩; obtain ⟨⟨c40, c41, c42, c43, c44⟩, cz4⟩ := HC.out w4 hb4)
      | (go_at_call 128; refine (HA.out _ hb3).mono ?_; clear c30 c31 c32 c33 c34 cz3; rintro e5 w5 ⟨rfl, hb5⟩; obtain ⟨⟨c50, c51, c52, c53, c54⟩, cz5⟩ := HC.out w5 hb5))
    go_ret
    exact ⟨by rw [show faultB _ _ _ _ _ _ _ _ = (25 : Int) by unfold faultB; rw [if_neg (by omega), if_neg (by omega), if_pos rfl]]; rfl, belOn hb0 (by omega) hb1⟩
  cases bN
  · go_enter Tryz.func111, Tryz.ntmps111
    go_wp2_with (first
      | (go_at_call 124; refine (HE.out _ HBR.out).mono ?_; rintro e1 w1 ⟨rfl, hb1⟩; obtain ⟨⟨c10, c11, c12, c13, c14⟩, cz1⟩ := HC.out w1 hb1)
      | (go_at_call 125; refine (HN.out _ hb1).mono ?_; clear c10 c11 c12 c13 c14 cz1; rintro e2 w2 ⟨rfl, hb2⟩; obtain ⟨⟨c20, c21, c22, c23, c24⟩, cz2⟩ := HC.out w2 hb2)
      | (go_at_call 126; refine (HX.out _ hb2).mono ?_; clear c20 c21 c22 c23 c24 cz2; rintro e3 w3 ⟨rfl, hb3⟩; obtain ⟨⟨c30, c31, c32, c33, c34⟩, cz3⟩ := HC.out w3 hb3)
      | (go_at_call 127; refine (HM.out _ hb3).mono ?_; clear c30 c31 c32 c33 c34 cz3; rintro e4 w4 ⟨rfl, hb4⟩; obtain ⟨⟨c40, c41, c42, c43, c44⟩, cz4⟩ := HC.out w4 hb4)
      | (go_at_call 128; refine (HA.out _ hb3).mono ?_; clear c30 c31 c32 c33 c34 cz3; rintro e5 w5 ⟨rfl, hb5⟩; obtain ⟨⟨c50, c51, c52, c53, c54⟩, cz5⟩ := HC.out w5 hb5))
    go_ret
    exact ⟨by rw [show faultB _ _ _ _ _ _ _ _ = (21 : Int) by unfold faultB; rw [if_neg (by omega), if_neg (by omega), if_neg (by simp), if_pos rfl]]; rfl, belOn hb0 (by omega) hb2⟩
  cases bX
  · go_enter Tryz.func111, Tryz.ntmps111
    go_wp2_with (first
      | (go_at_call 124; refine (HE.out _ HBR.out).mono ?_; rintro e1 w1 ⟨rfl, hb1⟩; obtain ⟨⟨c10, c11, c12, c13, c14⟩, cz1⟩ := HC.out w1 hb1)
      | (go_at_call 125; refine (HN.out _ hb1).mono ?_; clear c10 c11 c12 c13 c14 cz1; rintro e2 w2 ⟨rfl, hb2⟩; obtain ⟨⟨c20, c21, c22, c23, c24⟩, cz2⟩ := HC.out w2 hb2)
      | (go_at_call 126; refine (HX.out _ hb2).mono ?_; clear c20 c21 c22 c23 c24 cz2; rintro e3 w3 ⟨rfl, hb3⟩; obtain ⟨⟨c30, c31, c32, c33, c34⟩, cz3⟩ := HC.out w3 hb3)
      | (go_at_call 127; refine (HM.out _ hb3).mono ?_; clear c30 c31 c32 c33 c34 cz3; rintro e4 w4 ⟨rfl, hb4⟩; obtain ⟨⟨c40, c41, c42, c43, c44⟩, cz4⟩ := HC.out w4 hb4)
      | (go_at_call 128; refine (HA.out _ hb3).mono ?_; clear c30 c31 c32 c33 c34 cz3; rintro e5 w5 ⟨rfl, hb5⟩; obtain ⟨⟨c50, c51, c52, c53, c54⟩, cz5⟩ := HC.out w5 hb5))
    go_ret
    exact ⟨by rw [show faultB _ _ _ _ _ _ _ _ = (22 : Int) by unfold faultB; rw [if_neg (by omega), if_neg (by omega), if_neg (by simp), if_neg (by simp), if_pos rfl]]; rfl, belOn hb0 (by omega) hb3⟩
  by_cases h22 : k = 22
  · subst h22
    cases bM
    · go_enter Tryz.func111, Tryz.ntmps111
      go_wp2_with (first
        | (go_at_call 124; refine (HE.out _ HBR.out).mono ?_; rintro e1 w1 ⟨rfl, hb1⟩; obtain ⟨⟨c10, c11, c12, c13, c14⟩, cz1⟩ := HC.out w1 hb1)
        | (go_at_call 125; refine (HN.out _ hb1).mono ?_; clear c10 c11 c12 c13 c14 cz1; rintro e2 w2 ⟨rfl, hb2⟩; obtain ⟨⟨c20, c21, c22, c23, c24⟩, cz2⟩ := HC.out w2 hb2)
        | (go_at_call 126; refine (HX.out _ hb2).mono ?_; clear c20 c21 c22 c23 c24 cz2; rintro e3 w3 ⟨rfl, hb3⟩; obtain ⟨⟨c30, c31, c32, c33, c34⟩, cz3⟩ := HC.out w3 hb3)
        | (go_at_call 127; refine (HM.out _ hb3).mono ?_; clear c30 c31 c32 c33 c34 cz3; rintro e4 w4 ⟨rfl, hb4⟩; obtain ⟨⟨c40, c41, c42, c43, c44⟩, cz4⟩ := HC.out w4 hb4)
        | (go_at_call 128; refine (HA.out _ hb3).mono ?_; clear c30 c31 c32 c33 c34 cz3; rintro e5 w5 ⟨rfl, hb5⟩; obtain ⟨⟨c50, c51, c52, c53, c54⟩, cz5⟩ := HC.out w5 hb5))
      go_ret
      exact ⟨by rw [show faultB _ _ _ _ _ _ _ _ = (23 : Int) by unfold faultB; rw [if_neg (by omega), if_neg (by omega), if_neg (by simp), if_neg (by simp), if_neg (by simp), if_pos ⟨rfl, rfl⟩]]; rfl, belOn hb0 (by omega) hb4⟩
    · go_enter Tryz.func111, Tryz.ntmps111
      go_wp2_with (first
        | (go_at_call 124; refine (HE.out _ HBR.out).mono ?_; rintro e1 w1 ⟨rfl, hb1⟩; obtain ⟨⟨c10, c11, c12, c13, c14⟩, cz1⟩ := HC.out w1 hb1)
        | (go_at_call 125; refine (HN.out _ hb1).mono ?_; clear c10 c11 c12 c13 c14 cz1; rintro e2 w2 ⟨rfl, hb2⟩; obtain ⟨⟨c20, c21, c22, c23, c24⟩, cz2⟩ := HC.out w2 hb2)
        | (go_at_call 126; refine (HX.out _ hb2).mono ?_; clear c20 c21 c22 c23 c24 cz2; rintro e3 w3 ⟨rfl, hb3⟩; obtain ⟨⟨c30, c31, c32, c33, c34⟩, cz3⟩ := HC.out w3 hb3)
        | (go_at_call 127; refine (HM.out _ hb3).mono ?_; clear c30 c31 c32 c33 c34 cz3; rintro e4 w4 ⟨rfl, hb4⟩; obtain ⟨⟨c40, c41, c42, c43, c44⟩, cz4⟩ := HC.out w4 hb4)
        | (go_at_call 128; refine (HA.out _ hb3).mono ?_; clear c30 c31 c32 c33 c34 cz3; rintro e5 w5 ⟨rfl, hb5⟩; obtain ⟨⟨c50, c51, c52, c53, c54⟩, cz5⟩ := HC.out w5 hb5))
      go_ret
      exact ⟨by rw [show faultB _ _ _ _ _ _ _ _ = (0 : Int) by unfold faultB; rw [if_neg (by omega), if_neg (by omega), if_neg (by simp), if_neg (by simp), if_neg (by simp), if_neg (by simp), if_neg (by simp), if_neg (by simp)]]; rfl, belOn hb0 (by omega) hb4⟩
  by_cases h23 : k = 23
  · subst h23
    cases bA
    · go_enter Tryz.func111, Tryz.ntmps111
      go_wp2_with (first
        | (go_at_call 124; refine (HE.out _ HBR.out).mono ?_; rintro e1 w1 ⟨rfl, hb1⟩; obtain ⟨⟨c10, c11, c12, c13, c14⟩, cz1⟩ := HC.out w1 hb1)
        | (go_at_call 125; refine (HN.out _ hb1).mono ?_; clear c10 c11 c12 c13 c14 cz1; rintro e2 w2 ⟨rfl, hb2⟩; obtain ⟨⟨c20, c21, c22, c23, c24⟩, cz2⟩ := HC.out w2 hb2)
        | (go_at_call 126; refine (HX.out _ hb2).mono ?_; clear c20 c21 c22 c23 c24 cz2; rintro e3 w3 ⟨rfl, hb3⟩; obtain ⟨⟨c30, c31, c32, c33, c34⟩, cz3⟩ := HC.out w3 hb3)
        | (go_at_call 127; refine (HM.out _ hb3).mono ?_; clear c30 c31 c32 c33 c34 cz3; rintro e4 w4 ⟨rfl, hb4⟩; obtain ⟨⟨c40, c41, c42, c43, c44⟩, cz4⟩ := HC.out w4 hb4)
        | (go_at_call 128; refine (HA.out _ hb3).mono ?_; clear c30 c31 c32 c33 c34 cz3; rintro e5 w5 ⟨rfl, hb5⟩; obtain ⟨⟨c50, c51, c52, c53, c54⟩, cz5⟩ := HC.out w5 hb5))
      go_ret
      exact ⟨by rw [show faultB _ _ _ _ _ _ _ _ = (24 : Int) by unfold faultB; rw [if_neg (by omega), if_neg (by omega), if_neg (by simp), if_neg (by simp), if_neg (by simp), if_neg (by simp), if_pos ⟨rfl, rfl⟩]]; rfl, belOn hb0 (by omega) hb5⟩
    · go_enter Tryz.func111, Tryz.ntmps111
      go_wp2_with (first
        | (go_at_call 124; refine (HE.out _ HBR.out).mono ?_; rintro e1 w1 ⟨rfl, hb1⟩; obtain ⟨⟨c10, c11, c12, c13, c14⟩, cz1⟩ := HC.out w1 hb1)
        | (go_at_call 125; refine (HN.out _ hb1).mono ?_; clear c10 c11 c12 c13 c14 cz1; rintro e2 w2 ⟨rfl, hb2⟩; obtain ⟨⟨c20, c21, c22, c23, c24⟩, cz2⟩ := HC.out w2 hb2)
        | (go_at_call 126; refine (HX.out _ hb2).mono ?_; clear c20 c21 c22 c23 c24 cz2; rintro e3 w3 ⟨rfl, hb3⟩; obtain ⟨⟨c30, c31, c32, c33, c34⟩, cz3⟩ := HC.out w3 hb3)
        | (go_at_call 127; refine (HM.out _ hb3).mono ?_; clear c30 c31 c32 c33 c34 cz3; rintro e4 w4 ⟨rfl, hb4⟩; obtain ⟨⟨c40, c41, c42, c43, c44⟩, cz4⟩ := HC.out w4 hb4)
        | (go_at_call 128; refine (HA.out _ hb3).mono ?_; clear c30 c31 c32 c33 c34 cz3; rintro e5 w5 ⟨rfl, hb5⟩; obtain ⟨⟨c50, c51, c52, c53, c54⟩, cz5⟩ := HC.out w5 hb5))
      go_ret
      exact ⟨by rw [show faultB _ _ _ _ _ _ _ _ = (0 : Int) by unfold faultB; rw [if_neg (by omega), if_neg (by omega), if_neg (by simp), if_neg (by simp), if_neg (by simp), if_neg (by simp), if_neg (by simp), if_neg (by simp)]]; rfl, belOn hb0 (by omega) hb5⟩
  by_cases h24 : k = 24
  · subst h24
    by_cases hl2 : l.length = 2
    · have hl2' : ((l.length : Int) == 2) = true := by simp; omega
      have HL2 := hide hl2
      clear hl2
      go_enter Tryz.func111, Tryz.ntmps111
      go_wp2_with (first
        | (go_at_call 124; refine (HE.out _ HBR.out).mono ?_; rintro e1 w1 ⟨rfl, hb1⟩; obtain ⟨⟨c10, c11, c12, c13, c14⟩, cz1⟩ := HC.out w1 hb1)
        | (go_at_call 125; refine (HN.out _ hb1).mono ?_; clear c10 c11 c12 c13 c14 cz1; rintro e2 w2 ⟨rfl, hb2⟩; obtain ⟨⟨c20, c21, c22, c23, c24⟩, cz2⟩ := HC.out w2 hb2)
        | (go_at_call 126; refine (HX.out _ hb2).mono ?_; clear c20 c21 c22 c23 c24 cz2; rintro e3 w3 ⟨rfl, hb3⟩; obtain ⟨⟨c30, c31, c32, c33, c34⟩, cz3⟩ := HC.out w3 hb3)
        | (go_at_call 127; refine (HM.out _ hb3).mono ?_; clear c30 c31 c32 c33 c34 cz3; rintro e4 w4 ⟨rfl, hb4⟩; obtain ⟨⟨c40, c41, c42, c43, c44⟩, cz4⟩ := HC.out w4 hb4)
        | (go_at_call 128; refine (HA.out _ hb3).mono ?_; clear c30 c31 c32 c33 c34 cz3; rintro e5 w5 ⟨rfl, hb5⟩; obtain ⟨⟨c50, c51, c52, c53, c54⟩, cz5⟩ := HC.out w5 hb5))
      go_ret
      exact ⟨by rw [show faultB _ _ _ _ _ _ _ _ = (0 : Int) by unfold faultB; rw [if_neg (by omega), if_neg (by omega), if_neg (by simp), if_neg (by simp), if_neg (by simp), if_neg (by simp), if_neg (by simp), if_neg (fun h => h.2 HL2.out)]]; rfl, belOn hb0 (by omega) hb3⟩
    · have hl2' : ((l.length : Int) == 2) = false := by simp; omega
      go_enter Tryz.func111, Tryz.ntmps111
      go_wp2_with (first
        | (go_at_call 124; refine (HE.out _ HBR.out).mono ?_; rintro e1 w1 ⟨rfl, hb1⟩; obtain ⟨⟨c10, c11, c12, c13, c14⟩, cz1⟩ := HC.out w1 hb1)
        | (go_at_call 125; refine (HN.out _ hb1).mono ?_; clear c10 c11 c12 c13 c14 cz1; rintro e2 w2 ⟨rfl, hb2⟩; obtain ⟨⟨c20, c21, c22, c23, c24⟩, cz2⟩ := HC.out w2 hb2)
        | (go_at_call 126; refine (HX.out _ hb2).mono ?_; clear c20 c21 c22 c23 c24 cz2; rintro e3 w3 ⟨rfl, hb3⟩; obtain ⟨⟨c30, c31, c32, c33, c34⟩, cz3⟩ := HC.out w3 hb3)
        | (go_at_call 127; refine (HM.out _ hb3).mono ?_; clear c30 c31 c32 c33 c34 cz3; rintro e4 w4 ⟨rfl, hb4⟩; obtain ⟨⟨c40, c41, c42, c43, c44⟩, cz4⟩ := HC.out w4 hb4)
        | (go_at_call 128; refine (HA.out _ hb3).mono ?_; clear c30 c31 c32 c33 c34 cz3; rintro e5 w5 ⟨rfl, hb5⟩; obtain ⟨⟨c50, c51, c52, c53, c54⟩, cz5⟩ := HC.out w5 hb5))
      go_ret
      exact ⟨by rw [show faultB _ _ _ _ _ _ _ _ = (27 : Int) by unfold faultB; rw [if_neg (by omega), if_neg (by omega), if_neg (by simp), if_neg (by simp), if_neg (by simp), if_neg (by simp), if_neg (by simp), if_pos ⟨rfl, hl2⟩]]; rfl, belOn hb0 (by omega) hb3⟩
  go_enter Tryz.func111, Tryz.ntmps111
  go_wp2_with (first
    | (go_at_call 124; refine (HE.out _ HBR.out).mono ?_; rintro e1 w1 ⟨rfl, hb1⟩; obtain ⟨⟨c10, c11, c12, c13, c14⟩, cz1⟩ := HC.out w1 hb1)
    | (go_at_call 125; refine (HN.out _ hb1).mono ?_; clear c10 c11 c12 c13 c14 cz1; rintro e2 w2 ⟨rfl, hb2⟩; obtain ⟨⟨c20, c21, c22, c23, c24⟩, cz2⟩ := HC.out w2 hb2)
    | (go_at_call 126; refine (HX.out _ hb2).mono ?_; clear c20 c21 c22 c23 c24 cz2; rintro e3 w3 ⟨rfl, hb3⟩; obtain ⟨⟨c30, c31, c32, c33, c34⟩, cz3⟩ := HC.out w3 hb3)
    | (go_at_call 127; refine (HM.out _ hb3).mono ?_; clear c30 c31 c32 c33 c34 cz3; rintro e4 w4 ⟨rfl, hb4⟩; obtain ⟨⟨c40, c41, c42, c43, c44⟩, cz4⟩ := HC.out w4 hb4)
    | (go_at_call 128; refine (HA.out _ hb3).mono ?_; clear c30 c31 c32 c33 c34 cz3; rintro e5 w5 ⟨rfl, hb5⟩; obtain ⟨⟨c50, c51, c52, c53, c54⟩, cz5⟩ := HC.out w5 hb5))
  go_ret
  exact ⟨by rw [show faultB _ _ _ _ _ _ _ _ = (0 : Int) by unfold faultB; rw [if_neg (by omega), if_neg (by omega), if_neg (by simp), if_neg (by simp), if_neg (by simp), if_neg (fun h => h22 h.1), if_neg (fun h => h23 h.1), if_neg (fun h => h24 h.1)]]; rfl, belOn hb0 (by omega) hb3⟩
end Go.Proofs.YtfoegajgnbdoiaaGreatDoor
