
/- Stage 18: fitsAll: a part that is no hash. -/
import Derived.Test.YtmanfakdbmlfeaaDoorRAllX
namespace Go.Proofs.YtmanfakdbmlfeaaDoor
open Go.RowKit
set_option linter.unusedVariables false
set_option linter.unusedSimpArgs false
set_option maxHeartbeats 2000000 in
set_option maxRecDepth 100000 in
theorem fa_oneOk {a u b : List ByteArray} {x : ByteArray} (h1 : x ≠ bHash) (h8 : u.length ≤ 8) (IH : Hid (FaOk a (u ++ [x]) b)) : FaOk a u (x :: b) := by
  intro w base va vu vb hb ha hu hB
  have HU := hide hu
  have HA := hide ha
  obtain ⟨ga, oa, ca, rfl, _⟩ := ha
  obtain ⟨gb, ob, cb, rfl, hcb, hmb, hgb, hxb⟩ := hB
  obtain ⟨au, cu, rfl⟩ := hu.shape
  have hcell := hxb.2 0 x rfl
  rw [Nat.add_zero] at hcell
  have hlt := hxb.1
  rw [List.length_cons] at hcb ⊢
  have HX : Hid (Tb w base (.slice (if cb = 1 then some ⟨gb, ob, none⟩ else some ⟨gb, ob + 1, none⟩) b.length (cb - 1)) b) := by
    by_cases e : cb = 1
    · refine Tb.tails hcb hmb hgb hxb _ (.inr ⟨by omega, ?_⟩)
      rw [if_pos e, show cb - 1 = 0 by omega]
    · refine Tb.tails hcb hmb hgb hxb _ (.inl ?_)
      rw [if_neg e]
  obtain ⟨vx, hvx⟩ : ∃ v, v = Value.slice (if cb = 1 then some ⟨gb, ob, none⟩ else some ⟨gb, ob + 1, none⟩) b.length (cb - 1) := ⟨_, rfl⟩
  rw [← hvx] at HX
  have HVX := hide hvx
  have hz1 : (1 : Int) ≤ (b.length : Int) + 1 := by omega
  have e1 : (x.toList == [35]) = false := by rw [hash_eq]; simpa using h1
  have HF : Hid (faB a u (x :: b) = faB a (u ++ [x]) b) := faB_one a u b h1
  have hz : ¬ (8 : Int) < (u.length : Int) := by omega
  have HS0 : Hid (w.drew.cell? ⟨gb, ob, none⟩ = some (.string x)) := hcell
  have HS : Hid (∀ w', Kp (fun k => base ≤ k) w w' → w'.cell? ⟨gb, ob, none⟩ = some (.string x)) := fun w' hk => (Kp.cell hk hlt (by omega)).trans hcell
  have HD : Hid (Kp (fun k => base ≤ k) w w.drew) := Kp.ofBelow (Below.refl _ _).drew
  have HUA : Hid (Wy SK (w.drew.alloc (.cells #[.string x] 9)) base (.slice au u.length cu) u) := hu.at fun k e => Below.heap_alloc _ _ _ (hu.lt e).2
  have HUD : Hid (Wy SK w.drew base (.slice au u.length cu) u) := hu.at fun k e => rfl
  have HBA : Hid (base ≤ (w.drew.alloc (.cells #[.string x] 9)).heap.size) := by show base ≤ (w.drew.alloc _).heap.size; simp; exact Nat.le_succ_of_le hb
  clear h1 hu hxb hvx
  go_enter Tryd.func28, Tryd.ntmps28
  go_wp2_with fail
  refine wp_region_held_drew (S := fun W => W.cell? ⟨gb, ob, none⟩ = some (.string x)) (by kernel_rfl) HS0.out (fun hHeld => ?_)
  refine take_do (i := 0) (d := 41) (v := ?_) rfl rfl (by kernel_rfl) (by kernel_rfl) (by kernel_rfl) (fun _ _ _ h => h) rfl ?_ (by assumption) ?_
  rotate_left
  · intro W hSw
    try dsimp only at hSw
    go_simp
    try with_reducible rfl
  try simp only [List.setIfInBounds_toArray, List.set_cons_zero, List.set_cons_succ]
  refine take_do (i := 1) (d := 42) (v := ?_) rfl rfl (by kernel_rfl) (by kernel_rfl) (by kernel_rfl) (fun _ _ _ h => h) rfl ?_ (by assumption) ?_
  rotate_left
  · intro W hSw
    try dsimp only at hSw
    go_simp
    try with_reducible rfl
  try simp only [List.setIfInBounds_toArray, List.set_cons_zero, List.set_cons_succ]
  refine take_do (i := 2) (d := 43) (v := ?_) rfl rfl (by kernel_rfl) (by kernel_rfl) (by kernel_rfl) (fun _ _ _ h => h) rfl ?_ (by assumption) ?_
  rotate_left
  · intro W hSw
    try dsimp only at hSw
    go_simp
    try with_reducible rfl
  try simp only [List.setIfInBounds_toArray, List.set_cons_zero, List.set_cons_succ]
  refine take_do (i := 3) (d := 44) (v := ?_) rfl rfl (by kernel_rfl) (by kernel_rfl) (by kernel_rfl) (fun _ _ _ h => h) rfl ?_ (by assumption) ?_
  rotate_left
  · intro W hSw
    try dsimp only at hSw
    go_simp
    try with_reducible rfl
  try simp only [List.setIfInBounds_toArray, List.set_cons_zero, List.set_cons_succ]
  refine take_do (i := 4) (d := 45) (v := ?_) rfl rfl (by kernel_rfl) (by kernel_rfl) (by kernel_rfl) (fun _ _ _ h => h) rfl ?_ (by assumption) ?_
  rotate_left
  · intro W hSw
    try dsimp only at hSw
    go_simp
    try with_reducible rfl
  try simp only [List.setIfInBounds_toArray, List.set_cons_zero, List.set_cons_succ]
  refine take_do (i := 7) (d := 48) (v := ?_) rfl rfl (by kernel_rfl) (by kernel_rfl) (by kernel_rfl) (fun _ _ _ h => h) rfl ?_ (by assumption) ?_
  rotate_left
  · intro W hSw
    try dsimp only at hSw
    go_simp
    try with_reducible rfl
  try simp only [List.setIfInBounds_toArray, List.set_cons_zero, List.set_cons_succ]
  refine take_do (i := 8) (d := 49) (v := vx) rfl rfl (by kernel_rfl) (by kernel_rfl) (by kernel_rfl) (fun _ _ _ h => h) rfl ?_ (by assumption) ?_
  · intro W hSw
    try dsimp only at hSw
    go_simp
    rw [HVX.out]
  try simp only [List.setIfInBounds_toArray, List.set_cons_zero, List.set_cons_succ]
  refine wpAnyH_ready (rs := [5]) (by kernel_rfl) (by simp) ?_
  refine AllReadyH.cons rfl (fun K hK => ?_) AllReadyH.nil
  rw [if_pos (by kernel_rfl)]
  refine wp_build_str (.tmp 45) rfl x rfl ?_
  refine hK.out _ _ (HS.out _ (HD.out.alloc _)) (fun hHeld => ?_)
  clear hK K
  try simp only [Act.put, List.setIfInBounds_toArray, List.set_cons_zero, List.set_cons_succ]
  refine wpAnyH_ready (rs := [6]) (by kernel_rfl) (by simp) ?_
  refine AllReadyH.cons rfl (fun K hK => ?_) AllReadyH.nil
  rw [if_pos (by kernel_rfl)]
  refine wp_append_way skOk _ (.tmp 42) (.tmp 46) rfl base (.slice au u.length cu) u x rfl HUA.out w.heap.size 1 rfl (heap_new _ _) HBA.out (by omega) (fun v' w2 hw2 hg2 hs2 => ?_)
  have HW2 := hide hw2
  have HG2 := hide hg2
  have HS2 := hide hs2
  have HK2 : Hid (Kp (fun k => base ≤ k) w w2) := (HD.out.alloc _).grown hg2 (fun j e => .inl (HU.out.lt e).1)
  clear hw2 hg2 hs2
  refine hK.out _ _ (HS.out _ HK2.out) (fun hHeld => ?_)
  clear hK K
  try simp only [Act.put, List.setIfInBounds_toArray, List.set_cons_zero, List.set_cons_succ]
  refine wpAnyH_ready (rs := [9]) (by kernel_rfl) (by simp) ?_
  refine AllReadyH.cons rfl (fun K hK => ?_) AllReadyH.nil
  rw [if_pos (by kernel_rfl)]
  go_wp2_with fail
  refine (IH.out w2 base _ _ _ (Nat.le_trans hb HK2.out.size) (HA.out.kp HK2.out (fun k h => h)) HW2.out (HX.out.kp HK2.out (fun k h => h))).mono ?_
  rintro e w3 ⟨rfl, hu3, hk3⟩
  obtain ⟨q1, q2⟩ := fa_push HUD.out HG2.out HS2.out hu3 hk3
  have HQ := hide (And.intro q1 ((Kp.ofBelow (S := fun k => (Value.slice au u.length cu).ownBlock = some k) (Below.refl _ w).drew).trans q2))
  have HK3 : Hid (Kp (fun k => base ≤ k) w w3) := HK2.out.transN hk3 (fun k e => .inl (hu3.lt e).1)
  clear hu3 hk3 q1 q2
  refine hK.out _ _ (HS.out _ HK3.out) (fun hHeld => ?_)
  clear hK K
  try simp only [Act.put, List.setIfInBounds_toArray, List.set_cons_zero, List.set_cons_succ]
  refine take_do (i := 10) (d := 6) (v := ?_) rfl rfl (by kernel_rfl) (by kernel_rfl) (by kernel_rfl) (fun _ _ _ h => h) rfl ?_ (by assumption) ?_
  rotate_left
  · intro W hSw
    try dsimp only at hSw
    go_simp
    try with_reducible rfl
  try simp only [List.setIfInBounds_toArray, List.set_cons_zero, List.set_cons_succ]
  refine wpAnyH_done (by kernel_rfl) ?_ _
  go_wp2
  go_ret
  exact ⟨by rw [HF.out]; rfl, HQ.out.1, HQ.out.2⟩
theorem fa_any : ∀ (n : Nat) (a u b : List ByteArray), (9 - u.length) + b.length ≤ n → u.length ≤ 9 → FaOk a u b := by
  intro n
  induction n with
  | zero =>
    intro a u b hn hu
    exact fa_long (by omega) hu
  | succ n ih =>
    intro a u b hn hu
    by_cases h8 : 8 < u.length
    · exact fa_long h8 hu
    · have h8' : u.length ≤ 8 := by omega
      cases b with
      | nil =>
        cases u with
        | nil => exact fa_end0
        | cons y ys => exact fa_end h8' (by simp)
      | cons x xs =>
        rw [List.length_cons] at hn
        by_cases h1 : x = bHash
        · exact fa_hashOk h1 h8' (ih a u xs (by omega) hu) (ih a (u ++ [bStar]) (x :: xs) (by simp; omega) (by simp; omega))
        · exact fa_oneOk h1 h8' (ih a (u ++ [x]) xs (by simp; omega) (by simp; omega))
theorem fa_ok (a b : List ByteArray) : FaOk a [] b := fa_any _ a [] b (Nat.le_refl _) (by simp)
end Go.Proofs.YtmanfakdbmlfeaaDoor
