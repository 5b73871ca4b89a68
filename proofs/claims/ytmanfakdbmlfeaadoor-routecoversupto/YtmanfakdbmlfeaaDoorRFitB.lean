
/- Stage 18: can the parts be laid over the words? The program's: a word, a star. -/
import Derived.Test.YtmanfakdbmlfeaaDoorRFit
import Derived.Deep.RegionHeldLaw
namespace Go.Proofs.YtmanfakdbmlfeaaDoor
open Go.RowKit
set_option linter.unusedVariables false
set_option linter.unusedSimpArgs false
theorem take_skip {P : Program} {md : Region.Mode} {ops : Array Oper} {Q : Exit → Act → World → Prop} {S : World → Prop} {i d j : Nat} {b : Bool} {oi : Oper} {fuel : Nat} {listed : Array Bool} {tmps : Array Value} {df : List Deferred} {w : World} (hi : ops[i]? = some oi) (hd : oi.dst = some d)
    (hs : Region.noSelect ops = true) (hf : Region.free md ops listed i = true) (hr : (Region.ready md ops listed).contains i = true)
    (hQ : ∀ c a w, Q (.panic c) (a.put (some d) undef) w → Q (.panic c) a w) (hg : oi.guard = some (j, b)) (hy : yielded ops tmps j = some (!b)) (hS : S w)
    (h : wpAnyH P md ops Q S fuel (listed.setIfInBounds i true) ⟨tmps.setIfInBounds d undef, df⟩ w) : wpAnyH P md ops Q S (fuel + 1) listed ⟨tmps, df⟩ w :=
  wpAnyH_take hi hs hf hr (by rw [hd]; exact hQ) (.inr ⟨by unfold Region.wanted; rw [hg]; show (yielded ops tmps j == some b) = false; rw [hy]; cases b <;> rfl, rfl⟩) hS (by rw [hd]; exact h)
theorem take_do {P : Program} {md : Region.Mode} {ops : Array Oper} {Q : Exit → Act → World → Prop} {S : World → Prop} {i d : Nat} {v : Value} {oi : Oper} {fuel : Nat} {listed : Array Bool} {tmps : Array Value} {df : List Deferred} {w : World} (hi : ops[i]? = some oi) (hd : oi.dst = some d)
    (hs : Region.noSelect ops = true) (hf : Region.free md ops listed i = true) (hr : (Region.ready md ops listed).contains i = true)
    (hQ : ∀ c a w, Q (.panic c) (a.put (some d) v) w → Q (.panic c) a w) (hg : oi.guard = none) (hy : ∀ w, S w → (execOp (Act.eval ⟨tmps, df⟩) oi).run P w = .ok (.value v) w) (hS : S w)
    (h : wpAnyH P md ops Q S fuel (listed.setIfInBounds i true) ⟨tmps.setIfInBounds d v, df⟩ w) : wpAnyH P md ops Q S (fuel + 1) listed ⟨tmps, df⟩ w :=
  wpAnyH_take hi hs hf hr (by rw [hd]; exact hQ) (.inl ⟨by unfold Region.wanted; rw [hg], hy⟩) hS (by rw [hd]; exact h)
theorem take_wanted {P : Program} {md : Region.Mode} {ops : Array Oper} {Q : Exit → Act → World → Prop} {S : World → Prop} {i d : Nat} {v : Value} {oi : Oper} {fuel : Nat} {listed : Array Bool} {tmps : Array Value} {df : List Deferred} {w : World} (hi : ops[i]? = some oi) (hd : oi.dst = some d)
    (hs : Region.noSelect ops = true) (hf : Region.free md ops listed i = true) (hr : (Region.ready md ops listed).contains i = true)
    (hQ : ∀ c a w, Q (.panic c) (a.put (some d) v) w → Q (.panic c) a w) (hg : Region.wanted oi (yielded ops tmps) = true) (hy : ∀ w, S w → (execOp (Act.eval ⟨tmps, df⟩) oi).run P w = .ok (.value v) w) (hS : S w)
    (h : wpAnyH P md ops Q S fuel (listed.setIfInBounds i true) ⟨tmps.setIfInBounds d v, df⟩ w) : wpAnyH P md ops Q S (fuel + 1) listed ⟨tmps, df⟩ w :=
  wpAnyH_take hi hs hf hr (by rw [hd]; exact hQ) (.inl ⟨hg, hy⟩) hS (by rw [hd]; exact h)
theorem Tl.tailI {w : World} {g o c : Nat} {x : ByteArray} {l : List ByteArray} (h1 : l.length + 1 ≤ c) (h3 : c ≤ maxLen) (h : Tx w g o (x :: l)) (w1 : World) (hb : Below w.heap.size w w1) : Tl w1 (.slice (if c = 1 then some ⟨g, o, none⟩ else some ⟨g, o + 1, none⟩) l.length (c - 1)) l := by
  by_cases e : c = 1
  · rw [if_pos e, show c - 1 = 0 by omega]
    exact (Tl.tail0 h1 h (by omega)).keep hb
  · rw [if_neg e]
    exact (Tl.tail1 h1 h3 h).keep hb
set_option maxHeartbeats 2000000 in
theorem fits_one_star {x : ByteArray} (xs : List ByteArray) (y : ByteArray) (ys : List ByteArray) (h1 : x ≠ bHash) (h2 : x = bStar) (IH : Hid (FitOk xs ys)) : FitOk (x :: xs) (y :: ys) := by
  intro w vp vt hp ht
  obtain ⟨g, o, c, rfl, hc, hc9, hx⟩ := hp
  obtain ⟨g', o', c', rfl, hc', hc9', hx'⟩ := ht
  have hcell := hx.2 0 x rfl
  rw [Nat.add_zero] at hcell
  have hcell' := hx'.2 0 y rfl
  rw [Nat.add_zero] at hcell'
  have hlt := hx.1
  have hlt' := hx'.1
  rw [List.length_cons] at hc hc' ⊢
  have HX : Hid (Tl w.drew (.slice (if c = 1 then some ⟨g, o, none⟩ else some ⟨g, o + 1, none⟩) xs.length (c - 1)) xs) := Tl.tailI hc hc9 hx _ (Below.refl _ _).drew
  have HY : Hid (Tl w.drew (.slice (if c' = 1 then some ⟨g', o', none⟩ else some ⟨g', o' + 1, none⟩) ys.length (c' - 1)) ys) := Tl.tailI hc' hc9' hx' _ (Below.refl _ _).drew
  obtain ⟨vx, hvx⟩ : ∃ v, v = Value.slice (if c = 1 then some ⟨g, o, none⟩ else some ⟨g, o + 1, none⟩) xs.length (c - 1) := ⟨_, rfl⟩
  obtain ⟨vy, hvy⟩ : ∃ v, v = Value.slice (if c' = 1 then some ⟨g', o', none⟩ else some ⟨g', o' + 1, none⟩) ys.length (c' - 1) := ⟨_, rfl⟩
  rw [← hvx] at HX
  rw [← hvy] at HY
  have HVX := hide hvx
  have HVY := hide hvy
  clear hvx hvy
  have hz1 : (1 : Int) ≤ (xs.length : Int) + 1 := by omega
  have hz2 : (1 : Int) ≤ (ys.length : Int) + 1 := by omega
  clear hx hx'
  have e1 : (x.toList == [35]) = false := by rw [hash_eq]; simpa using h1
  have HF : Hid (fitP (x :: xs) (y :: ys) = ((decide (x = bStar) || decide (x = y)) && fitP xs ys)) := fit_one_cons h1 xs y ys
  clear h1
  have HD : Hid (Below w.heap.size w w.drew) := (Below.refl _ _).drew
  have HR : Hid (∀ vx vy, Tl w.drew vx xs → Tl w.drew vy ys → Calls Tryd.prog 23 #[vx, vy] w.drew fun e w' => e = .returned (.bool (fitP xs ys)) ∧ Below w.heap.size w w') := fun vx vy h2 h3 =>
    (IH.out w.drew vx vy h2 h3).mono fun e w' ⟨q1, q2⟩ => ⟨q1, belOn (Below.refl _ _).drew (Nat.le_refl _) q2⟩
  have HS : Hid (∀ w', Below w.heap.size w w' → w'.cell? ⟨g, o, none⟩ = some (.string x) ∧ w'.cell? ⟨g', o', none⟩ = some (.string y)) := fun w' hb =>
    ⟨(World.cell?_of_block (a := ⟨g, o, none⟩) (hb.block g hlt)).trans hcell, (World.cell?_of_block (a := ⟨g', o', none⟩) (hb.block g' hlt')).trans hcell'⟩
  have HS0 : Hid (w.drew.cell? ⟨g, o, none⟩ = some (.string x) ∧ w.drew.cell? ⟨g', o', none⟩ = some (.string y)) := ⟨hcell, hcell'⟩
  clear IH
  have e2 : (x.toList == [42]) = true := by rw [star_eq]; simpa using h2
  have HF2 : Hid (fitP (x :: xs) (y :: ys) = fitP xs ys) := by
    have := HF.out
    rw [decide_eq_true h2, Bool.true_or, Bool.true_and] at this
    exact this
  clear HF h2
  go_enter Tryd.func23, Tryd.ntmps23
  go_wp2_with fail
  refine wp_region_held_drew (S := fun W => W.cell? ⟨g, o, none⟩ = some (.string x) ∧ W.cell? ⟨g', o', none⟩ = some (.string y)) (by kernel_rfl) HS0.out (fun hHeld => ?_)
  refine take_do (i := 0) (d := 36) (v := ?_) rfl rfl (by kernel_rfl) (by kernel_rfl) (by kernel_rfl) (fun _ _ _ h => h) rfl ?_ (by assumption) ?_
  rotate_left
  · intro W hSw
    try dsimp only at hSw
    go_simp
    try with_reducible rfl
  try simp only [List.setIfInBounds_toArray, List.set_cons_zero, List.set_cons_succ]
  refine take_do (i := 1) (d := 37) (v := ?_) rfl rfl (by kernel_rfl) (by kernel_rfl) (by kernel_rfl) (fun _ _ _ h => h) rfl ?_ (by assumption) ?_
  rotate_left
  · intro W hSw
    try dsimp only at hSw
    go_simp
    try with_reducible rfl
  try simp only [List.setIfInBounds_toArray, List.set_cons_zero, List.set_cons_succ]
  refine take_do (i := 2) (d := 38) (v := ?_) rfl rfl (by kernel_rfl) (by kernel_rfl) (by kernel_rfl) (fun _ _ _ h => h) rfl ?_ (by assumption) ?_
  rotate_left
  · intro W hSw
    try dsimp only at hSw
    go_simp
    try with_reducible rfl
  try simp only [List.setIfInBounds_toArray, List.set_cons_zero, List.set_cons_succ]
  refine take_do (i := 3) (d := 39) (v := ?_) rfl rfl (by kernel_rfl) (by kernel_rfl) (by kernel_rfl) (fun _ _ _ h => h) rfl ?_ (by assumption) ?_
  rotate_left
  · intro W hSw
    try dsimp only at hSw
    go_simp
    try with_reducible rfl
  try simp only [List.setIfInBounds_toArray, List.set_cons_zero, List.set_cons_succ]
  refine take_do (i := 4) (d := 40) (v := ?_) rfl rfl (by kernel_rfl) (by kernel_rfl) (by kernel_rfl) (fun _ _ _ h => h) rfl ?_ (by assumption) ?_
  rotate_left
  · intro W hSw
    try dsimp only at hSw
    go_simp
    try with_reducible rfl
  try simp only [List.setIfInBounds_toArray, List.set_cons_zero, List.set_cons_succ]
  refine take_skip (i := 5) (d := 41) (j := 4) (b := false) rfl rfl (by kernel_rfl) (by kernel_rfl) (by kernel_rfl) (fun _ _ _ h => h) rfl rfl (by assumption) ?_
  try simp only [List.setIfInBounds_toArray, List.set_cons_zero, List.set_cons_succ]
  refine take_skip (i := 6) (d := 42) (j := 4) (b := false) rfl rfl (by kernel_rfl) (by kernel_rfl) (by kernel_rfl) (fun _ _ _ h => h) rfl rfl (by assumption) ?_
  try simp only [List.setIfInBounds_toArray, List.set_cons_zero, List.set_cons_succ]
  refine take_skip (i := 7) (d := 43) (j := 4) (b := false) rfl rfl (by kernel_rfl) (by kernel_rfl) (by kernel_rfl) (fun _ _ _ h => h) rfl rfl (by assumption) ?_
  try simp only [List.setIfInBounds_toArray, List.set_cons_zero, List.set_cons_succ]
  refine take_skip (i := 8) (d := 44) (j := 4) (b := false) rfl rfl (by kernel_rfl) (by kernel_rfl) (by kernel_rfl) (fun _ _ _ h => h) rfl rfl (by assumption) ?_
  try simp only [List.setIfInBounds_toArray, List.set_cons_zero, List.set_cons_succ]
  refine take_skip (i := 9) (d := 45) (j := 4) (b := false) rfl rfl (by kernel_rfl) (by kernel_rfl) (by kernel_rfl) (fun _ _ _ h => h) rfl rfl (by assumption) ?_
  try simp only [List.setIfInBounds_toArray, List.set_cons_zero, List.set_cons_succ]
  refine take_skip (i := 10) (d := 46) (j := 4) (b := false) rfl rfl (by kernel_rfl) (by kernel_rfl) (by kernel_rfl) (fun _ _ _ h => h) rfl rfl (by assumption) ?_
  try simp only [List.setIfInBounds_toArray, List.set_cons_zero, List.set_cons_succ]
  refine take_skip (i := 11) (d := 47) (j := 4) (b := false) rfl rfl (by kernel_rfl) (by kernel_rfl) (by kernel_rfl) (fun _ _ _ h => h) rfl rfl (by assumption) ?_
  try simp only [List.setIfInBounds_toArray, List.set_cons_zero, List.set_cons_succ]
  refine take_do (i := 12) (d := 48) (v := ?_) rfl rfl (by kernel_rfl) (by kernel_rfl) (by kernel_rfl) (fun _ _ _ h => h) rfl ?_ (by assumption) ?_
  rotate_left
  · intro W hSw
    try dsimp only at hSw
    go_simp
    try with_reducible rfl
  try simp only [List.setIfInBounds_toArray, List.set_cons_zero, List.set_cons_succ]
  refine take_do (i := 13) (d := 49) (v := ?_) rfl rfl (by kernel_rfl) (by kernel_rfl) (by kernel_rfl) (fun _ _ _ h => h) rfl ?_ (by assumption) ?_
  rotate_left
  · intro W hSw
    try dsimp only at hSw
    go_simp
    try with_reducible rfl
  try simp only [List.setIfInBounds_toArray, List.set_cons_zero, List.set_cons_succ]
  refine take_wanted (i := 14) (d := 50) (v := ?_) rfl rfl (by kernel_rfl) (by kernel_rfl) (by kernel_rfl) (fun _ _ _ h => h) (by first | rfl | kernel_rfl) ?_ (by assumption) ?_
  rotate_left
  · intro W hSw
    try dsimp only at hSw
    go_simp
    try with_reducible rfl
  try simp only [List.setIfInBounds_toArray, List.set_cons_zero, List.set_cons_succ]
  refine take_wanted (i := 15) (d := 51) (v := vx) rfl rfl (by kernel_rfl) (by kernel_rfl) (by kernel_rfl) (fun _ _ _ h => h) (by first | rfl | kernel_rfl) ?_ (by assumption) ?_
  · intro W hSw
    try dsimp only at hSw
    go_simp
    rw [HVX.out]
  try simp only [List.setIfInBounds_toArray, List.set_cons_zero, List.set_cons_succ]
  refine take_wanted (i := 16) (d := 52) (v := ?_) rfl rfl (by kernel_rfl) (by kernel_rfl) (by kernel_rfl) (fun _ _ _ h => h) (by first | rfl | kernel_rfl) ?_ (by assumption) ?_
  rotate_left
  · intro W hSw
    try dsimp only at hSw
    go_simp
    try with_reducible rfl
  try simp only [List.setIfInBounds_toArray, List.set_cons_zero, List.set_cons_succ]
  refine take_wanted (i := 17) (d := 53) (v := vy) rfl rfl (by kernel_rfl) (by kernel_rfl) (by kernel_rfl) (fun _ _ _ h => h) (by first | rfl | kernel_rfl) ?_ (by assumption) ?_
  · intro W hSw
    try dsimp only at hSw
    go_simp
    rw [HVY.out]
  try simp only [List.setIfInBounds_toArray, List.set_cons_zero, List.set_cons_succ]
  refine wpAnyH_ready (rs := [18]) (by kernel_rfl) (by simp) ?_
  refine AllReadyH.cons rfl (fun K hK => ?_) AllReadyH.nil
  rw [if_pos (by kernel_rfl)]
  go_wp2_with fail
  refine Calls.mono (HR.out _ _ HX.out HY.out) ?_
  rintro e w1 ⟨rfl, hb1⟩
  refine hK.out _ _ (HS.out w1 hb1) (fun hHeld => ?_)
  clear hK K
  try simp only [Act.put, List.setIfInBounds_toArray, List.set_cons_zero, List.set_cons_succ]
  refine take_do (i := 19) (d := 55) (v := ?_) rfl rfl (by kernel_rfl) (by kernel_rfl) (by kernel_rfl) (fun _ _ _ h => h) rfl ?_ (by assumption) ?_
  rotate_left
  · intro W hSw
    try dsimp only at hSw
    go_simp
    try with_reducible rfl
  try simp only [List.setIfInBounds_toArray, List.set_cons_zero, List.set_cons_succ]
  refine take_do (i := 20) (d := 4) (v := ?_) rfl rfl (by kernel_rfl) (by kernel_rfl) (by kernel_rfl) (fun _ _ _ h => h) rfl ?_ (by assumption) ?_
  rotate_left
  · intro W hSw
    try dsimp only at hSw
    go_simp
    try with_reducible rfl
  try simp only [List.setIfInBounds_toArray, List.set_cons_zero, List.set_cons_succ]
  refine wpAnyH_done (by kernel_rfl) ?_ _
  go_wp2
  go_ret
  exact ⟨by rw [HF2.out]; rfl, hb1⟩
set_option maxHeartbeats 2000000 in
theorem fits_one_same {x : ByteArray} (xs : List ByteArray) (y : ByteArray) (ys : List ByteArray) (h1 : x ≠ bHash) (h2 : x ≠ bStar) (h3 : x = y) (IH : Hid (FitOk xs ys)) : FitOk (x :: xs) (y :: ys) := by
  intro w vp vt hp ht
  obtain ⟨g, o, c, rfl, hc, hc9, hx⟩ := hp
  obtain ⟨g', o', c', rfl, hc', hc9', hx'⟩ := ht
  have hcell := hx.2 0 x rfl
  rw [Nat.add_zero] at hcell
  have hcell' := hx'.2 0 y rfl
  rw [Nat.add_zero] at hcell'
  have hlt := hx.1
  have hlt' := hx'.1
  rw [List.length_cons] at hc hc' ⊢
  have HX : Hid (Tl w.drew (.slice (if c = 1 then some ⟨g, o, none⟩ else some ⟨g, o + 1, none⟩) xs.length (c - 1)) xs) := Tl.tailI hc hc9 hx _ (Below.refl _ _).drew
  have HY : Hid (Tl w.drew (.slice (if c' = 1 then some ⟨g', o', none⟩ else some ⟨g', o' + 1, none⟩) ys.length (c' - 1)) ys) := Tl.tailI hc' hc9' hx' _ (Below.refl _ _).drew
  obtain ⟨vx, hvx⟩ : ∃ v, v = Value.slice (if c = 1 then some ⟨g, o, none⟩ else some ⟨g, o + 1, none⟩) xs.length (c - 1) := ⟨_, rfl⟩
  obtain ⟨vy, hvy⟩ : ∃ v, v = Value.slice (if c' = 1 then some ⟨g', o', none⟩ else some ⟨g', o' + 1, none⟩) ys.length (c' - 1) := ⟨_, rfl⟩
  rw [← hvx] at HX
  rw [← hvy] at HY
  have HVX := hide hvx
  have HVY := hide hvy
  clear hvx hvy
  have hz1 : (1 : Int) ≤ (xs.length : Int) + 1 := by omega
  have hz2 : (1 : Int) ≤ (ys.length : Int) + 1 := by omega
  clear hx hx'
  have e1 : (x.toList == [35]) = false := by rw [hash_eq]; simpa using h1
  have HF : Hid (fitP (x :: xs) (y :: ys) = ((decide (x = bStar) || decide (x = y)) && fitP xs ys)) := fit_one_cons h1 xs y ys
  clear h1
  have HD : Hid (Below w.heap.size w w.drew) := (Below.refl _ _).drew
  have HR : Hid (∀ vx vy, Tl w.drew vx xs → Tl w.drew vy ys → Calls Tryd.prog 23 #[vx, vy] w.drew fun e w' => e = .returned (.bool (fitP xs ys)) ∧ Below w.heap.size w w') := fun vx vy h2 h3 =>
    (IH.out w.drew vx vy h2 h3).mono fun e w' ⟨q1, q2⟩ => ⟨q1, belOn (Below.refl _ _).drew (Nat.le_refl _) q2⟩
  have HS : Hid (∀ w', Below w.heap.size w w' → w'.cell? ⟨g, o, none⟩ = some (.string x) ∧ w'.cell? ⟨g', o', none⟩ = some (.string y)) := fun w' hb =>
    ⟨(World.cell?_of_block (a := ⟨g, o, none⟩) (hb.block g hlt)).trans hcell, (World.cell?_of_block (a := ⟨g', o', none⟩) (hb.block g' hlt')).trans hcell'⟩
  have HS0 : Hid (w.drew.cell? ⟨g, o, none⟩ = some (.string x) ∧ w.drew.cell? ⟨g', o', none⟩ = some (.string y)) := ⟨hcell, hcell'⟩
  clear IH
  have e2 : (x.toList == [42]) = false := by rw [star_eq]; simpa using h2
  have e3 : (x.toList == y.toList) = true := by rw [str_eq]; simpa using h3
  have HF2 : Hid (fitP (x :: xs) (y :: ys) = fitP xs ys) := by
    have := HF.out
    rw [decide_eq_true h3, Bool.or_true, Bool.true_and] at this
    exact this
  clear HF h2 h3
  go_enter Tryd.func23, Tryd.ntmps23
  go_wp2_with fail
  refine wp_region_held_drew (S := fun W => W.cell? ⟨g, o, none⟩ = some (.string x) ∧ W.cell? ⟨g', o', none⟩ = some (.string y)) (by kernel_rfl) HS0.out (fun hHeld => ?_)
  refine take_do (i := 0) (d := 36) (v := ?_) rfl rfl (by kernel_rfl) (by kernel_rfl) (by kernel_rfl) (fun _ _ _ h => h) rfl ?_ (by assumption) ?_
  rotate_left
  · intro W hSw
    try dsimp only at hSw
    go_simp
    try with_reducible rfl
  try simp only [List.setIfInBounds_toArray, List.set_cons_zero, List.set_cons_succ]
  refine take_do (i := 1) (d := 37) (v := ?_) rfl rfl (by kernel_rfl) (by kernel_rfl) (by kernel_rfl) (fun _ _ _ h => h) rfl ?_ (by assumption) ?_
  rotate_left
  · intro W hSw
    try dsimp only at hSw
    go_simp
    try with_reducible rfl
  try simp only [List.setIfInBounds_toArray, List.set_cons_zero, List.set_cons_succ]
  refine take_do (i := 2) (d := 38) (v := ?_) rfl rfl (by kernel_rfl) (by kernel_rfl) (by kernel_rfl) (fun _ _ _ h => h) rfl ?_ (by assumption) ?_
  rotate_left
  · intro W hSw
    try dsimp only at hSw
    go_simp
    try with_reducible rfl
  try simp only [List.setIfInBounds_toArray, List.set_cons_zero, List.set_cons_succ]
  refine take_do (i := 3) (d := 39) (v := ?_) rfl rfl (by kernel_rfl) (by kernel_rfl) (by kernel_rfl) (fun _ _ _ h => h) rfl ?_ (by assumption) ?_
  rotate_left
  · intro W hSw
    try dsimp only at hSw
    go_simp
    try with_reducible rfl
  try simp only [List.setIfInBounds_toArray, List.set_cons_zero, List.set_cons_succ]
  refine take_do (i := 4) (d := 40) (v := ?_) rfl rfl (by kernel_rfl) (by kernel_rfl) (by kernel_rfl) (fun _ _ _ h => h) rfl ?_ (by assumption) ?_
  rotate_left
  · intro W hSw
    try dsimp only at hSw
    go_simp
    try with_reducible rfl
  try simp only [List.setIfInBounds_toArray, List.set_cons_zero, List.set_cons_succ]
  refine take_wanted (i := 5) (d := 41) (v := ?_) rfl rfl (by kernel_rfl) (by kernel_rfl) (by kernel_rfl) (fun _ _ _ h => h) (by first | rfl | kernel_rfl) ?_ (by assumption) ?_
  rotate_left
  · intro W hSw
    try dsimp only at hSw
    go_simp
    try with_reducible rfl
  try simp only [List.setIfInBounds_toArray, List.set_cons_zero, List.set_cons_succ]
  refine take_wanted (i := 6) (d := 42) (v := ?_) rfl rfl (by kernel_rfl) (by kernel_rfl) (by kernel_rfl) (fun _ _ _ h => h) (by first | rfl | kernel_rfl) ?_ (by assumption) ?_
  rotate_left
  · intro W hSw
    try dsimp only at hSw
    go_simp
    try with_reducible rfl
  try simp only [List.setIfInBounds_toArray, List.set_cons_zero, List.set_cons_succ]
  refine take_wanted (i := 7) (d := 43) (v := ?_) rfl rfl (by kernel_rfl) (by kernel_rfl) (by kernel_rfl) (fun _ _ _ h => h) (by first | rfl | kernel_rfl) ?_ (by assumption) ?_
  rotate_left
  · intro W hSw
    try dsimp only at hSw
    go_simp
    try with_reducible rfl
  try simp only [List.setIfInBounds_toArray, List.set_cons_zero, List.set_cons_succ]
  refine take_wanted (i := 8) (d := 44) (v := ?_) rfl rfl (by kernel_rfl) (by kernel_rfl) (by kernel_rfl) (fun _ _ _ h => h) (by first | rfl | kernel_rfl) ?_ (by assumption) ?_
  rotate_left
  · intro W hSw
    try dsimp only at hSw
    go_simp
    try with_reducible rfl
  try simp only [List.setIfInBounds_toArray, List.set_cons_zero, List.set_cons_succ]
  refine take_wanted (i := 9) (d := 45) (v := ?_) rfl rfl (by kernel_rfl) (by kernel_rfl) (by kernel_rfl) (fun _ _ _ h => h) (by first | rfl | kernel_rfl) ?_ (by assumption) ?_
  rotate_left
  · intro W hSw
    try dsimp only at hSw
    go_simp
    try with_reducible rfl
  try simp only [List.setIfInBounds_toArray, List.set_cons_zero, List.set_cons_succ]
  refine take_wanted (i := 10) (d := 46) (v := ?_) rfl rfl (by kernel_rfl) (by kernel_rfl) (by kernel_rfl) (fun _ _ _ h => h) (by first | rfl | kernel_rfl) ?_ (by assumption) ?_
  rotate_left
  · intro W hSw
    try dsimp only at hSw
    go_simp
    try with_reducible rfl
  try simp only [List.setIfInBounds_toArray, List.set_cons_zero, List.set_cons_succ]
  refine take_wanted (i := 11) (d := 47) (v := ?_) rfl rfl (by kernel_rfl) (by kernel_rfl) (by kernel_rfl) (fun _ _ _ h => h) (by first | rfl | kernel_rfl) ?_ (by assumption) ?_
  rotate_left
  · intro W hSw
    try dsimp only at hSw
    go_simp
    try with_reducible rfl
  try simp only [List.setIfInBounds_toArray, List.set_cons_zero, List.set_cons_succ]
  refine take_do (i := 12) (d := 48) (v := ?_) rfl rfl (by kernel_rfl) (by kernel_rfl) (by kernel_rfl) (fun _ _ _ h => h) rfl ?_ (by assumption) ?_
  rotate_left
  · intro W hSw
    try dsimp only at hSw
    go_simp
    try with_reducible rfl
  try simp only [List.setIfInBounds_toArray, List.set_cons_zero, List.set_cons_succ]
  refine take_do (i := 13) (d := 49) (v := ?_) rfl rfl (by kernel_rfl) (by kernel_rfl) (by kernel_rfl) (fun _ _ _ h => h) rfl ?_ (by assumption) ?_
  rotate_left
  · intro W hSw
    try dsimp only at hSw
    go_simp
    try with_reducible rfl
  try simp only [List.setIfInBounds_toArray, List.set_cons_zero, List.set_cons_succ]
  refine take_wanted (i := 14) (d := 50) (v := ?_) rfl rfl (by kernel_rfl) (by kernel_rfl) (by kernel_rfl) (fun _ _ _ h => h) (by first | rfl | kernel_rfl) ?_ (by assumption) ?_
  rotate_left
  · intro W hSw
    try dsimp only at hSw
    go_simp
    try with_reducible rfl
  try simp only [List.setIfInBounds_toArray, List.set_cons_zero, List.set_cons_succ]
  refine take_wanted (i := 15) (d := 51) (v := vx) rfl rfl (by kernel_rfl) (by kernel_rfl) (by kernel_rfl) (fun _ _ _ h => h) (by first | rfl | kernel_rfl) ?_ (by assumption) ?_
  · intro W hSw
    try dsimp only at hSw
    go_simp
    rw [HVX.out]
  try simp only [List.setIfInBounds_toArray, List.set_cons_zero, List.set_cons_succ]
  refine take_wanted (i := 16) (d := 52) (v := ?_) rfl rfl (by kernel_rfl) (by kernel_rfl) (by kernel_rfl) (fun _ _ _ h => h) (by first | rfl | kernel_rfl) ?_ (by assumption) ?_
  rotate_left
  · intro W hSw
    try dsimp only at hSw
    go_simp
    try with_reducible rfl
  try simp only [List.setIfInBounds_toArray, List.set_cons_zero, List.set_cons_succ]
  refine take_wanted (i := 17) (d := 53) (v := vy) rfl rfl (by kernel_rfl) (by kernel_rfl) (by kernel_rfl) (fun _ _ _ h => h) (by first | rfl | kernel_rfl) ?_ (by assumption) ?_
  · intro W hSw
    try dsimp only at hSw
    go_simp
    rw [HVY.out]
  try simp only [List.setIfInBounds_toArray, List.set_cons_zero, List.set_cons_succ]
  refine wpAnyH_ready (rs := [18]) (by kernel_rfl) (by simp) ?_
  refine AllReadyH.cons rfl (fun K hK => ?_) AllReadyH.nil
  rw [if_pos (by kernel_rfl)]
  go_wp2_with fail
  refine Calls.mono (HR.out _ _ HX.out HY.out) ?_
  rintro e w1 ⟨rfl, hb1⟩
  refine hK.out _ _ (HS.out w1 hb1) (fun hHeld => ?_)
  clear hK K
  try simp only [Act.put, List.setIfInBounds_toArray, List.set_cons_zero, List.set_cons_succ]
  refine take_do (i := 19) (d := 55) (v := ?_) rfl rfl (by kernel_rfl) (by kernel_rfl) (by kernel_rfl) (fun _ _ _ h => h) rfl ?_ (by assumption) ?_
  rotate_left
  · intro W hSw
    try dsimp only at hSw
    go_simp
    try with_reducible rfl
  try simp only [List.setIfInBounds_toArray, List.set_cons_zero, List.set_cons_succ]
  refine take_do (i := 20) (d := 4) (v := ?_) rfl rfl (by kernel_rfl) (by kernel_rfl) (by kernel_rfl) (fun _ _ _ h => h) rfl ?_ (by assumption) ?_
  rotate_left
  · intro W hSw
    try dsimp only at hSw
    go_simp
    try with_reducible rfl
  try simp only [List.setIfInBounds_toArray, List.set_cons_zero, List.set_cons_succ]
  refine wpAnyH_done (by kernel_rfl) ?_ _
  go_wp2
  go_ret
  exact ⟨by rw [HF2.out]; rfl, hb1⟩
set_option maxHeartbeats 2000000 in
theorem fits_one_diff {x : ByteArray} (xs : List ByteArray) (y : ByteArray) (ys : List ByteArray) (h1 : x ≠ bHash) (h2 : x ≠ bStar) (h3 : x ≠ y) (IH : Hid (FitOk xs ys)) : FitOk (x :: xs) (y :: ys) := by
  intro w vp vt hp ht
  obtain ⟨g, o, c, rfl, hc, hc9, hx⟩ := hp
  obtain ⟨g', o', c', rfl, hc', hc9', hx'⟩ := ht
  have hcell := hx.2 0 x rfl
  rw [Nat.add_zero] at hcell
  have hcell' := hx'.2 0 y rfl
  rw [Nat.add_zero] at hcell'
  have hlt := hx.1
  have hlt' := hx'.1
  rw [List.length_cons] at hc hc' ⊢
  have HX : Hid (Tl w.drew (.slice (if c = 1 then some ⟨g, o, none⟩ else some ⟨g, o + 1, none⟩) xs.length (c - 1)) xs) := Tl.tailI hc hc9 hx _ (Below.refl _ _).drew
  have HY : Hid (Tl w.drew (.slice (if c' = 1 then some ⟨g', o', none⟩ else some ⟨g', o' + 1, none⟩) ys.length (c' - 1)) ys) := Tl.tailI hc' hc9' hx' _ (Below.refl _ _).drew
  obtain ⟨vx, hvx⟩ : ∃ v, v = Value.slice (if c = 1 then some ⟨g, o, none⟩ else some ⟨g, o + 1, none⟩) xs.length (c - 1) := ⟨_, rfl⟩
  obtain ⟨vy, hvy⟩ : ∃ v, v = Value.slice (if c' = 1 then some ⟨g', o', none⟩ else some ⟨g', o' + 1, none⟩) ys.length (c' - 1) := ⟨_, rfl⟩
  rw [← hvx] at HX
  rw [← hvy] at HY
  have HVX := hide hvx
  have HVY := hide hvy
  clear hvx hvy
  have hz1 : (1 : Int) ≤ (xs.length : Int) + 1 := by omega
  have hz2 : (1 : Int) ≤ (ys.length : Int) + 1 := by omega
  clear hx hx'
  have e1 : (x.toList == [35]) = false := by rw [hash_eq]; simpa using h1
  have HF : Hid (fitP (x :: xs) (y :: ys) = ((decide (x = bStar) || decide (x = y)) && fitP xs ys)) := fit_one_cons h1 xs y ys
  clear h1
  have HD : Hid (Below w.heap.size w w.drew) := (Below.refl _ _).drew
  have HR : Hid (∀ vx vy, Tl w.drew vx xs → Tl w.drew vy ys → Calls Tryd.prog 23 #[vx, vy] w.drew fun e w' => e = .returned (.bool (fitP xs ys)) ∧ Below w.heap.size w w') := fun vx vy h2 h3 =>
    (IH.out w.drew vx vy h2 h3).mono fun e w' ⟨q1, q2⟩ => ⟨q1, belOn (Below.refl _ _).drew (Nat.le_refl _) q2⟩
  have HS : Hid (∀ w', Below w.heap.size w w' → w'.cell? ⟨g, o, none⟩ = some (.string x) ∧ w'.cell? ⟨g', o', none⟩ = some (.string y)) := fun w' hb =>
    ⟨(World.cell?_of_block (a := ⟨g, o, none⟩) (hb.block g hlt)).trans hcell, (World.cell?_of_block (a := ⟨g', o', none⟩) (hb.block g' hlt')).trans hcell'⟩
  have HS0 : Hid (w.drew.cell? ⟨g, o, none⟩ = some (.string x) ∧ w.drew.cell? ⟨g', o', none⟩ = some (.string y)) := ⟨hcell, hcell'⟩
  clear IH
  have e2 : (x.toList == [42]) = false := by rw [star_eq]; simpa using h2
  have e3 : (x.toList == y.toList) = false := by rw [str_eq]; simpa using h3
  have HF2 : Hid (fitP (x :: xs) (y :: ys) = false) := by
    have := HF.out
    rw [decide_eq_false h2, decide_eq_false h3, Bool.false_or, Bool.false_and] at this
    exact this
  clear HF h2 h3
  go_enter Tryd.func23, Tryd.ntmps23
  go_wp2_with fail
  refine wp_region_held_drew (S := fun W => W.cell? ⟨g, o, none⟩ = some (.string x) ∧ W.cell? ⟨g', o', none⟩ = some (.string y)) (by kernel_rfl) HS0.out (fun hHeld => ?_)
  refine take_do (i := 0) (d := 36) (v := ?_) rfl rfl (by kernel_rfl) (by kernel_rfl) (by kernel_rfl) (fun _ _ _ h => h) rfl ?_ (by assumption) ?_
  rotate_left
  · intro W hSw
    try dsimp only at hSw
    go_simp
    try with_reducible rfl
  try simp only [List.setIfInBounds_toArray, List.set_cons_zero, List.set_cons_succ]
  refine take_do (i := 1) (d := 37) (v := ?_) rfl rfl (by kernel_rfl) (by kernel_rfl) (by kernel_rfl) (fun _ _ _ h => h) rfl ?_ (by assumption) ?_
  rotate_left
  · intro W hSw
    try dsimp only at hSw
    go_simp
    try with_reducible rfl
  try simp only [List.setIfInBounds_toArray, List.set_cons_zero, List.set_cons_succ]
  refine take_do (i := 2) (d := 38) (v := ?_) rfl rfl (by kernel_rfl) (by kernel_rfl) (by kernel_rfl) (fun _ _ _ h => h) rfl ?_ (by assumption) ?_
  rotate_left
  · intro W hSw
    try dsimp only at hSw
    go_simp
    try with_reducible rfl
  try simp only [List.setIfInBounds_toArray, List.set_cons_zero, List.set_cons_succ]
  refine take_do (i := 3) (d := 39) (v := ?_) rfl rfl (by kernel_rfl) (by kernel_rfl) (by kernel_rfl) (fun _ _ _ h => h) rfl ?_ (by assumption) ?_
  rotate_left
  · intro W hSw
    try dsimp only at hSw
    go_simp
    try with_reducible rfl
  try simp only [List.setIfInBounds_toArray, List.set_cons_zero, List.set_cons_succ]
  refine take_do (i := 4) (d := 40) (v := ?_) rfl rfl (by kernel_rfl) (by kernel_rfl) (by kernel_rfl) (fun _ _ _ h => h) rfl ?_ (by assumption) ?_
  rotate_left
  · intro W hSw
    try dsimp only at hSw
    go_simp
    try with_reducible rfl
  try simp only [List.setIfInBounds_toArray, List.set_cons_zero, List.set_cons_succ]
  refine take_wanted (i := 5) (d := 41) (v := ?_) rfl rfl (by kernel_rfl) (by kernel_rfl) (by kernel_rfl) (fun _ _ _ h => h) (by first | rfl | kernel_rfl) ?_ (by assumption) ?_
  rotate_left
  · intro W hSw
    try dsimp only at hSw
    go_simp
    try with_reducible rfl
  try simp only [List.setIfInBounds_toArray, List.set_cons_zero, List.set_cons_succ]
  refine take_wanted (i := 6) (d := 42) (v := ?_) rfl rfl (by kernel_rfl) (by kernel_rfl) (by kernel_rfl) (fun _ _ _ h => h) (by first | rfl | kernel_rfl) ?_ (by assumption) ?_
  rotate_left
  · intro W hSw
    try dsimp only at hSw
    go_simp
    try with_reducible rfl
  try simp only [List.setIfInBounds_toArray, List.set_cons_zero, List.set_cons_succ]
  refine take_wanted (i := 7) (d := 43) (v := ?_) rfl rfl (by kernel_rfl) (by kernel_rfl) (by kernel_rfl) (fun _ _ _ h => h) (by first | rfl | kernel_rfl) ?_ (by assumption) ?_
  rotate_left
  · intro W hSw
    try dsimp only at hSw
    go_simp
    try with_reducible rfl
  try simp only [List.setIfInBounds_toArray, List.set_cons_zero, List.set_cons_succ]
  refine take_wanted (i := 8) (d := 44) (v := ?_) rfl rfl (by kernel_rfl) (by kernel_rfl) (by kernel_rfl) (fun _ _ _ h => h) (by first | rfl | kernel_rfl) ?_ (by assumption) ?_
  rotate_left
  · intro W hSw
    try dsimp only at hSw
    go_simp
    try with_reducible rfl
  try simp only [List.setIfInBounds_toArray, List.set_cons_zero, List.set_cons_succ]
  refine take_wanted (i := 9) (d := 45) (v := ?_) rfl rfl (by kernel_rfl) (by kernel_rfl) (by kernel_rfl) (fun _ _ _ h => h) (by first | rfl | kernel_rfl) ?_ (by assumption) ?_
  rotate_left
  · intro W hSw
    try dsimp only at hSw
    go_simp
    try with_reducible rfl
  try simp only [List.setIfInBounds_toArray, List.set_cons_zero, List.set_cons_succ]
  refine take_wanted (i := 10) (d := 46) (v := ?_) rfl rfl (by kernel_rfl) (by kernel_rfl) (by kernel_rfl) (fun _ _ _ h => h) (by first | rfl | kernel_rfl) ?_ (by assumption) ?_
  rotate_left
  · intro W hSw
    try dsimp only at hSw
    go_simp
    try with_reducible rfl
  try simp only [List.setIfInBounds_toArray, List.set_cons_zero, List.set_cons_succ]
  refine take_wanted (i := 11) (d := 47) (v := ?_) rfl rfl (by kernel_rfl) (by kernel_rfl) (by kernel_rfl) (fun _ _ _ h => h) (by first | rfl | kernel_rfl) ?_ (by assumption) ?_
  rotate_left
  · intro W hSw
    try dsimp only at hSw
    go_simp
    try with_reducible rfl
  try simp only [List.setIfInBounds_toArray, List.set_cons_zero, List.set_cons_succ]
  refine take_do (i := 12) (d := 48) (v := ?_) rfl rfl (by kernel_rfl) (by kernel_rfl) (by kernel_rfl) (fun _ _ _ h => h) rfl ?_ (by assumption) ?_
  rotate_left
  · intro W hSw
    try dsimp only at hSw
    go_simp
    try with_reducible rfl
  try simp only [List.setIfInBounds_toArray, List.set_cons_zero, List.set_cons_succ]
  refine take_do (i := 13) (d := 49) (v := ?_) rfl rfl (by kernel_rfl) (by kernel_rfl) (by kernel_rfl) (fun _ _ _ h => h) rfl ?_ (by assumption) ?_
  rotate_left
  · intro W hSw
    try dsimp only at hSw
    go_simp
    try with_reducible rfl
  try simp only [List.setIfInBounds_toArray, List.set_cons_zero, List.set_cons_succ]
  refine take_skip (i := 14) (d := 50) (j := 13) (b := true) rfl rfl (by kernel_rfl) (by kernel_rfl) (by kernel_rfl) (fun _ _ _ h => h) rfl rfl (by assumption) ?_
  try simp only [List.setIfInBounds_toArray, List.set_cons_zero, List.set_cons_succ]
  refine take_skip (i := 15) (d := 51) (j := 13) (b := true) rfl rfl (by kernel_rfl) (by kernel_rfl) (by kernel_rfl) (fun _ _ _ h => h) rfl rfl (by assumption) ?_
  try simp only [List.setIfInBounds_toArray, List.set_cons_zero, List.set_cons_succ]
  refine take_skip (i := 16) (d := 52) (j := 13) (b := true) rfl rfl (by kernel_rfl) (by kernel_rfl) (by kernel_rfl) (fun _ _ _ h => h) rfl rfl (by assumption) ?_
  try simp only [List.setIfInBounds_toArray, List.set_cons_zero, List.set_cons_succ]
  refine take_skip (i := 17) (d := 53) (j := 13) (b := true) rfl rfl (by kernel_rfl) (by kernel_rfl) (by kernel_rfl) (fun _ _ _ h => h) rfl rfl (by assumption) ?_
  try simp only [List.setIfInBounds_toArray, List.set_cons_zero, List.set_cons_succ]
  refine take_skip (i := 18) (d := 54) (j := 13) (b := true) rfl rfl (by kernel_rfl) (by kernel_rfl) (by kernel_rfl) (fun _ _ _ h => h) rfl rfl (by assumption) ?_
  try simp only [List.setIfInBounds_toArray, List.set_cons_zero, List.set_cons_succ]
  refine take_do (i := 19) (d := 55) (v := ?_) rfl rfl (by kernel_rfl) (by kernel_rfl) (by kernel_rfl) (fun _ _ _ h => h) rfl ?_ (by assumption) ?_
  rotate_left
  · intro W hSw
    try dsimp only at hSw
    go_simp
    try with_reducible rfl
  try simp only [List.setIfInBounds_toArray, List.set_cons_zero, List.set_cons_succ]
  refine take_do (i := 20) (d := 4) (v := ?_) rfl rfl (by kernel_rfl) (by kernel_rfl) (by kernel_rfl) (fun _ _ _ h => h) rfl ?_ (by assumption) ?_
  rotate_left
  · intro W hSw
    try dsimp only at hSw
    go_simp
    try with_reducible rfl
  try simp only [List.setIfInBounds_toArray, List.set_cons_zero, List.set_cons_succ]
  refine wpAnyH_done (by kernel_rfl) ?_ _
  go_wp2
  go_ret
  exact ⟨by rw [HF2.out]; rfl, HD.out⟩
end Go.Proofs.YtmanfakdbmlfeaaDoor
