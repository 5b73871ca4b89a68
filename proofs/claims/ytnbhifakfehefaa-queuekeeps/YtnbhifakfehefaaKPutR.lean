
/- Stage 17: Put that is refused. -/
import Derived.Test.YtnbhifakfehefaaKPut
import Derived.BigQuiet
import Derived.Deep.RegionHeldLaw
namespace Go.Proofs.Ytnbhifakfehefaa
open Go.RowKit
set_option linter.unusedVariables false
set_option linter.unusedSimpArgs false
theorem take_skip {P : Program} {md : Region.Mode} {ops : Array Oper} {Q : Exit → Act → World → Prop} {S : World → Prop} {i d j : Nat} {b : Bool} {oi : Oper} {fuel : Nat} {listed : Array Bool} {tmps : Array Value} {df : List Deferred} {w : World} (hi : ops[i]? = some oi) (hd : oi.dst = some d)
    (hs : Region.noSelect ops = true) (hf : Region.free md ops listed i = true) (hr : (Region.ready md ops listed).contains i = true)
    (hQ : ∀ c a w, Q (.panic c) (a.put (some d) undef) w → Q (.panic c) a w) (hg : oi.guard = some (j, b)) (hy : yielded ops tmps j = some (!b)) (hS : S w)
    (h : wpAnyH P md ops Q S fuel (listed.setIfInBounds i true) ⟨tmps.setIfInBounds d undef, df⟩ w) : wpAnyH P md ops Q S (fuel + 1) listed ⟨tmps, df⟩ w :=
  wpAnyH_take hi hs hf hr (by rw [hd]; exact hQ) (.inr ⟨by unfold Region.wanted; rw [hg]; show (yielded ops tmps j == some b) = false; rw [hy]; cases b <;> rfl, rfl⟩) hS (by rw [hd]; exact h)
theorem take_do {P : Program} {md : Region.Mode} {ops : Array Oper} {Q : Exit → Act → World → Prop} {S : World → Prop} {i d : Nat} {v : Value} {oi : Oper} {fuel : Nat} {listed : Array Bool} {tmps : Array Value} {df : List Deferred} {w : World} (hi : ops[i]? = some oi) (hd : oi.dst = some d)
    (hs : Region.noSelect ops = true) (hf : Region.free md ops listed i = true) (hr : (Region.ready md ops listed).contains i = true)
    (hQ : ∀ c a w, Q (.panic c) (a.put (some d) v) w → Q (.panic c) a w) (hg : oi.guard = none) (hy : ∀ w, S w → (execOp (Act.eval ⟨tmps, df⟩) oi).run P w = .ok (.value v) w) (hS : S w)
    (h : wpAnyH P md ops Q S fuel (listed.setIfInBounds i true) ⟨tmps.setIfInBounds d v, df⟩ w) : wpAnyH P md ops Q S (fuel + 1) listed ⟨tmps, df⟩ w :=
  wpAnyH_take hi hs hf hr (by rw [hd]; exact hQ) (.inl ⟨by unfold Region.wanted; rw [hg], hy⟩) hS (by rw [hd]; exact h)
/-- what Put answers -/
def putZ (x : It) (hi : Int) (n : Nat) (m : Int) (len : Nat) : Int := if x.may = false ∨ x.seq ≤ hi then 171 else if 1048576 < len then 2 else if (n : Int) = m then 170 else 0
set_option maxRecDepth 100000 in
set_option maxHeartbeats 4000000 in
theorem put_no (B qb : Nat) (c : Cf) (hi : Int) (A F : Value) (L H : List Nat) (E : Nat → It) (D : Nat → List Nat) (x : It) (l : List Nat) (w : World) (hs : Qs w B qb c hi A F L H E D) (hr : Rb w x.dat l) (hz : putZ x hi L.length c.m l.length ≠ 0) :
    Calls Try.prog 12 #[.pointer (some ⟨qb, 0, none⟩), x.ent] w fun e w' => e = .returned (.int .i64 (putZ x hi L.length c.m l.length)) ∧ Below w.heap.size w w' := by
  obtain ⟨a, cap, hd, hnil, hcap, hrd⟩ := hr
  unfold It.ent
  rw [hd]
  have HMY : Hid (∀ w1, Calls Try.prog 24 #[.agg #[.int .i64 x.seq, .int .i64 x.pri, .int .i64 x.exp, .bool x.dur, .int .i64 x.cnt, .int .i64 x.hol, (.slice a l.length cap)]] w1 fun e w' => e = .returned (.bool x.may) ∧ Below w1.heap.size w1 w') := fun w1 => by have := may_any x w1; unfold It.ent at this; rw [hd] at this; exact this
  have hmx : Try.prog.follows .mixedOrders = true := by kernel_rfl
  obtain ⟨W0, hW0⟩ : ∃ W0, w.alloc (Obj.cells #[.int .i64 x.seq, .int .i64 x.pri, .int .i64 x.exp, .bool x.dur, .int .i64 x.cnt, .int .i64 x.hol, (.slice a l.length cap)] 37) = W0 := ⟨_, rfl⟩
  have HB0 : Hid (Below w.heap.size w W0) := by rw [← hW0]; exact bel1 (Below.refl _ _) (Nat.le_refl _) _
  have hs0 : w.heap.size < W0.heap.size := by rw [← hW0]; simp
  have hh0 : W0.heap[w.heap.size]? = some (.cells #[.int .i64 x.seq, .int .i64 x.pri, .int .i64 x.exp, .bool x.dur, .int .i64 x.cnt, .int .i64 x.hol, (.slice a l.length cap)] 37 (0, 0)) := by rw [← hW0]; exact heap_new _ _
  have HSK : Hid (∀ W1 : World, Hid (Below W0.heap.size W0 W1) → W1.cell? ⟨w.heap.size, 0, none⟩ = some (.int .i64 x.seq) ∧ W1.cell? ⟨w.heap.size, 1, none⟩ = some (.int .i64 x.pri) ∧ W1.cell? ⟨w.heap.size, 2, none⟩ = some (.int .i64 x.exp) ∧ W1.cell? ⟨w.heap.size, 3, none⟩ = some (.bool x.dur) ∧ W1.cell? ⟨w.heap.size, 4, none⟩ = some (.int .i64 x.cnt) ∧ W1.cell? ⟨w.heap.size, 5, none⟩ = some (.int .i64 x.hol) ∧ W1.cell? ⟨w.heap.size, 6, none⟩ = some (.slice a l.length cap) ∧ W1.cell? ⟨qb, 5, none⟩ = some (.int .i64 hi)) := fun W1 hb => by
    obtain ⟨q0, q1, q2, q3, q4, q5, q6⟩ := ent_cells ((hb.out.block _ hs0).trans hh0)
    exact ⟨q0, q1, q2, q3, q4, q5, q6, ((hs.below HB0.out).below hb.out).q.cell.2.2.2.2.2.1⟩
  have HD0 : Hid (Below W0.heap.size W0 W0.drew) := (Below.refl _ W0).drew
  have HW0 := hide hW0
  have HS := hide hs
  have hqn : qb < w.heap.size := hs.q.lt
  obtain ⟨a6, cap6, hA⟩ := row_form hs.ra
  have HSW : Hid (∀ w4, Hid (Below W0.heap.size W0 w4) → Qs w4 B qb c hi A F L H E D) := fun w4 hb => (hs.below HB0.out).below hb.out
  have HAA := hide hA
  have HS0 := hide hs0
  clear hW0 hh0 hs hrd hd hA
  obtain ⟨Z, hZ⟩ : ∃ Z, putZ x hi L.length c.m l.length = Z := ⟨_, rfl⟩
  rw [hZ] at hz ⊢
  have HZ := hide hZ
  clear hZ
  go_enter Try.func12, Try.ntmps12
  go_wp2_with fail
  rw [HW0.out]
  cases hmy : x.may
  · have HZ1 : Hid (Z = 171) := by
      rw [← HZ.out]
      exact if_pos (.inl hmy)
    rw [hmy] at HMY
    clear hmy
    refine wp_region_held_drew (S := fun W1 => W1.cell? ⟨w.heap.size, 0, none⟩ = some (.int .i64 x.seq) ∧ W1.cell? ⟨w.heap.size, 1, none⟩ = some (.int .i64 x.pri) ∧ W1.cell? ⟨w.heap.size, 2, none⟩ = some (.int .i64 x.exp) ∧ W1.cell? ⟨w.heap.size, 3, none⟩ = some (.bool x.dur) ∧ W1.cell? ⟨w.heap.size, 4, none⟩ = some (.int .i64 x.cnt) ∧ W1.cell? ⟨w.heap.size, 5, none⟩ = some (.int .i64 x.hol) ∧ W1.cell? ⟨w.heap.size, 6, none⟩ = some (.slice a l.length cap) ∧ W1.cell? ⟨qb, 5, none⟩ = some (.int .i64 hi)) (by kernel_rfl) (HSK.out _ HD0) (fun hHeld => ?_)
    refine take_do (i := 0) (d := 7) (v := ?_) rfl rfl (by kernel_rfl) (by kernel_rfl) (by kernel_rfl) (fun _ _ _ h => h) rfl ?_ (by assumption) ?_
    rotate_left
    · intro W hSw
      try dsimp only at hSw
      go_simp
      try with_reducible rfl
    try simp only [List.setIfInBounds_toArray, List.set_cons_zero, List.set_cons_succ]
    refine wpAnyH_ready (rs := [1]) (by kernel_rfl) (by simp) ?_
    refine AllReadyH.cons rfl (fun K hK => ?_) AllReadyH.nil
    go_simp
    go_wp2_with (go_at_call 24; refine (HMY.out _).mono ?_; rintro e w3 ⟨rfl, hbb⟩; have hb3 := hide (belOn HD0.out HD0.out.size hbb); clear hbb)
    refine hK.out _ _ (HSK.out _ hb3) (fun hHeld => ?_)
    clear hK K
    try simp only [Act.put, List.setIfInBounds_toArray, List.set_cons_zero, List.set_cons_succ]
    refine take_do (i := 2) (d := 9) (v := ?_) rfl rfl (by kernel_rfl) (by kernel_rfl) (by kernel_rfl) (fun _ _ _ h => h) rfl ?_ (by assumption) ?_
    rotate_left
    · intro W hSw
      try dsimp only at hSw
      go_simp
      try with_reducible rfl
    try simp only [List.setIfInBounds_toArray, List.set_cons_zero, List.set_cons_succ]
    refine take_do (i := 3) (d := 10) (v := ?_) rfl rfl (by kernel_rfl) (by kernel_rfl) (by kernel_rfl) (fun _ _ _ h => h) rfl ?_ (by assumption) ?_
    rotate_left
    · intro W hSw
      try dsimp only at hSw
      go_simp
      try with_reducible rfl
    try simp only [List.setIfInBounds_toArray, List.set_cons_zero, List.set_cons_succ]
    refine take_skip (i := 4) (d := 11) (j := 3) (b := false) rfl rfl (by kernel_rfl) (by kernel_rfl) (by kernel_rfl) (fun _ _ _ h => h) rfl rfl (by assumption) ?_
    try simp only [List.setIfInBounds_toArray, List.set_cons_zero, List.set_cons_succ]
    refine take_skip (i := 5) (d := 12) (j := 3) (b := false) rfl rfl (by kernel_rfl) (by kernel_rfl) (by kernel_rfl) (fun _ _ _ h => h) rfl rfl (by assumption) ?_
    try simp only [List.setIfInBounds_toArray, List.set_cons_zero, List.set_cons_succ]
    refine take_skip (i := 6) (d := 13) (j := 3) (b := false) rfl rfl (by kernel_rfl) (by kernel_rfl) (by kernel_rfl) (fun _ _ _ h => h) rfl rfl (by assumption) ?_
    try simp only [List.setIfInBounds_toArray, List.set_cons_zero, List.set_cons_succ]
    refine take_skip (i := 7) (d := 14) (j := 3) (b := false) rfl rfl (by kernel_rfl) (by kernel_rfl) (by kernel_rfl) (fun _ _ _ h => h) rfl rfl (by assumption) ?_
    try simp only [List.setIfInBounds_toArray, List.set_cons_zero, List.set_cons_succ]
    refine take_skip (i := 8) (d := 15) (j := 3) (b := false) rfl rfl (by kernel_rfl) (by kernel_rfl) (by kernel_rfl) (fun _ _ _ h => h) rfl rfl (by assumption) ?_
    try simp only [List.setIfInBounds_toArray, List.set_cons_zero, List.set_cons_succ]
    refine take_skip (i := 9) (d := 16) (j := 3) (b := false) rfl rfl (by kernel_rfl) (by kernel_rfl) (by kernel_rfl) (fun _ _ _ h => h) rfl rfl (by assumption) ?_
    try simp only [List.setIfInBounds_toArray, List.set_cons_zero, List.set_cons_succ]
    refine take_skip (i := 10) (d := 17) (j := 3) (b := false) rfl rfl (by kernel_rfl) (by kernel_rfl) (by kernel_rfl) (fun _ _ _ h => h) rfl rfl (by assumption) ?_
    try simp only [List.setIfInBounds_toArray, List.set_cons_zero, List.set_cons_succ]
    refine take_do (i := 11) (d := 18) (v := ?_) rfl rfl (by kernel_rfl) (by kernel_rfl) (by kernel_rfl) (fun _ _ _ h => h) rfl ?_ (by assumption) ?_
    rotate_left
    · intro W hSw
      try dsimp only at hSw
      go_simp
      try with_reducible rfl
    try simp only [List.setIfInBounds_toArray, List.set_cons_zero, List.set_cons_succ]
    refine take_do (i := 12) (d := 6) (v := ?_) rfl rfl (by kernel_rfl) (by kernel_rfl) (by kernel_rfl) (fun _ _ _ h => h) rfl ?_ (by assumption) ?_
    rotate_left
    · intro W hSw
      try dsimp only at hSw
      go_simp
      try with_reducible rfl
    try simp only [List.setIfInBounds_toArray, List.set_cons_zero, List.set_cons_succ]
    refine wpAnyH_done (by kernel_rfl) ?_ _
    go_wp2
    go_ret
    exact ⟨by rw [HZ1.out]; rfl, belOn HB0.out (Nat.le_of_lt HS0.out) hb3.out⟩
  · rw [hmy] at HMY
    have HMY' := hide hmy
    clear hmy
    go_region_held (fun W1 => W1.cell? ⟨w.heap.size, 0, none⟩ = some (.int .i64 x.seq) ∧ W1.cell? ⟨w.heap.size, 1, none⟩ = some (.int .i64 x.pri) ∧ W1.cell? ⟨w.heap.size, 2, none⟩ = some (.int .i64 x.exp) ∧ W1.cell? ⟨w.heap.size, 3, none⟩ = some (.bool x.dur) ∧ W1.cell? ⟨w.heap.size, 4, none⟩ = some (.int .i64 x.cnt) ∧ W1.cell? ⟨w.heap.size, 5, none⟩ = some (.int .i64 x.hol) ∧ W1.cell? ⟨w.heap.size, 6, none⟩ = some (.slice a l.length cap) ∧ W1.cell? ⟨qb, 5, none⟩ = some (.int .i64 hi)) (first | exact HSK.out _ HD0 | exact HSK.out _ hb3) (first | (go_at_call 24; refine Calls.mono (HMY.out _) ?_; rintro e w3 ⟨rfl, hbb⟩; have hb3 := hide (belOn HD0.out HD0.out.size hbb)))
    clear hbb
    have HQ3 := hide (HSW.out w3 hb3)
    obtain ⟨e0, e1, e2, e3, e4, e5, e6, e7⟩ := HSK.out w3 hb3
    obtain ⟨_, d1, _, _, _, _, d6, _⟩ := HQ3.out.q.cell
    rw [HAA.out] at d6
    have hz3 : w.heap.size < w3.heap.size := by have := hb3.out.size; have := HS0.out; omega
    by_cases hsq : x.seq ≤ hi
    · have HZ1 : Hid (Z = 171) := by
        rw [← HZ.out]
        exact if_pos (.inr hsq)
      have hnd2 : decide (x.seq ≤ hi) = true := by simpa using hsq
      go_wp2
      go_ret
      exact ⟨by rw [HZ1.out]; rfl, belOn HB0.out (Nat.le_of_lt HS0.out) hb3.out⟩
    · have HZ2 : Hid (Z = if 1048576 < l.length then 2 else if (L.length : Int) = c.m then 170 else 0) := by
        rw [← HZ.out]
        exact if_neg (fun h => h.elim (fun e => by rw [HMY'.out] at e; cases e) hsq)
      have hnd2 : decide (x.seq ≤ hi) = false := by simpa using hsq
      by_cases hll : 1048576 < l.length
      · have HZ3 : Hid (Z = 2) := by rw [HZ2.out]; exact if_pos hll
        have hnd : decide ((1048576 : Int) < (l.length : Int)) = true := by simp; omega
        have hnl : (1048576 : Int) < (l.length : Int) := by omega
        clear hll
        go_wp2
        go_ret
        exact ⟨by rw [HZ3.out]; rfl, belOn HB0.out (Nat.le_of_lt HS0.out) hb3.out⟩
      · have HZ3 : Hid (Z = if (L.length : Int) = c.m then 170 else 0) := by rw [HZ2.out]; exact if_neg hll
        have hLm : (L.length : Int) = c.m := Decidable.byContradiction (fun h => hz (by rw [HZ3.out]; exact if_neg h))
        have HZ4 : Hid (Z = 170) := by rw [HZ3.out]; exact if_pos hLm
        have hnd : decide ((1048576 : Int) < (l.length : Int)) = false := by simp; omega
        have hnl : ¬ (1048576 : Int) < (l.length : Int) := by omega
        clear hll hz
        have hne : ((L.length : Int) == c.m) = true := by rw [hLm]; simp
        have HLM := hide hLm
        clear hLm
        go_wp2_with fail
        go_region_held (fun W1 => W1.cell? ⟨qb, 6, none⟩ = some (.slice a6 L.length cap6) ∧ W1.cell? ⟨qb, 1, none⟩ = some (.int .i64 c.m)) (exact ⟨d6, d1⟩) (fail)
        have HB4 : Hid (Below w.heap.size w w3.drew) := (belOn HB0.out (Nat.le_of_lt HS0.out) hb3.out).drew
        go_wp2
        go_ret
        exact ⟨by rw [HZ4.out]; rfl, HB4.out⟩
end Go.Proofs.Ytnbhifakfehefaa
