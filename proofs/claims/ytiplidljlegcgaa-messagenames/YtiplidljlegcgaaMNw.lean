
/- MessageNames: the walk. -/
import Derived.Test.YtiplidljlegcgaaMNb
import Derived.Deep.RegionHeld
namespace Go.Proofs.Ytiplidljlegcgaa
open Go.RowKit
set_option linter.unusedVariables false
set_option linter.unusedSimpArgs false
theorem take_do {P : Program} {md : Region.Mode} {ops : Array Oper} {Q : Exit → Act → World → Prop} {S : World → Prop} {i d : Nat} {v : Value} {oi : Oper} {fuel : Nat} {listed : Array Bool} {tmps : Array Value} {df : List Deferred} {w : World} (hi : ops[i]? = some oi) (hd : oi.dst = some d)
    (hs : Region.noSelect ops = true) (hf : Region.free md ops listed i = true) (hr : (Region.ready md ops listed).contains i = true)
    (hQ : ∀ c a w, Q (.panic c) (a.put (some d) v) w → Q (.panic c) a w) (hg : oi.guard = none) (hy : ∀ w, S w → (execOp (Act.eval ⟨tmps, df⟩) oi).run P w = .ok (.value v) w) (hS : S w)
    (h : wpAnyH P md ops Q S fuel (listed.setIfInBounds i true) ⟨tmps.setIfInBounds d v, df⟩ w) : wpAnyH P md ops Q S (fuel + 1) listed ⟨tmps, df⟩ w :=
  wpAnyH_take hi hs hf hr (by rw [hd]; exact hQ) (.inl ⟨by unfold Region.wanted; rw [hg], hy⟩) hS (by rw [hd]; exact h)
def MB (g b : Nat) (W : World) : Prop := W.heap[g]? = some (.cells (msgA b) 33 (0, 0)) ∧ W.heap[b]? = some (.cells #[.string ⟨#[]⟩] 9 (0, 0))
theorem MB.below {g b : Nat} {W w : World} (h : MB g b W) (hb : Below W.heap.size W w) : MB g b w :=
  ⟨(hb.block _ (Array.getElem?_eq_some_iff.1 h.1).1).trans h.1, (hb.block _ (Array.getElem?_eq_some_iff.1 h.2).1).trans h.2⟩
theorem ld_msg {W : World} {g b : Nat} {t : TypeId} {fr : Nat × Nat} (h : W.heap[g]? = some (.cells (msgA b) t fr)) : (Instr.loadAt 33 (.pointer (some ⟨g, 0, none⟩))).run Try.prog W = .ok (.agg (msgA b)) W := by
  simp only [Instr.loadAt, Instr.sureAddr, Sem.run_bind, Sem.run_pure, Result.andThen_ok]
  exact run_loadVar_row W g t 33 (msgA b) fr _ h Try.underlying33 rfl Try.infoM
set_option maxRecDepth 100000 in
set_option maxHeartbeats 8000000 in
theorem names_walk (w : World) : Calls Try.prog 3 #[] w fun e w' => e = .returned (.bool true) ∧ Below w.heap.size w w' := by
  obtain ⟨W0, hW0⟩ : ∃ W0, w.alloc (.cells #[.int .i64 112, .int .i64 113, .int .i64 114, .int .i64 115, .int .i64 116, .int .i64 117, .int .i64 118, .int .i64 119, .int .i64 120] 3) = W0 := ⟨_, rfl⟩
  have hs0 : W0.heap.size = w.heap.size + 1 := by rw [← hW0]; simp
  have hb0 : Below w.heap.size w W0 := by rw [← hW0]; exact bel1 (Below.refl _ _) (Nat.le_refl _) _
  have hh0 : W0.heap[w.heap.size]? = some (.cells #[.int .i64 112, .int .i64 113, .int .i64 114, .int .i64 115, .int .i64 116, .int .i64 117, .int .i64 118, .int .i64 119, .int .i64 120] 3 (0, 0)) := by rw [← hW0]; exact World.alloc_heap_new _ _
  have HW0 := hide hW0
  have HS0 := hide hs0
  have HH0 := hide hh0
  clear hW0 hs0 hh0
  go_enter Try.func3, Try.ntmps3
  go_wp2
  rw [HW0.out]
  go_loopw [2] (fun i wr => ∃ j : Nat, i = .int .i64 j ∧ j ≤ 9 ∧ wr = W0) (fun i _ => 9 - (intOf i).toNat)
  case atStart => exact ⟨0, rfl, by omega, rfl⟩
  case round =>
    obtain ⟨j, rfl, hj, rfl⟩ := hrel
    by_cases hj9 : j < 9
    · have hz : w.heap.size < wr.heap.size := by have := HS0.out; omega
      have hc : wr.cell? ⟨w.heap.size, j, none⟩ = some (.int .i64 (112 + j)) := by
        refine cellOf HH0.out j _ ?_
        have : j = 0 ∨ j = 1 ∨ j = 2 ∨ j = 3 ∨ j = 4 ∨ j = 5 ∨ j = 6 ∨ j = 7 ∨ j = 8 := by omega
        rcases this with rfl | rfl | rfl | rfl | rfl | rfl | rfl | rfl | rfl <;> rfl
      go_wp2
      go_roundw
      case rel => exact ⟨j + 1, by go_num, by omega, by trivial⟩
      case measure => simp [intOf]; omega
    · obtain rfl : j = 9 := by omega
      go_wp2_with fail
      refine (blank_any _).mono ?_
      rintro e1 w1 ⟨b1, rfl, hb1, hl1, hu1, hd1⟩
      obtain ⟨V1, hV1⟩ : ∃ V1, w1.alloc (.cells (msgA b1) 33) = V1 := ⟨_, rfl⟩
      have hv1 : V1.heap.size = w1.heap.size + 1 := by rw [← hV1]; simp
      have hc1 : Below w1.heap.size w1 V1 := by rw [← hV1]; exact bel1 (Below.refl _ _) (Nat.le_refl _) _
      have M1 : MB w1.heap.size b1 V1 := ⟨by rw [← hV1]; exact World.alloc_heap_new _ _, (hc1.block _ hu1).trans hd1⟩
      have HV1 := hide hV1
      clear hV1
      go_wp2_with (refine wpList_store_row rfl 33 (.tmp 3) (.tmp 22) rfl w1.heap.size (msgA b1) rfl rfl 33 _ (heap_alloc_last w1 _) Try.infoM rfl (by kernel_rfl) ?_; rw [World.setRow_alloc_new, HV1.out])
      refine (blank_any _).mono ?_
      rintro e2 w2 ⟨b2, rfl, hb2, hl2, hu2, hd2⟩
      obtain ⟨V2, hV2⟩ : ∃ V2, w2.alloc (.cells (msgA b2) 33) = V2 := ⟨_, rfl⟩
      have hv2 : V2.heap.size = w2.heap.size + 1 := by rw [← hV2]; simp
      have hc2 : Below w2.heap.size w2 V2 := by rw [← hV2]; exact bel1 (Below.refl _ _) (Nat.le_refl _) _
      have M2 : MB w2.heap.size b2 V2 := ⟨by rw [← hV2]; exact World.alloc_heap_new _ _, (hc2.block _ hu2).trans hd2⟩
      have hc12 : Below V1.heap.size V1 V2 := belOn hb2 hb2.size hc2
      have M12 := hide (M1.below hc12)
      have c44 : V2.cell? ⟨w2.heap.size, 44, none⟩ = some (.slice (some ⟨b2, 0, none⟩) 1 1) := cellOf M2.1 44 _ rfl
      have c0 : V2.cell? ⟨b2, 0, none⟩ = some (.string ⟨#[]⟩) := cellOf M2.2 0 _ rfl
      have hfz : V2.frozen? ⟨b2, 0, none⟩ = false := by unfold World.frozen?; simp [M2.2]
      have hz1 : w2.heap.size < V2.heap.size := by omega
      have hz2 : b2 < V2.heap.size := by omega
      have HBW : Hid (Below w.heap.size w V2) := belOn hb0 (by have := HS0.out; omega) (belOn hb1 hb1.size (belOn hc1 (by omega) hc12))
      have hne : b1 < V1.heap.size := by omega
      have HB : Hid (b1 < b2 ∧ w1.heap.size < b2 ∧ w.heap.size ≤ b2 ∧ b2 < V2.heap.size) := by
        have h1 := hb1.size
        have h2 := HS0.out
        exact ⟨by omega, by omega, by omega, by omega⟩
      have HV2 := hide hV2
      clear hV2 hv1 hc1 M1 hd1 hu1 hl1 hb1 hv2 hc2 M2 hd2 hu2 hl2 hb2 hc12 hne
      go_wp2_with (refine wpList_store_row rfl 33 (.tmp 4) (.tmp 23) rfl w2.heap.size (msgA b2) rfl rfl 33 _ (heap_alloc_last w2 _) Try.infoM rfl (by kernel_rfl) ?_; rw [World.setRow_alloc_new, HV2.out])
      obtain ⟨X, hX⟩ : ∃ X, V2.setCell ⟨b2, 0, none⟩ (.string ⟨#[111, 116, 104, 101, 114]⟩) = X := ⟨_, rfl⟩
      have hbx : Below b2 V2 X := by rw [← hX]; exact (Below.refl _ _).setCell (p := ⟨b2, 0, none⟩) (Nat.le_refl _) _
      have hsx : X.heap.size = V2.heap.size := by rw [← hX]; simp [World.setCell]
      have MX : MB w1.heap.size b1 X := ⟨(hbx.block _ HB.out.2.1).trans M12.out.1, (hbx.block _ HB.out.1).trans M12.out.2⟩
      have hbwx : Below w.heap.size w X := HBW.out.trans (hbx.mono HB.out.2.2.1)
      have MXd : MB w1.heap.size b1 X.drew := MX
      have hbwd : Below w.heap.size w X.drew := hbwx.drew
      rw [hX]
      have HSZ : Hid (w.heap.size ≤ X.heap.size) := hbwx.size
      clear hX hbx hsx MX hbwx c44 c0 hfz hz1 hz2
      refine wp_region_held_drew (S := MB w1.heap.size b1) (by kernel_rfl) MXd (fun hHeld => ?_)
      refine wpAnyH_take (i := 0) rfl (by kernel_rfl) (by kernel_rfl) (by kernel_rfl) (fun _ _ _ h => h) (yieldsIf_load_mid rfl 33 (.tmp 3) rfl w1.heap.size 0 rfl (msgA b1).toList _ (fun W hW => rangeOf hW.1 0 56) Try.underlying33 rfl Try.infoM) (by assumption) ?_
      try simp only [List.setIfInBounds_toArray, List.set_cons_zero, List.set_cons_succ, Act.put]
      refine wpAnyH_ready (rs := [1]) (by kernel_rfl) (by simp) ?_
      refine AllReadyH.cons rfl (fun K hK => ?_) AllReadyH.nil
      go_simp
      go_wp2_with (go_at_call 6; refine Calls.mono (rblank_any _) ?_; rintro e3 w3 ⟨b3, rfl, hb3, hl3, hu3, hd3⟩)
      have M3 : MB w1.heap.size b1 w3 := MXd.below hb3
      refine hK.out _ _ M3 (fun hHeld => ?_)
      clear hK K
      have HSM := hide (same_blank b1 b3 w3 M3.2 hd3)
      have hbw3 : Below w.heap.size w w3 := belOn hbwd HSZ.out hb3
      have hsw3 := hb3.size
      refine wpAnyH_ready (rs := [2]) (by kernel_rfl) (by simp) ?_
      refine AllReadyH.cons rfl (fun K hK => ?_) AllReadyH.nil
      go_simp
      go_wp2_with (go_at_call 5; refine Calls.mono HSM.out ?_; rintro e4 w4 ⟨rfl, hb4⟩)
      have hbw4 : Below w.heap.size w w4 := belOn hbw3 (by have := HSZ.out; have h5 : X.drew.heap.size = X.heap.size := rfl; omega) hb4
      refine hK.out _ _ (M3.below hb4) (fun hHeld => ?_)
      clear hK K
      refine take_do (i := 3) (d := 5) (v := ?_) rfl rfl (by kernel_rfl) (by kernel_rfl) (by kernel_rfl) (fun _ _ _ h => h) rfl ?_ (by assumption) ?_
      rotate_left
      · intro w hSw
        go_simp
        try with_reducible rfl
      try simp only [List.setIfInBounds_toArray, List.set_cons_zero, List.set_cons_succ]
      refine wpAnyH_done (by kernel_rfl) ?_ _
      go_wp2
      go_ret
      exact ⟨rfl, hbw4⟩
end Go.Proofs.Ytiplidljlegcgaa
