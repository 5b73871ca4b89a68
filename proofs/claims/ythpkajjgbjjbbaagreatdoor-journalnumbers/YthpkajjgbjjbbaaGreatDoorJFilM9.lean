import Derived.Test.YthpkajjgbjjbbaaGreatDoorJMetM9
import Derived.Test.YthpkajjgbjjbbaaGreatDoorDLawSM9

/- Stage 20: clearNew; a disk's log. -/
namespace Go.Proofs.YthpkajjgbjjbbaaGreatDoor
open Go.RowKit Go.Maps Go.MuLone
set_option linter.unusedVariables false
set_option linter.unusedSimpArgs false
def jCl (x : Dx) (F : List Fi) : Int × Dx × List Fi := (if (dDel x F kN).1 = 191 then 0 else (dDel x F kN).1, (dDel x F kN).2)
set_option maxHeartbeats 2000000 in
theorem clearNew_any (S : Nat → Prop) (w wi : World) (d j : Nat) (x : Dx) (F : List Fi) (sz : Int) (tl : Bool) (h : JS S w wi d j x F sz tl) :
    Calls Tryz.prog 89 #[.pointer (some ⟨j, 0, none⟩)] wi fun e w' => e = .returned (amV (jCl x F).1) ∧ ∃ S', (∀ q, S' q → S q ∨ wi.heap.size ≤ q) ∧ JS S' w w' d j (jCl x F).2.1 (jCl x F).2.2 sz tl ∧ Kp S wi w' := by
  obtain ⟨c0, _, _, _⟩ := h.cells
  have HA := hide (aw_delete h.aw kN)
  have HJ := hide h
  clear h
  go_enter Tryz.func89, Tryz.ntmps89
  go_wp2_with fail
  refine HA.out.mono ?_
  rintro e w1 ⟨rfl, hN⟩
  have HJ1 := hide (HJ.out.nx hN)
  clear hN
  obtain ⟨n, hn0⟩ : ∃ n, (dDel x F kN).1 = n := ⟨_, rfl⟩
  have HN0 := hide hn0
  rw [hn0]
  clear hn0
  by_cases h1 : n = 191
  · subst h1
    have HQ : Hid (jCl x F = (0, (dDel x F kN).2)) := by show _ = _; unfold jCl; rw [HN0.out]; rfl
    have HA0 : Hid (amV 0 = .nilIface) := rfl
    go_wp2
    go_ret
    rw [HQ.out]
    exact ⟨rfl, HJ1.out⟩
  · have hne : (n != 191) = true := by simpa using h1
    have HQ : Hid (jCl x F = (n, (dDel x F kN).2)) := by show _ = _; unfold jCl; rw [HN0.out, if_neg h1]
    clear h1
    go_wp2_with (go_at_call 91; refine (amiss_any _ _).mono ?_; rintro e w3 ⟨rfl, rfl⟩)
    go_ret
    rw [HQ.out]
    exact ⟨rfl, HJ1.out⟩
theorem kG_list : kG.toList = [108, 111, 103] := by first | decide | rfl | kernel_rfl
theorem isLog_any (s : ByteArray) (a : Option Addr) (n c : Nat) (z : Int) (w : World) : Calls Tryz.prog 88 #[.agg #[.string s, .slice a n c, .int .i64 z]] w fun e w' => e = .returned (.bool (decide (s = kG))) ∧ Below w.heap.size w w' := by
  have hs := str_eq s kG
  rw [kG_list] at hs
  cases hd : decide (s = kG)
  · rw [hd] at hs
    clear hd
    go_enter Tryz.func88, Tryz.ntmps88
    go_wp2
    go_ret
    exact ⟨rfl, bel1 (Below.refl _ _) (Nat.le_refl _) _⟩
  · rw [hd] at hs
    clear hd
    go_enter Tryz.func88, Tryz.ntmps88
    go_wp2
    go_ret
    exact ⟨rfl, bel1 (Below.refl _ _) (Nat.le_refl _) _⟩
set_option maxHeartbeats 2000000 in
set_option maxRecDepth 100000 in
theorem idxF_any (w : World) (base : Nat) (v : Value) (W : List Fo) (hw : Wy FK w base v W) (ht : Told base w W) :
    Calls Tryz.prog 87 #[v, .func (.func 88) #[] #[]] w fun e w' => ((∃ (i : Nat) (hi : i < W.length), W[i].1.1 = kG ∧ e = .returned (.int .i64 (i : Int))) ∨ ((∀ o ∈ W, o.1.1 ≠ kG) ∧ e = .returned (.int .i64 (-1)))) ∧ Below w.heap.size w w' := by
  obtain ⟨va, vc, rfl⟩ := hw.shape
  have HW := hide hw
  have HT := hide ht
  have hl : W.length ≤ maxLen := by
    rcases hw with ⟨_, rfl⟩ | ⟨g, off, cap, cur, _, _, h2, h3, _⟩
    · simp [maxLen]
    · omega
  have hl' : W.length ≤ 9223372036854775807 := hl
  clear hw ht hl
  go_enter Tryz.func87, Tryz.ntmps87
  go_wp2
  go_loopw [8] (fun i wr => ∃ k : Nat, k ≤ W.length ∧ i = .int .i64 (k : Int) ∧ Hid (∀ j (h : j < W.length), j < k → W[j].1.1 ≠ kG) ∧ Below w.heap.size w wr) (fun i _ => W.length - (intOf i).toNat)
  case atStart => exact ⟨0, Nat.zero_le _, rfl, fun j h hj => by omega, Below.refl _ _⟩
  case round =>
    obtain ⟨k, hk, rfl, HA, hb⟩ := hrel
    have HB := hide hb
    clear hb
    by_cases hkn : k < W.length
    · obtain ⟨g, off, cap, e, hc1, hc2, hg, r0, r1, r2⟩ := HW.out.elem k hkn
      simp only [Value.slice.injEq] at e
      obtain ⟨rfl, _, rfl⟩ := e
      have hob := HT.out.own W[k] (List.getElem_mem hkn)
      have hfv := fV_slice hob
      obtain ⟨xa, xc, hx, _⟩ := hob.slice
      rw [hfv, hx] at r1
      have q0 := (HB.out.cell (p := ⟨g, off + k * 3, none⟩) hg).trans r0
      have q1 := (HB.out.cell (p := ⟨g, off + k * 3 + 1, none⟩) hg).trans r1
      have q2 := (HB.out.cell (p := ⟨g, off + k * 3 + 2, none⟩) hg).trans r2
      obtain ⟨s, hs⟩ : ∃ s, W[k].1.1 = s := ⟨_, rfl⟩
      obtain ⟨m, hm⟩ : ∃ m, W[k].1.2.1.length = m := ⟨_, rfl⟩
      obtain ⟨z, hz⟩ : ∃ z, W[k].1.2.2 = z := ⟨_, rfl⟩
      have HS := hide hs
      rw [hs] at q0
      rw [hm] at q1
      rw [hz] at q2
      have HL := hide (isLog_any s xa m xc (z : Int) wr)
      have hki : (k : Int) < (W.length : Int) := by omega
      clear r0 r1 r2 hob hfv hx hs hm hz
      cases hd : decide (s = kG)
      · rw [hd] at HL
        have HNE : Hid (s ≠ kG) := hide (of_decide_eq_false hd)
        clear hd
        go_wp2_with (go_at_call 88; refine HL.out.mono ?_; rintro e w1 ⟨rfl, hb1⟩; have HB1 := hide (HB.out.trans (hb1.mono HB.out.size)); clear hb1)
        go_roundw
        case rel =>
          refine ⟨k + 1, by omega, by go_num, fun j h hj => ?_, HB1.out⟩
          rcases Nat.lt_or_ge j k with h1 | h1
          · exact HA.out j h h1
          · have : j = k := by omega
            subst this
            rw [HS.out]
            exact HNE.out
        case measure => simp [intOf]; omega
      · rw [hd] at HL
        have HEQ : Hid (s = kG) := hide (of_decide_eq_true hd)
        clear hd
        go_wp2_with (go_at_call 88; refine HL.out.mono ?_; rintro e w1 ⟨rfl, hb1⟩; have HB1 := hide (HB.out.trans (hb1.mono HB.out.size)); clear hb1)
        go_ret
        exact ⟨.inl ⟨k, hkn, HS.out.trans HEQ.out, rfl⟩, HB1.out⟩
    · have HN : Hid (∀ o ∈ W, o.1.1 ≠ kG) := fun o ho => by
        obtain ⟨j, hj, rfl⟩ := List.getElem_of_mem ho
        exact HA.out j hj (by omega)
      go_wp2
      go_ret
      exact ⟨.inr ⟨HN.out, rfl⟩, HB.out⟩
end Go.Proofs.YthpkajjgbjjbbaaGreatDoor
