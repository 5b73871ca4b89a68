/- VAsLentW -/
import Derived.Test.YthhlpjhkeendcaaGreatDoorS12
namespace Go.Proofs.YthhlpjhkeendcaaGreatDoor
open Go.RowKit
set_option linter.unusedVariables false
set_option linter.unusedSimpArgs false
set_option maxRecDepth 100000 in
set_option maxHeartbeats 2000000 in
theorem asLentAll_any (l m : List V) (ih : ∀ x ∈ l, AsOk x) (b : Nat) (g : Nat → Nat) (ma : Option Addr) (mc lo hi : Nat) (Q : Nat → Prop) (w : World) (hlo : lo ≤ b) (hbk : Blk w b 25 ((l.length + 3) * 5)) (hrow : Row w b 0 (l ++ marks l.length)) (h0 : b < g 0) (hgh : g l.length ≤ hi)
    (hg : ∀ i (h : i < l.length), Lent w l[i] (g i) (g (i + 1))) (hhi : hi ≤ w.heap.size) (hm : V.ts l = V.ts m) (hl : l.length ≤ 2199023255552) (hmr : 0 < m.length → ∃ b o, ma = some ⟨b, o, none⟩ ∧ Q b ∧ Row w b o m) (hms : ∀ x ∈ m, LiesIn Q w x) (hQ : ∀ b, Q b → b < w.heap.size ∧ ¬ (lo ≤ b ∧ b < hi)) :
    Calls Tryz.prog 26 #[.slice (some ⟨b, 0, none⟩) l.length (l.length + 3), .slice ma m.length mc] w fun e w' => e = .returned (.bool true) ∧ Turns lo hi w w' := by
  have hlen : m.length = l.length := by simpa [V.ts_length] using congrArg List.length hm.symm
  rw [hlen]
  have HG := hide hg
  have HR := hide hrow
  have HM := hide hm
  have HMR := hide hmr
  have HMS := hide hms
  have HQ := hide hQ
  have IH := hide ih
  have hbw : b < w.heap.size := hbk.lt
  have H0 : Hid (AsSoFar l g b lo hi 0 w w) := ⟨Turns.refl _ _ _, hbk, fun _ _ => rfl, fun i h _ => hg i h⟩
  have hmono := hide (g_mono hg)
  clear hg hrow hm hmr hms hQ ih hbk
  go_enter Tryz.func26, Tryz.ntmps26
  go_wp2
  go_loopw [7, 8] (fun gd i wr => ∃ (j : Nat), i = .int .i64 j ∧ gd = .bool true ∧ j ≤ l.length + 3 ∧ Hid (AsSoFar l g b lo hi j w wr)) (fun _ i _ => l.length + 3 - (intOf i).toNat)
  case atStart => exact ⟨0, rfl, rfl, Nat.zero_le _, H0⟩
  case round =>
    obtain ⟨j, rfl, rfl, hj, HS⟩ := hrel
    have hsz := HS.out.turns.size
    have hf := HS.out.blk.free
    by_cases hj3 : j < l.length + 3
    · have hrw : ∀ o, j * 5 ≤ o → wr.cell? ⟨b, o, none⟩ = w.cell? ⟨b, o, none⟩ := HS.out.row
      have cells : ∀ w1 : World, (∀ lo' hi', Turns lo' hi' wr w1 → ¬ (lo' ≤ b ∧ b < hi') → Blk w1 b 25 ((l.length + 3) * 5)) := fun w1 lo' hi' ht hn => by
        obtain ⟨cs, q1, q2⟩ := HS.out.blk
        exact ⟨cs, (ht.block b (by omega) hn).trans q1, q2⟩
      have HCE := hide cells
      clear cells
      by_cases hjl : j < l.length
      · obtain ⟨x0, x1, x2, x3, x4⟩ := HR.out j (by rw [List.length_append]; omega)
        rw [List.getElem_append_left hjl] at x0 x1 x2 x3 x4
        rw [Nat.zero_add] at x0 x1 x2 x3 x4
        rw [← hrw _ (by omega)] at x0 x1 x2 x3 x4
        obtain ⟨mb, mo, rfl, hqb, mr⟩ := HMR.out (by omega)
        have hqm := HQ.out mb hqb
        obtain ⟨y0, y1, y2, y3, y4⟩ := (mr.same (HS.out.turns.same hqm.1 hqm.2)) j (by omega)
        have hmlt : mb < wr.heap.size := by omega
        have hblt : b < wr.heap.size := by omega
        have hne : mb ≠ b := by
          have := hmono.out l.length (Nat.le_refl _) 0 (by omega)
          omega
        have HX : Hid (Calls Tryz.prog 14 #[.agg #[.int .i64 l[j].k, .int .u64 l[j].n, .string l[j].s, .slice l[j].a l[j].l.length l[j].c, .int .i64 l[j].e], .agg #[.int .i64 m[j].k, .int .u64 m[j].n, .string m[j].s, .slice m[j].a m[j].l.length m[j].c, .int .i64 m[j].e]] wr.drew fun e w1 => e = .returned (.bool true) ∧ Turns (g j) (g (j + 1)) wr w1) := by
          have g1 := hmono.out l.length (Nat.le_refl _) (j + 1) (by omega)
          have g0 := hmono.out j (by omega) 0 (by omega)
          have ht : l[j].t = m[j].t := by
            have e := HM.out
            rw [V.ts_map, V.ts_map] at e
            have e1 : (l.map V.t)[j]? = (m.map V.t)[j]? := by rw [e]
            rw [List.getElem?_map, List.getElem?_map, List.getElem?_eq_getElem hjl, List.getElem?_eq_getElem (by omega)] at e1
            simpa using e1
          refine (IH.out l[j] (List.getElem_mem _) m[j] (g j) (g (j + 1)) Q wr.drew ((HS.out.rest j hjl (Nat.le_refl _)).keep (fun _ _ _ _ q => q)) (by show _ ≤ wr.heap.size; omega) ((HMS.out _ (List.getElem_mem _)).keep (fun b' hb' o' => HS.out.turns.same (HQ.out b' hb').1 (HQ.out b' hb').2 o') (fun _ h => h)) (fun b' hb' => ?_) ht).mono (fun e w1 h => ⟨h.1, h.2.os, h.2.tape, h.2.output, h.2.size, h.2.block⟩)
          have := HQ.out b' hb'
          exact ⟨by show _ < wr.heap.size; omega, by omega⟩
        have HMRR := hide mr
        clear mr hrw
        have hnr : ¬ (g j ≤ b ∧ b < g (j + 1)) := by have := hmono.out j (by omega) 0 (by omega); omega
        have hlt3 : decide ((j : Int) < (l.length : Int) + 3) = true := by simp; omega
        have hmx : Tryz.prog.follows .mixedOrders = true := by kernel_rfl
        rcases (show (((l[j].k : Int) == -7) = false) ∨ ((((l[j].k : Int) == -7) = true) ∧ (((l[j].n : Int) == (j : Int)) = false)) ∨ ((((l[j].k : Int) == -7) = true) ∧ (((l[j].n : Int) == (j : Int)) = true)) by
          cases (l[j].k : Int) == -7 <;> cases (l[j].n : Int) == (j : Int) <;> simp) with q1 | ⟨q1, q2⟩ | ⟨q1, q2⟩
        all_goals
          go_wp2
          go_region_with (go_at_call 14; refine HX.out.mono ?_; rintro e w1 ⟨rfl, ht1⟩; have hk1 := HCE.out w1 _ _ ht1 hnr; obtain ⟨z0, k0⟩ := hk1.some (j * 5) (by omega); obtain ⟨z1, k1⟩ := hk1.some (j * 5 + 1) (by omega); obtain ⟨z2, k2⟩ := hk1.some (j * 5 + 2) (by omega); obtain ⟨z3, k3⟩ := hk1.some (j * 5 + 3) (by omega); obtain ⟨z4, k4⟩ := hk1.some (j * 5 + 4) (by omega); have hf1 := hk1.free; have HK1 := hide hk1; have HT1 := hide ht1; clear hk1 ht1)
          all_goals
            go_wp2
            go_roundw
            case rel =>
              rw [put5_dead]
              exact ⟨j + 1, by go_num, rfl, by omega, HS.out.next HG.out h0 hgh hlo hhi hj3 (by rw [if_pos hjl, if_pos hjl]; exact HT1.out)⟩
            case measure => simp [intOf]; omega
      · have e3 : j = l.length ∨ j = l.length + 1 ∨ j = l.length + 2 := by omega
        have hmrk : ((l ++ marks l.length)[j]'(by simp [marks]; omega)) = markAt j := by
          rw [List.getElem_append_right (by omega)]
          rcases e3 with rfl | rfl | rfl
          · simp [marks]
          · simp [marks, show l.length + 1 - l.length = 1 by omega]
          · simp [marks, show l.length + 2 - l.length = 2 by omega]
        obtain ⟨x0, x1, x2, x3, x4⟩ := HR.out j (by simp [marks]; omega)
        rw [hmrk, Nat.zero_add, ← hrw _ (by omega)] at x0 x1 x2 x3 x4
        have x0' : wr.cell? ⟨b, j * 5, none⟩ = some (.int .i64 (-7)) := x0
        have x1' : wr.cell? ⟨b, j * 5 + 1, none⟩ = some (.int .u64 (j : Int)) := x1
        clear x0 x1 hrw hmrk e3
        have hblt : b < wr.heap.size := by omega
        have hnl : decide ((j : Int) < (l.length : Int)) = false := by simp; omega
        go_wp2
        go_roundw
        case rel =>
          rw [put5_dead]
          exact ⟨j + 1, by go_num, rfl, by omega, HS.out.next HG.out h0 hgh hlo hhi hj3 (by rw [if_neg hjl, if_neg hjl]; exact Turns.refl _ _ _)⟩
        case measure => simp [intOf]; omega
    · obtain rfl : j = l.length + 3 := by omega
      go_wp2
      go_ret
      exact ⟨rfl, HS.out.turns⟩
end Go.Proofs.YthhlpjhkeendcaaGreatDoor
