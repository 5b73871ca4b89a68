
/- Stage 18: Covers, the document's. -/
import Derived.Test.YtmanfakdbmlfeaaDoorRAlk
import Derived.Test.YtmanfakdbmlfeaaDoorRFitsW
namespace Go.Proofs.YtmanfakdbmlfeaaDoor
open Go.RowKit Go.Maps
set_option linter.unusedVariables false
set_option linter.unusedSimpArgs false
theorem wy_set {w : World} {base g off c i : Nat} {W : List ByteArray} {x : ByteArray} (h : Wy SK w base (.slice (some ⟨g, off, none⟩) W.length c) W) (hi : i < W.length) : Wy SK (w.setCell ⟨g, off + i, none⟩ (.string x)) base (.slice (some ⟨g, off, none⟩) W.length c) (W.set i x) := by
  rcases h with ⟨e, _⟩ | ⟨g', off', c', cur, e, h1, h2, h3, h4, h5, h6⟩
  · cases e
  · simp only [Value.slice.injEq, Option.some.injEq, Addr.mk.injEq] at e
    obtain ⟨⟨rfl, rfl, _⟩, _, rfl⟩ := e
    have h5' : off + c ≤ cur.size := by simpa [SK] using h5
    have hb : (w.setCell ⟨g, off + i, none⟩ (.string x)).heap[g]? = some (.cells (cur.setIfInBounds (off + i) (.string x)) 9 (0, 0)) := by
      have h4' : w.heap[g]? = some (.cells cur 9 (0, 0)) := h4
      simp [World.setCell, Array.getElem?_modify, h4']
    refine .inr ⟨g, off, c, _, by rw [List.length_set], h1, by rw [List.length_set]; exact h2, h3, hb, by simpa using h5, fun j u hu => ?_⟩
    rw [sk_flat, List.getElem?_map] at hu
    refine cellOf hb _ _ ?_
    rw [Array.getElem?_setIfInBounds]
    by_cases e : i = j
    · subst e
      rw [List.getElem?_set_self hi] at hu
      cases hu
      rw [if_pos rfl, if_pos (by omega)]
    · rw [List.getElem?_set_ne e] at hu
      rw [if_neg (by omega)]
      have := h6 j u (by rw [sk_flat, List.getElem?_map]; exact hu)
      have h4' : w.heap[g]? = some (.cells cur 9 (0, 0)) := h4
      simpa [World.cell?, h4'] using this
theorem set_self {l : List ByteArray} {k : Nat} {z : ByteArray} (h : l[k]? = some z) : l.set k z = l := by
  apply List.ext_getElem?
  intro j
  by_cases e : k = j
  · subst e
    rw [List.getElem?_set_self (List.getElem?_eq_some_iff.1 h).1, h]
  · rw [List.getElem?_set_ne e]
theorem wy_cell {w : World} {base g off c n : Nat} {W : List ByteArray} {i : Nat} {z : ByteArray} (h : Wy SK w base (.slice (some ⟨g, off, none⟩) n c) W) (hi : W[i]? = some z) : w.cell? ⟨g, off + i, none⟩ = some (.string z) ∧ w.frozen? ⟨g, off + i, none⟩ = false ∧ g < w.heap.size ∧ n = W.length := by
  rcases h with ⟨e, _⟩ | ⟨g', off', c', cur, e, h1, h2, h3, h4, h5, h6⟩
  · cases e
  · simp only [Value.slice.injEq, Option.some.injEq, Addr.mk.injEq] at e
    obtain ⟨⟨rfl, rfl, _⟩, rfl, rfl⟩ := e
    refine ⟨h6 i _ (by rw [sk_flat, List.getElem?_map, hi]; rfl), ?_, (Array.getElem?_eq_some_iff.1 h4).1, rfl⟩
    have h4' : w.heap[g]? = some (.cells cur 9 (0, 0)) := h4
    simp [World.frozen?, h4']
/-- the second pattern, as far as it was looked at -/
def yk (ws b : List ByteArray) (k : Nat) : List ByteArray := (b.take k).map (colp ws) ++ b.drop k
theorem yk_len (ws b : List ByteArray) (k : Nat) : (yk ws b k).length = b.length := by simp [yk]; omega
theorem yk_at {ws b : List ByteArray} {k : Nat} {z : ByteArray} (h : b[k]? = some z) : (yk ws b k)[k]? = some z := by
  have hk := (List.getElem?_eq_some_iff.1 h).1
  unfold yk
  rw [List.getElem?_append_right (by rw [List.length_map, List.length_take]; omega), List.length_map, List.length_take, List.getElem?_drop, show k + (k - min k b.length) = k by omega]
  exact h
theorem yk_step {ws b : List ByteArray} {k : Nat} {z : ByteArray} (h : b[k]? = some z) : yk ws b (k + 1) = (yk ws b k).set k (colp ws z) := by
  have hk := (List.getElem?_eq_some_iff.1 h).1
  have hz := (List.getElem?_eq_some_iff.1 h).2
  unfold yk
  rw [take_snoc h, List.map_append, List.set_append_right _ _ (by rw [List.length_map, List.length_take]; omega), List.length_map, List.length_take, List.append_assoc, show k - min k b.length = 0 by omega]
  congr 1
  rw [List.drop_eq_getElem_cons hk]
  rfl
theorem yk_known {ws b : List ByteArray} {k : Nat} {z : ByteArray} (h : b[k]? = some z) (hw : knw ws z ws.length = true) : yk ws b (k + 1) = yk ws b k := by
  rw [yk_step h]
  have : colp ws z = z := by unfold colp; rw [if_pos ((knw_all ws z).1 hw)]
  rw [this]
  exact set_self (yk_at h)
theorem yk_not {ws b : List ByteArray} {k : Nat} {z : ByteArray} (h : b[k]? = some z) (hw : knw ws z ws.length = false) : yk ws b (k + 1) = (yk ws b k).set k bNone := by
  rw [yk_step h]
  have : colp ws z = bNone := by unfold colp; rw [if_neg (fun e => by rw [(knw_all ws z).2 e] at hw; cases hw)]
  rw [this]
theorem yk_all (ws b : List ByteArray) : yk ws b b.length = b.map (colp ws) := by simp [yk]
theorem first_at (a : List ByteArray) : ∀ j, j ≤ a.length → spB a (fun i => false || decide (i = 0)) j = AtP a [] j
  | 0, _ => by rw [spB, atN_zero]; rfl
  | j + 1, hj => by
    obtain ⟨p, hp⟩ : ∃ p, a[j]? = some p := ⟨_, List.getElem?_eq_getElem (by omega)⟩
    rw [spB, first_at a j (by omega), atN_succ hp, hp]
    simp
theorem cov_lk {a b : ByteArray} (ha : patB (pcs a) = true) (hb : patB (pcs b) = true) : (!lkB (wsOf (pcs a)) (pcs a) ((pcs b).map (colp (wsOf (pcs a)))) []) = covR a b := by
  have pa := (patB_iff a).1 ha
  have pb := (patB_iff b).1 hb
  unfold covR
  rw [ha, hb, Bool.true_and, Bool.true_and, Bool.eq_iff_iff, Bool.not_eq_true', faB_iff, cov_iff pa pb]
  constructor
  · intro h
    exact Classical.byContradiction fun hn => by
      rw [lkB_iff.2 ((lk_iff pa pb).2 hn)] at h
      cases h
  · intro h
    rw [← Bool.not_eq_true, lkB_iff, lk_iff pa pb]
    exact fun hn => hn h
set_option maxHeartbeats 4000000 in
theorem rCovers_any (p t : ByteArray) (hp : p.size ≤ 100000000) (ht : t.size ≤ 100000000) (w : World) : Calls Tryd.prog 12 #[.string p, .string t] w fun e w' => e = .returned (.tuple #[.bool (covR p t), .int .i64 (covE p t)]) ∧ Below w.heap.size w w' := by
  go_enter Tryd.func12, Tryd.ntmps12
  go_wp2_with fail
  refine (rpattern_any p hp w).mono ?_
  rintro e w1 ⟨rfl, hb1⟩
  have HB1 := hide hb1
  go_wp2_with fail
  refine (rpattern_any t ht w1).mono ?_
  rintro e w2 ⟨rfl, hb2⟩
  have HB2 : Hid (Below w.heap.size w w2) := belOn hb1 hb1.size hb2
  clear hb1 hb2 HB1
  cases h1 : patB (pcs p)
  · have HF : Hid (covR p t = false ∧ covE p t = 180) := by
      show covR p t = false ∧ covE p t = 180
      unfold covR covE
      rw [h1]
      exact ⟨rfl, rfl⟩
    clear h1
    go_wp2
    go_ret2
    exact ⟨by rw [HF.out.1, HF.out.2]; rfl, HB2.out⟩
  cases h2 : patB (pcs t)
  · have HF : Hid (covR p t = false ∧ covE p t = 180) := by
      show covR p t = false ∧ covE p t = 180
      unfold covR covE
      rw [h1, h2]
      exact ⟨rfl, rfl⟩
    clear h1 h2
    go_wp2
    go_ret2
    exact ⟨by rw [HF.out.1, HF.out.2]; rfl, HB2.out⟩
  have HE : Hid (covE p t = 0) := by show _ = _; unfold covE; rw [h1, h2]; rfl
  have HL := hide (cov_lk h1 h2)
  have h8p := ((patB_iff p).1 h1).2.1
  have h8t := ((patB_iff t).1 h2).2.1
  clear h1 h2
  go_wp2_with fail
  refine (parts_any p hp w2).mono ?_
  rintro e w3 ⟨v3, rfl, hw3, hb3⟩
  have HW3 := hide hw3
  have HB3 : Hid (Below w.heap.size w w3) := belOn HB2.out HB2.out.size hb3
  have h23 := hb3.size
  clear hw3 hb3
  go_wp2_with fail
  refine (parts_any t ht w3).mono ?_
  rintro e w4 ⟨v4, rfl, hw4, hb4⟩
  have hw34 : Wy SK w4 w2.heap.size v3 (pcs p) := HW3.out.at fun q hq => hb4.block q (HW3.out.lt hq).2
  have HTP := hide (wy_tl hw34 (pcs_ne p))
  have HBP : Hid (∀ q, v3.ownBlock = some q → q < w3.heap.size) := fun q hq => (HW3.out.lt hq).2
  have HWY := hide hw4
  have HB4 : Hid (Below w.heap.size w w4) := belOn HB3.out HB3.out.size hb4
  have h34 := hb4.size
  have hwz : w.heap.size ≤ w3.heap.size := HB3.out.size
  obtain ⟨gy, oy, cy, rfl, hcy, hmy, hxy⟩ := hw4.tl (pcs_ne t)
  have hgy3 : w3.heap.size ≤ gy := (HWY.out.lt rfl).1
  have hgy4 : gy < w4.heap.size := hxy.1
  clear hw4 hb4 hw34 HW3 hxy
  go_wp2_with fail
  refine (alike_any (pcs p) w4 v3 HTP.out h8p).mono ?_
  rintro e w5 ⟨v5, rfl, hw5, hb5⟩
  have hwsl : (wsOf (pcs p)).length ≤ 9 := by have := alk_len (pcs p) [bNone]; unfold wsOf; rw [List.length_singleton] at this; omega
  have HTW0 := hide (wy_tl hw5 (alk_ne (pcs p) [bNone] (by simp)))
  have HBW : Hid (∀ q, v5.ownBlock = some q → w4.heap.size ≤ q) := fun q hq => (hw5.lt hq).1
  have HTP5 := hide (HTP.out.keep hb5)
  have HWY5 : Hid (Wy SK w5 w3.heap.size (.slice (some ⟨gy, oy, none⟩) (pcs t).length cy) (yk (wsOf (pcs p)) (pcs t) 0)) := by
    have e0 : yk (wsOf (pcs p)) (pcs t) 0 = pcs t := by simp [yk]
    rw [e0]
    exact HWY.out.at fun q hq => hb5.block q (by cases hq; exact hgy4)
  have HB5 : Hid (Below w.heap.size w w5) := belOn HB4.out HB4.out.size hb5
  have hgy5 : gy < w5.heap.size := Nat.lt_of_lt_of_le hgy4 hb5.size
  obtain ⟨ws, hws⟩ : ∃ ws, ws = wsOf (pcs p) := ⟨_, rfl⟩
  rw [← hws] at hwsl HTW0 HWY5 HL
  clear hw5 hb5 hws HWY HTP
  obtain ⟨gx, ox, cx, rfl, hcx, hmx9, hxx⟩ := HTP5.out
  obtain ⟨gw, ow, cw, rfl, hcw, hmw9, hxw⟩ := HTW0.out
  have hgx : gx < w3.heap.size := HBP.out gx rfl
  have hgw : w4.heap.size ≤ gw := HBW.out gw rfl
  have HXX := hide hxx
  have HXW := hide hxw
  have hgw5 : gw < w5.heap.size := hxw.1
  have hgx5 : gx < w5.heap.size := hxx.1
  have HLY : Hid (∀ k, (yk ws (pcs t) k).length = (pcs t).length) := fun k => yk_len ws (pcs t) k
  have hmx : Tryd.prog.follows .mixedOrders = true := by kernel_rfl
  clear HTP5 HTW0 HBP HBW hxx hxw
  go_wp2
  go_loopw [11] (fun i wr => ∃ k : Nat, k ≤ (pcs t).length ∧ i = .int .i64 k ∧ Kp (fun q => q = gy) w5 wr ∧ Wy SK wr w3.heap.size (.slice (some ⟨gy, oy, none⟩) (pcs t).length cy) (yk ws (pcs t) k)) (fun i _ => (pcs t).length - (intOf i).toNat)
  case atStart => exact ⟨0, Nat.zero_le _, rfl, Kp.refl _ _, HWY5.out⟩
  case round =>
    clear HWY5
    obtain ⟨k, hk, rfl, hkp, hwy⟩ := hrel
    have HKP := hide hkp
    have HWy := hide hwy
    by_cases hkn : k < (pcs t).length
    · obtain ⟨z, hz⟩ : ∃ z, (pcs t)[k]? = some z := ⟨_, List.getElem?_eq_getElem hkn⟩
      obtain ⟨hcz, hfz, hgyr, _⟩ := wy_cell hwy (yk_at (ws := ws) hz)
      have HYK := hide (fun q => yk_known (ws := ws) hz q)
      have HYN := hide (fun q => yk_not (ws := ws) hz q)
      have hkz : (k : Int) < ((pcs t).length : Int) := by omega
      have HZ := hide hz
      clear hz hkp hwy
      obtain ⟨W1, hW1⟩ : ∃ W1, W1 = wr := ⟨_, rfl⟩
      subst hW1
      by_cases q1 : z = bStar
      · have e1 : (z.toList == [42]) = true := by rw [star_eq]; simpa using q1
        have HK0 : Hid (true = knw ws z 0) := by show _ = _; rw [knw_zero, decide_eq_true q1]; rfl
        clear q1
        go_wp2
        go_loopw [12, 13] (fun b i wn => ∃ n : Nat, n ≤ ws.length ∧ i = .int .i64 n ∧ b = .bool (knw ws z n) ∧ Below W1.heap.size W1 wn) (fun _ i _ => ws.length - (intOf i).toNat)
        case atStart => exact ⟨0, Nat.zero_le _, rfl, by rw [← HK0.out], Below.refl _ _⟩
        case round =>
          obtain ⟨n, hn, rfl, rfl, hbn⟩ := hrel
          have HBn := hide hbn
          have hczn : wr.cell? ⟨gy, oy + k, none⟩ = some (.string z) := (World.cell?_of_block (a := ⟨gy, oy + k, none⟩) (hbn.block gy hgyr)).trans hcz
          have hczd : wr.drew.cell? ⟨gy, oy + k, none⟩ = some (.string z) := hczn
          have hfzn : wr.frozen? ⟨gy, oy + k, none⟩ = false := (World.frozen?_of_block (a := ⟨gy, oy + k, none⟩) (hbn.block gy hgyr)).trans hfz
          by_cases hnn : n < ws.length
          · obtain ⟨y, hy⟩ : ∃ y, ws[n]? = some y := ⟨_, List.getElem?_eq_getElem hnn⟩
            have hnz : (n : Int) < (ws.length : Int) := by omega
            have hcy0 : W1.cell? ⟨gw, ow + n, none⟩ = some (.string y) := (Kp.cell HKP.out hgw5 (by omega)).trans (HXW.out.2 n y hy)
            have hcyn : wr.cell? ⟨gw, ow + n, none⟩ = some (.string y) := (World.cell?_of_block (a := ⟨gw, ow + n, none⟩) (hbn.block gw (Nat.lt_of_lt_of_le hgw5 HKP.out.size))).trans hcy0
            have hcyd : wr.drew.cell? ⟨gw, ow + n, none⟩ = some (.string y) := hcyn
            have HKS := hide (knw_step (p := z) hy)
            clear hy hcy0
            cases hkn2 : knw ws z n
            · have HT : Hid (knw ws z (n + 1) = (y.toList == z.toList)) := by show _ = _; rw [HKS.out, hkn2, Bool.false_or, str_eq]
              clear hkn2
              go_wp2_with fail
              refine wp_region_held_drew (S := fun W => W.cell? ⟨gw, ow + n, none⟩ = some (.string y) ∧ W.cell? ⟨gy, oy + k, none⟩ = some (.string z)) (by kernel_rfl) ⟨hcyd, hczd⟩ (fun hHeld => ?_)
              refine take_do (i := 0) (d := 56) (v := ?_) rfl rfl (by kernel_rfl) (by kernel_rfl) (by kernel_rfl) (fun _ _ _ h => h) rfl ?_ (by assumption) ?_
              rotate_left
              · intro W hSw
                try dsimp only at hSw
                go_simp
                try with_reducible rfl
              try simp only [List.setIfInBounds_toArray, List.set_cons_zero, List.set_cons_succ]
              refine take_do (i := 1) (d := 57) (v := ?_) rfl rfl (by kernel_rfl) (by kernel_rfl) (by kernel_rfl) (fun _ _ _ h => h) rfl ?_ (by assumption) ?_
              rotate_left
              · intro W hSw
                try dsimp only at hSw
                go_simp
                try with_reducible rfl
              try simp only [List.setIfInBounds_toArray, List.set_cons_zero, List.set_cons_succ]
              refine take_wanted (i := 2) (d := 58) (v := ?_) rfl rfl (by kernel_rfl) (by kernel_rfl) (by kernel_rfl) (fun _ _ _ h => h) (by first | rfl | kernel_rfl) ?_ (by assumption) ?_
              rotate_left
              · intro W hSw
                try dsimp only at hSw
                go_simp
                try with_reducible rfl
              try simp only [List.setIfInBounds_toArray, List.set_cons_zero, List.set_cons_succ]
              refine take_wanted (i := 3) (d := 59) (v := ?_) rfl rfl (by kernel_rfl) (by kernel_rfl) (by kernel_rfl) (fun _ _ _ h => h) (by first | rfl | kernel_rfl) ?_ (by assumption) ?_
              rotate_left
              · intro W hSw
                try dsimp only at hSw
                go_simp
                try with_reducible rfl
              try simp only [List.setIfInBounds_toArray, List.set_cons_zero, List.set_cons_succ]
              refine take_wanted (i := 4) (d := 60) (v := ?_) rfl rfl (by kernel_rfl) (by kernel_rfl) (by kernel_rfl) (fun _ _ _ h => h) (by first | rfl | kernel_rfl) ?_ (by assumption) ?_
              rotate_left
              · intro W hSw
                try dsimp only at hSw
                go_simp
                try with_reducible rfl
              try simp only [List.setIfInBounds_toArray, List.set_cons_zero, List.set_cons_succ]
              refine take_wanted (i := 5) (d := 61) (v := ?_) rfl rfl (by kernel_rfl) (by kernel_rfl) (by kernel_rfl) (fun _ _ _ h => h) (by first | rfl | kernel_rfl) ?_ (by assumption) ?_
              rotate_left
              · intro W hSw
                try dsimp only at hSw
                go_simp
                try with_reducible rfl
              try simp only [List.setIfInBounds_toArray, List.set_cons_zero, List.set_cons_succ]
              refine take_wanted (i := 6) (d := 62) (v := ?_) rfl rfl (by kernel_rfl) (by kernel_rfl) (by kernel_rfl) (fun _ _ _ h => h) (by first | rfl | kernel_rfl) ?_ (by assumption) ?_
              rotate_left
              · intro W hSw
                try dsimp only at hSw
                go_simp
                try with_reducible rfl
              try simp only [List.setIfInBounds_toArray, List.set_cons_zero, List.set_cons_succ]
              refine take_wanted (i := 7) (d := 63) (v := ?_) rfl rfl (by kernel_rfl) (by kernel_rfl) (by kernel_rfl) (fun _ _ _ h => h) (by first | rfl | kernel_rfl) ?_ (by assumption) ?_
              rotate_left
              · intro W hSw
                try dsimp only at hSw
                go_simp
                try with_reducible rfl
              try simp only [List.setIfInBounds_toArray, List.set_cons_zero, List.set_cons_succ]
              refine take_wanted (i := 8) (d := 64) (v := ?_) rfl rfl (by kernel_rfl) (by kernel_rfl) (by kernel_rfl) (fun _ _ _ h => h) (by first | rfl | kernel_rfl) ?_ (by assumption) ?_
              rotate_left
              · intro W hSw
                try dsimp only at hSw
                go_simp
                try with_reducible rfl
              try simp only [List.setIfInBounds_toArray, List.set_cons_zero, List.set_cons_succ]
              refine take_wanted (i := 9) (d := 65) (v := ?_) rfl rfl (by kernel_rfl) (by kernel_rfl) (by kernel_rfl) (fun _ _ _ h => h) (by first | rfl | kernel_rfl) ?_ (by assumption) ?_
              rotate_left
              · intro W hSw
                try dsimp only at hSw
                go_simp
                try with_reducible rfl
              try simp only [List.setIfInBounds_toArray, List.set_cons_zero, List.set_cons_succ]
              refine take_wanted (i := 10) (d := 66) (v := ?_) rfl rfl (by kernel_rfl) (by kernel_rfl) (by kernel_rfl) (fun _ _ _ h => h) (by first | rfl | kernel_rfl) ?_ (by assumption) ?_
              rotate_left
              · intro W hSw
                try dsimp only at hSw
                go_simp
                try with_reducible rfl
              try simp only [List.setIfInBounds_toArray, List.set_cons_zero, List.set_cons_succ]
              refine take_do (i := 11) (d := 67) (v := ?_) rfl rfl (by kernel_rfl) (by kernel_rfl) (by kernel_rfl) (fun _ _ _ h => h) rfl ?_ (by assumption) ?_
              rotate_left
              · intro W hSw
                try dsimp only at hSw
                go_simp
                try with_reducible rfl
              try simp only [List.setIfInBounds_toArray, List.set_cons_zero, List.set_cons_succ]
              refine take_do (i := 12) (d := 12) (v := ?_) rfl rfl (by kernel_rfl) (by kernel_rfl) (by kernel_rfl) (fun _ _ _ h => h) rfl ?_ (by assumption) ?_
              rotate_left
              · intro W hSw
                try dsimp only at hSw
                go_simp
                try with_reducible rfl
              try simp only [List.setIfInBounds_toArray, List.set_cons_zero, List.set_cons_succ]
              refine wpAnyH_done (by kernel_rfl) ?_ _
              go_wp2
              go_roundw
              case rel => exact ⟨n + 1, by omega, by go_num, by rw [HT.out], HBn.out.drew⟩
              case measure => simp [intOf]; omega
            · have HT : Hid (knw ws z (n + 1) = true) := by show _ = _; rw [HKS.out, hkn2, Bool.true_or]
              clear hkn2
              go_wp2_with fail
              refine wp_region_held_drew (S := fun W => W.cell? ⟨gw, ow + n, none⟩ = some (.string y) ∧ W.cell? ⟨gy, oy + k, none⟩ = some (.string z)) (by kernel_rfl) ⟨hcyd, hczd⟩ (fun hHeld => ?_)
              refine take_do (i := 0) (d := 56) (v := ?_) rfl rfl (by kernel_rfl) (by kernel_rfl) (by kernel_rfl) (fun _ _ _ h => h) rfl ?_ (by assumption) ?_
              rotate_left
              · intro W hSw
                try dsimp only at hSw
                go_simp
                try with_reducible rfl
              try simp only [List.setIfInBounds_toArray, List.set_cons_zero, List.set_cons_succ]
              refine take_do (i := 1) (d := 57) (v := ?_) rfl rfl (by kernel_rfl) (by kernel_rfl) (by kernel_rfl) (fun _ _ _ h => h) rfl ?_ (by assumption) ?_
              rotate_left
              · intro W hSw
                try dsimp only at hSw
                go_simp
                try with_reducible rfl
              try simp only [List.setIfInBounds_toArray, List.set_cons_zero, List.set_cons_succ]
              refine take_skip (i := 2) (d := 58) (j := 1) (b := false) rfl rfl (by kernel_rfl) (by kernel_rfl) (by kernel_rfl) (fun _ _ _ h => h) rfl rfl (by assumption) ?_
              try simp only [List.setIfInBounds_toArray, List.set_cons_zero, List.set_cons_succ]
              refine take_skip (i := 3) (d := 59) (j := 1) (b := false) rfl rfl (by kernel_rfl) (by kernel_rfl) (by kernel_rfl) (fun _ _ _ h => h) rfl rfl (by assumption) ?_
              try simp only [List.setIfInBounds_toArray, List.set_cons_zero, List.set_cons_succ]
              refine take_skip (i := 4) (d := 60) (j := 1) (b := false) rfl rfl (by kernel_rfl) (by kernel_rfl) (by kernel_rfl) (fun _ _ _ h => h) rfl rfl (by assumption) ?_
              try simp only [List.setIfInBounds_toArray, List.set_cons_zero, List.set_cons_succ]
              refine take_skip (i := 5) (d := 61) (j := 1) (b := false) rfl rfl (by kernel_rfl) (by kernel_rfl) (by kernel_rfl) (fun _ _ _ h => h) rfl rfl (by assumption) ?_
              try simp only [List.setIfInBounds_toArray, List.set_cons_zero, List.set_cons_succ]
              refine take_skip (i := 6) (d := 62) (j := 1) (b := false) rfl rfl (by kernel_rfl) (by kernel_rfl) (by kernel_rfl) (fun _ _ _ h => h) rfl rfl (by assumption) ?_
              try simp only [List.setIfInBounds_toArray, List.set_cons_zero, List.set_cons_succ]
              refine take_skip (i := 7) (d := 63) (j := 1) (b := false) rfl rfl (by kernel_rfl) (by kernel_rfl) (by kernel_rfl) (fun _ _ _ h => h) rfl rfl (by assumption) ?_
              try simp only [List.setIfInBounds_toArray, List.set_cons_zero, List.set_cons_succ]
              refine take_skip (i := 8) (d := 64) (j := 1) (b := false) rfl rfl (by kernel_rfl) (by kernel_rfl) (by kernel_rfl) (fun _ _ _ h => h) rfl rfl (by assumption) ?_
              try simp only [List.setIfInBounds_toArray, List.set_cons_zero, List.set_cons_succ]
              refine take_skip (i := 9) (d := 65) (j := 1) (b := false) rfl rfl (by kernel_rfl) (by kernel_rfl) (by kernel_rfl) (fun _ _ _ h => h) rfl rfl (by assumption) ?_
              try simp only [List.setIfInBounds_toArray, List.set_cons_zero, List.set_cons_succ]
              refine take_skip (i := 10) (d := 66) (j := 1) (b := false) rfl rfl (by kernel_rfl) (by kernel_rfl) (by kernel_rfl) (fun _ _ _ h => h) rfl rfl (by assumption) ?_
              try simp only [List.setIfInBounds_toArray, List.set_cons_zero, List.set_cons_succ]
              refine take_do (i := 11) (d := 67) (v := ?_) rfl rfl (by kernel_rfl) (by kernel_rfl) (by kernel_rfl) (fun _ _ _ h => h) rfl ?_ (by assumption) ?_
              rotate_left
              · intro W hSw
                try dsimp only at hSw
                go_simp
                try with_reducible rfl
              try simp only [List.setIfInBounds_toArray, List.set_cons_zero, List.set_cons_succ]
              refine take_do (i := 12) (d := 12) (v := ?_) rfl rfl (by kernel_rfl) (by kernel_rfl) (by kernel_rfl) (fun _ _ _ h => h) rfl ?_ (by assumption) ?_
              rotate_left
              · intro W hSw
                try dsimp only at hSw
                go_simp
                try with_reducible rfl
              try simp only [List.setIfInBounds_toArray, List.set_cons_zero, List.set_cons_succ]
              refine wpAnyH_done (by kernel_rfl) ?_ _
              go_wp2
              go_roundw
              case rel => exact ⟨n + 1, by omega, by go_num, by rw [HT.out], HBn.out.drew⟩
              case measure => simp [intOf]; omega
          · obtain rfl : n = ws.length := by omega
            have hnz : ¬ (ws.length : Int) < (ws.length : Int) := by omega
            have HWn : Hid (Wy SK wr w3.heap.size (.slice (some ⟨gy, oy, none⟩) (pcs t).length cy) (yk ws (pcs t) k)) := HWy.out.at fun q e => hbn.block q (HWy.out.lt e).2
            have HKn : Hid (Kp (fun q => q = gy) w5 wr) := HKP.out.below hbn
            cases hkl : knw ws z ws.length
            · have HY2 := hide (HYN.out hkl)
              have HWS : Hid (Wy SK (wr.setCell ⟨gy, oy + k, none⟩ (.string bNone)) w3.heap.size (.slice (some ⟨gy, oy, none⟩) (pcs t).length cy) ((yk ws (pcs t) k).set k bNone)) := by
                have h := HWn.out
                rw [← HLY.out k] at h
                have h2 := wy_set (i := k) (x := bNone) h (by rw [HLY.out k]; exact hkn)
                rw [HLY.out k] at h2
                exact h2
              have HKS2 : Hid (Kp (fun q => q = gy) w5 (wr.setCell ⟨gy, oy + k, none⟩ (.string bNone))) := HKn.out.setCell rfl _
              clear hkl
              go_wp2
              go_roundw
              case rel => exact ⟨k + 1, by omega, by go_num, HKS2.out, by rw [HY2.out]; exact HWS.out⟩
              case measure => simp [intOf]; omega
            · have HY2 := hide (HYK.out hkl)
              clear hkl
              go_wp2
              go_roundw
              case rel => exact ⟨k + 1, by omega, by go_num, HKn.out, by rw [HY2.out]; exact HWn.out⟩
              case measure => simp [intOf]; omega
      · have e1 : (z.toList == [42]) = false := by rw [star_eq]; simpa using q1
        by_cases q2 : z = bHash
        · have e2 : (z.toList == [35]) = true := by rw [hash_eq]; simpa using q2
          have HK0 : Hid (true = knw ws z 0) := by show _ = _; rw [knw_zero, decide_eq_true q2, Bool.or_true]
          clear q1 q2
          go_wp2
          go_loopw [12, 13] (fun b i wn => ∃ n : Nat, n ≤ ws.length ∧ i = .int .i64 n ∧ b = .bool (knw ws z n) ∧ Below W1.heap.size W1 wn) (fun _ i _ => ws.length - (intOf i).toNat)
          case atStart => exact ⟨0, Nat.zero_le _, rfl, by rw [← HK0.out], Below.refl _ _⟩
          case round =>
            obtain ⟨n, hn, rfl, rfl, hbn⟩ := hrel
            have HBn := hide hbn
            have hczn : wr.cell? ⟨gy, oy + k, none⟩ = some (.string z) := (World.cell?_of_block (a := ⟨gy, oy + k, none⟩) (hbn.block gy hgyr)).trans hcz
            have hczd : wr.drew.cell? ⟨gy, oy + k, none⟩ = some (.string z) := hczn
            have hfzn : wr.frozen? ⟨gy, oy + k, none⟩ = false := (World.frozen?_of_block (a := ⟨gy, oy + k, none⟩) (hbn.block gy hgyr)).trans hfz
            by_cases hnn : n < ws.length
            · obtain ⟨y, hy⟩ : ∃ y, ws[n]? = some y := ⟨_, List.getElem?_eq_getElem hnn⟩
              have hnz : (n : Int) < (ws.length : Int) := by omega
              have hcy0 : W1.cell? ⟨gw, ow + n, none⟩ = some (.string y) := (Kp.cell HKP.out hgw5 (by omega)).trans (HXW.out.2 n y hy)
              have hcyn : wr.cell? ⟨gw, ow + n, none⟩ = some (.string y) := (World.cell?_of_block (a := ⟨gw, ow + n, none⟩) (hbn.block gw (Nat.lt_of_lt_of_le hgw5 HKP.out.size))).trans hcy0
              have hcyd : wr.drew.cell? ⟨gw, ow + n, none⟩ = some (.string y) := hcyn
              have HKS := hide (knw_step (p := z) hy)
              clear hy hcy0
              cases hkn2 : knw ws z n
              · have HT : Hid (knw ws z (n + 1) = (y.toList == z.toList)) := by show _ = _; rw [HKS.out, hkn2, Bool.false_or, str_eq]
                clear hkn2
                go_wp2_with fail
                refine wp_region_held_drew (S := fun W => W.cell? ⟨gw, ow + n, none⟩ = some (.string y) ∧ W.cell? ⟨gy, oy + k, none⟩ = some (.string z)) (by kernel_rfl) ⟨hcyd, hczd⟩ (fun hHeld => ?_)
                refine take_do (i := 0) (d := 56) (v := ?_) rfl rfl (by kernel_rfl) (by kernel_rfl) (by kernel_rfl) (fun _ _ _ h => h) rfl ?_ (by assumption) ?_
                rotate_left
                · intro W hSw
                  try dsimp only at hSw
                  go_simp
                  try with_reducible rfl
                try simp only [List.setIfInBounds_toArray, List.set_cons_zero, List.set_cons_succ]
                refine take_do (i := 1) (d := 57) (v := ?_) rfl rfl (by kernel_rfl) (by kernel_rfl) (by kernel_rfl) (fun _ _ _ h => h) rfl ?_ (by assumption) ?_
                rotate_left
                · intro W hSw
                  try dsimp only at hSw
                  go_simp
                  try with_reducible rfl
                try simp only [List.setIfInBounds_toArray, List.set_cons_zero, List.set_cons_succ]
                refine take_wanted (i := 2) (d := 58) (v := ?_) rfl rfl (by kernel_rfl) (by kernel_rfl) (by kernel_rfl) (fun _ _ _ h => h) (by first | rfl | kernel_rfl) ?_ (by assumption) ?_
                rotate_left
                · intro W hSw
                  try dsimp only at hSw
                  go_simp
                  try with_reducible rfl
                try simp only [List.setIfInBounds_toArray, List.set_cons_zero, List.set_cons_succ]
                refine take_wanted (i := 3) (d := 59) (v := ?_) rfl rfl (by kernel_rfl) (by kernel_rfl) (by kernel_rfl) (fun _ _ _ h => h) (by first | rfl | kernel_rfl) ?_ (by assumption) ?_
                rotate_left
                · intro W hSw
                  try dsimp only at hSw
                  go_simp
                  try with_reducible rfl
                try simp only [List.setIfInBounds_toArray, List.set_cons_zero, List.set_cons_succ]
                refine take_wanted (i := 4) (d := 60) (v := ?_) rfl rfl (by kernel_rfl) (by kernel_rfl) (by kernel_rfl) (fun _ _ _ h => h) (by first | rfl | kernel_rfl) ?_ (by assumption) ?_
                rotate_left
                · intro W hSw
                  try dsimp only at hSw
                  go_simp
                  try with_reducible rfl
                try simp only [List.setIfInBounds_toArray, List.set_cons_zero, List.set_cons_succ]
                refine take_wanted (i := 5) (d := 61) (v := ?_) rfl rfl (by kernel_rfl) (by kernel_rfl) (by kernel_rfl) (fun _ _ _ h => h) (by first | rfl | kernel_rfl) ?_ (by assumption) ?_
                rotate_left
                · intro W hSw
                  try dsimp only at hSw
                  go_simp
                  try with_reducible rfl
                try simp only [List.setIfInBounds_toArray, List.set_cons_zero, List.set_cons_succ]
                refine take_wanted (i := 6) (d := 62) (v := ?_) rfl rfl (by kernel_rfl) (by kernel_rfl) (by kernel_rfl) (fun _ _ _ h => h) (by first | rfl | kernel_rfl) ?_ (by assumption) ?_
                rotate_left
                · intro W hSw
                  try dsimp only at hSw
                  go_simp
                  try with_reducible rfl
                try simp only [List.setIfInBounds_toArray, List.set_cons_zero, List.set_cons_succ]
                refine take_wanted (i := 7) (d := 63) (v := ?_) rfl rfl (by kernel_rfl) (by kernel_rfl) (by kernel_rfl) (fun _ _ _ h => h) (by first | rfl | kernel_rfl) ?_ (by assumption) ?_
                rotate_left
                · intro W hSw
                  try dsimp only at hSw
                  go_simp
                  try with_reducible rfl
                try simp only [List.setIfInBounds_toArray, List.set_cons_zero, List.set_cons_succ]
                refine take_wanted (i := 8) (d := 64) (v := ?_) rfl rfl (by kernel_rfl) (by kernel_rfl) (by kernel_rfl) (fun _ _ _ h => h) (by first | rfl | kernel_rfl) ?_ (by assumption) ?_
                rotate_left
                · intro W hSw
                  try dsimp only at hSw
                  go_simp
                  try with_reducible rfl
                try simp only [List.setIfInBounds_toArray, List.set_cons_zero, List.set_cons_succ]
                refine take_wanted (i := 9) (d := 65) (v := ?_) rfl rfl (by kernel_rfl) (by kernel_rfl) (by kernel_rfl) (fun _ _ _ h => h) (by first | rfl | kernel_rfl) ?_ (by assumption) ?_
                rotate_left
                · intro W hSw
                  try dsimp only at hSw
                  go_simp
                  try with_reducible rfl
                try simp only [List.setIfInBounds_toArray, List.set_cons_zero, List.set_cons_succ]
                refine take_wanted (i := 10) (d := 66) (v := ?_) rfl rfl (by kernel_rfl) (by kernel_rfl) (by kernel_rfl) (fun _ _ _ h => h) (by first | rfl | kernel_rfl) ?_ (by assumption) ?_
                rotate_left
                · intro W hSw
                  try dsimp only at hSw
                  go_simp
                  try with_reducible rfl
                try simp only [List.setIfInBounds_toArray, List.set_cons_zero, List.set_cons_succ]
                refine take_do (i := 11) (d := 67) (v := ?_) rfl rfl (by kernel_rfl) (by kernel_rfl) (by kernel_rfl) (fun _ _ _ h => h) rfl ?_ (by assumption) ?_
                rotate_left
                · intro W hSw
                  try dsimp only at hSw
                  go_simp
                  try with_reducible rfl
                try simp only [List.setIfInBounds_toArray, List.set_cons_zero, List.set_cons_succ]
                refine take_do (i := 12) (d := 12) (v := ?_) rfl rfl (by kernel_rfl) (by kernel_rfl) (by kernel_rfl) (fun _ _ _ h => h) rfl ?_ (by assumption) ?_
                rotate_left
                · intro W hSw
                  try dsimp only at hSw
                  go_simp
                  try with_reducible rfl
                try simp only [List.setIfInBounds_toArray, List.set_cons_zero, List.set_cons_succ]
                refine wpAnyH_done (by kernel_rfl) ?_ _
                go_wp2
                go_roundw
                case rel => exact ⟨n + 1, by omega, by go_num, by rw [HT.out], HBn.out.drew⟩
                case measure => simp [intOf]; omega
              · have HT : Hid (knw ws z (n + 1) = true) := by show _ = _; rw [HKS.out, hkn2, Bool.true_or]
                clear hkn2
                go_wp2_with fail
                refine wp_region_held_drew (S := fun W => W.cell? ⟨gw, ow + n, none⟩ = some (.string y) ∧ W.cell? ⟨gy, oy + k, none⟩ = some (.string z)) (by kernel_rfl) ⟨hcyd, hczd⟩ (fun hHeld => ?_)
                refine take_do (i := 0) (d := 56) (v := ?_) rfl rfl (by kernel_rfl) (by kernel_rfl) (by kernel_rfl) (fun _ _ _ h => h) rfl ?_ (by assumption) ?_
                rotate_left
                · intro W hSw
                  try dsimp only at hSw
                  go_simp
                  try with_reducible rfl
                try simp only [List.setIfInBounds_toArray, List.set_cons_zero, List.set_cons_succ]
                refine take_do (i := 1) (d := 57) (v := ?_) rfl rfl (by kernel_rfl) (by kernel_rfl) (by kernel_rfl) (fun _ _ _ h => h) rfl ?_ (by assumption) ?_
                rotate_left
                · intro W hSw
                  try dsimp only at hSw
                  go_simp
                  try with_reducible rfl
                try simp only [List.setIfInBounds_toArray, List.set_cons_zero, List.set_cons_succ]
                refine take_skip (i := 2) (d := 58) (j := 1) (b := false) rfl rfl (by kernel_rfl) (by kernel_rfl) (by kernel_rfl) (fun _ _ _ h => h) rfl rfl (by assumption) ?_
                try simp only [List.setIfInBounds_toArray, List.set_cons_zero, List.set_cons_succ]
                refine take_skip (i := 3) (d := 59) (j := 1) (b := false) rfl rfl (by kernel_rfl) (by kernel_rfl) (by kernel_rfl) (fun _ _ _ h => h) rfl rfl (by assumption) ?_
                try simp only [List.setIfInBounds_toArray, List.set_cons_zero, List.set_cons_succ]
                refine take_skip (i := 4) (d := 60) (j := 1) (b := false) rfl rfl (by kernel_rfl) (by kernel_rfl) (by kernel_rfl) (fun _ _ _ h => h) rfl rfl (by assumption) ?_
                try simp only [List.setIfInBounds_toArray, List.set_cons_zero, List.set_cons_succ]
                refine take_skip (i := 5) (d := 61) (j := 1) (b := false) rfl rfl (by kernel_rfl) (by kernel_rfl) (by kernel_rfl) (fun _ _ _ h => h) rfl rfl (by assumption) ?_
                try simp only [List.setIfInBounds_toArray, List.set_cons_zero, List.set_cons_succ]
                refine take_skip (i := 6) (d := 62) (j := 1) (b := false) rfl rfl (by kernel_rfl) (by kernel_rfl) (by kernel_rfl) (fun _ _ _ h => h) rfl rfl (by assumption) ?_
                try simp only [List.setIfInBounds_toArray, List.set_cons_zero, List.set_cons_succ]
                refine take_skip (i := 7) (d := 63) (j := 1) (b := false) rfl rfl (by kernel_rfl) (by kernel_rfl) (by kernel_rfl) (fun _ _ _ h => h) rfl rfl (by assumption) ?_
                try simp only [List.setIfInBounds_toArray, List.set_cons_zero, List.set_cons_succ]
                refine take_skip (i := 8) (d := 64) (j := 1) (b := false) rfl rfl (by kernel_rfl) (by kernel_rfl) (by kernel_rfl) (fun _ _ _ h => h) rfl rfl (by assumption) ?_
                try simp only [List.setIfInBounds_toArray, List.set_cons_zero, List.set_cons_succ]
                refine take_skip (i := 9) (d := 65) (j := 1) (b := false) rfl rfl (by kernel_rfl) (by kernel_rfl) (by kernel_rfl) (fun _ _ _ h => h) rfl rfl (by assumption) ?_
                try simp only [List.setIfInBounds_toArray, List.set_cons_zero, List.set_cons_succ]
                refine take_skip (i := 10) (d := 66) (j := 1) (b := false) rfl rfl (by kernel_rfl) (by kernel_rfl) (by kernel_rfl) (fun _ _ _ h => h) rfl rfl (by assumption) ?_
                try simp only [List.setIfInBounds_toArray, List.set_cons_zero, List.set_cons_succ]
                refine take_do (i := 11) (d := 67) (v := ?_) rfl rfl (by kernel_rfl) (by kernel_rfl) (by kernel_rfl) (fun _ _ _ h => h) rfl ?_ (by assumption) ?_
                rotate_left
                · intro W hSw
                  try dsimp only at hSw
                  go_simp
                  try with_reducible rfl
                try simp only [List.setIfInBounds_toArray, List.set_cons_zero, List.set_cons_succ]
                refine take_do (i := 12) (d := 12) (v := ?_) rfl rfl (by kernel_rfl) (by kernel_rfl) (by kernel_rfl) (fun _ _ _ h => h) rfl ?_ (by assumption) ?_
                rotate_left
                · intro W hSw
                  try dsimp only at hSw
                  go_simp
                  try with_reducible rfl
                try simp only [List.setIfInBounds_toArray, List.set_cons_zero, List.set_cons_succ]
                refine wpAnyH_done (by kernel_rfl) ?_ _
                go_wp2
                go_roundw
                case rel => exact ⟨n + 1, by omega, by go_num, by rw [HT.out], HBn.out.drew⟩
                case measure => simp [intOf]; omega
            · obtain rfl : n = ws.length := by omega
              have hnz : ¬ (ws.length : Int) < (ws.length : Int) := by omega
              have HWn : Hid (Wy SK wr w3.heap.size (.slice (some ⟨gy, oy, none⟩) (pcs t).length cy) (yk ws (pcs t) k)) := HWy.out.at fun q e => hbn.block q (HWy.out.lt e).2
              have HKn : Hid (Kp (fun q => q = gy) w5 wr) := HKP.out.below hbn
              cases hkl : knw ws z ws.length
              · have HY2 := hide (HYN.out hkl)
                have HWS : Hid (Wy SK (wr.setCell ⟨gy, oy + k, none⟩ (.string bNone)) w3.heap.size (.slice (some ⟨gy, oy, none⟩) (pcs t).length cy) ((yk ws (pcs t) k).set k bNone)) := by
                  have h := HWn.out
                  rw [← HLY.out k] at h
                  have h2 := wy_set (i := k) (x := bNone) h (by rw [HLY.out k]; exact hkn)
                  rw [HLY.out k] at h2
                  exact h2
                have HKS2 : Hid (Kp (fun q => q = gy) w5 (wr.setCell ⟨gy, oy + k, none⟩ (.string bNone))) := HKn.out.setCell rfl _
                clear hkl
                go_wp2
                go_roundw
                case rel => exact ⟨k + 1, by omega, by go_num, HKS2.out, by rw [HY2.out]; exact HWS.out⟩
                case measure => simp [intOf]; omega
              · have HY2 := hide (HYK.out hkl)
                clear hkl
                go_wp2
                go_roundw
                case rel => exact ⟨k + 1, by omega, by go_num, HKn.out, by rw [HY2.out]; exact HWn.out⟩
                case measure => simp [intOf]; omega
        · have e2 : (z.toList == [35]) = false := by rw [hash_eq]; simpa using q2
          have HK0 : Hid (false = knw ws z 0) := by show _ = _; rw [knw_zero, decide_eq_false q1, decide_eq_false q2]; rfl
          clear q1 q2
          go_wp2
          go_loopw [12, 13] (fun b i wn => ∃ n : Nat, n ≤ ws.length ∧ i = .int .i64 n ∧ b = .bool (knw ws z n) ∧ Below W1.heap.size W1 wn) (fun _ i _ => ws.length - (intOf i).toNat)
          case atStart => exact ⟨0, Nat.zero_le _, rfl, by rw [← HK0.out], Below.refl _ _⟩
          case round =>
            obtain ⟨n, hn, rfl, rfl, hbn⟩ := hrel
            have HBn := hide hbn
            have hczn : wr.cell? ⟨gy, oy + k, none⟩ = some (.string z) := (World.cell?_of_block (a := ⟨gy, oy + k, none⟩) (hbn.block gy hgyr)).trans hcz
            have hczd : wr.drew.cell? ⟨gy, oy + k, none⟩ = some (.string z) := hczn
            have hfzn : wr.frozen? ⟨gy, oy + k, none⟩ = false := (World.frozen?_of_block (a := ⟨gy, oy + k, none⟩) (hbn.block gy hgyr)).trans hfz
            by_cases hnn : n < ws.length
            · obtain ⟨y, hy⟩ : ∃ y, ws[n]? = some y := ⟨_, List.getElem?_eq_getElem hnn⟩
              have hnz : (n : Int) < (ws.length : Int) := by omega
              have hcy0 : W1.cell? ⟨gw, ow + n, none⟩ = some (.string y) := (Kp.cell HKP.out hgw5 (by omega)).trans (HXW.out.2 n y hy)
              have hcyn : wr.cell? ⟨gw, ow + n, none⟩ = some (.string y) := (World.cell?_of_block (a := ⟨gw, ow + n, none⟩) (hbn.block gw (Nat.lt_of_lt_of_le hgw5 HKP.out.size))).trans hcy0
              have hcyd : wr.drew.cell? ⟨gw, ow + n, none⟩ = some (.string y) := hcyn
              have HKS := hide (knw_step (p := z) hy)
              clear hy hcy0
              cases hkn2 : knw ws z n
              · have HT : Hid (knw ws z (n + 1) = (y.toList == z.toList)) := by show _ = _; rw [HKS.out, hkn2, Bool.false_or, str_eq]
                clear hkn2
                go_wp2_with fail
                refine wp_region_held_drew (S := fun W => W.cell? ⟨gw, ow + n, none⟩ = some (.string y) ∧ W.cell? ⟨gy, oy + k, none⟩ = some (.string z)) (by kernel_rfl) ⟨hcyd, hczd⟩ (fun hHeld => ?_)
                refine take_do (i := 0) (d := 56) (v := ?_) rfl rfl (by kernel_rfl) (by kernel_rfl) (by kernel_rfl) (fun _ _ _ h => h) rfl ?_ (by assumption) ?_
                rotate_left
                · intro W hSw
                  try dsimp only at hSw
                  go_simp
                  try with_reducible rfl
                try simp only [List.setIfInBounds_toArray, List.set_cons_zero, List.set_cons_succ]
                refine take_do (i := 1) (d := 57) (v := ?_) rfl rfl (by kernel_rfl) (by kernel_rfl) (by kernel_rfl) (fun _ _ _ h => h) rfl ?_ (by assumption) ?_
                rotate_left
                · intro W hSw
                  try dsimp only at hSw
                  go_simp
                  try with_reducible rfl
                try simp only [List.setIfInBounds_toArray, List.set_cons_zero, List.set_cons_succ]
                refine take_wanted (i := 2) (d := 58) (v := ?_) rfl rfl (by kernel_rfl) (by kernel_rfl) (by kernel_rfl) (fun _ _ _ h => h) (by first | rfl | kernel_rfl) ?_ (by assumption) ?_
                rotate_left
                · intro W hSw
                  try dsimp only at hSw
                  go_simp
                  try with_reducible rfl
                try simp only [List.setIfInBounds_toArray, List.set_cons_zero, List.set_cons_succ]
                refine take_wanted (i := 3) (d := 59) (v := ?_) rfl rfl (by kernel_rfl) (by kernel_rfl) (by kernel_rfl) (fun _ _ _ h => h) (by first | rfl | kernel_rfl) ?_ (by assumption) ?_
                rotate_left
                · intro W hSw
                  try dsimp only at hSw
                  go_simp
                  try with_reducible rfl
                try simp only [List.setIfInBounds_toArray, List.set_cons_zero, List.set_cons_succ]
                refine take_wanted (i := 4) (d := 60) (v := ?_) rfl rfl (by kernel_rfl) (by kernel_rfl) (by kernel_rfl) (fun _ _ _ h => h) (by first | rfl | kernel_rfl) ?_ (by assumption) ?_
                rotate_left
                · intro W hSw
                  try dsimp only at hSw
                  go_simp
                  try with_reducible rfl
                try simp only [List.setIfInBounds_toArray, List.set_cons_zero, List.set_cons_succ]
                refine take_wanted (i := 5) (d := 61) (v := ?_) rfl rfl (by kernel_rfl) (by kernel_rfl) (by kernel_rfl) (fun _ _ _ h => h) (by first | rfl | kernel_rfl) ?_ (by assumption) ?_
                rotate_left
                · intro W hSw
                  try dsimp only at hSw
                  go_simp
                  try with_reducible rfl
                try simp only [List.setIfInBounds_toArray, List.set_cons_zero, List.set_cons_succ]
                refine take_wanted (i := 6) (d := 62) (v := ?_) rfl rfl (by kernel_rfl) (by kernel_rfl) (by kernel_rfl) (fun _ _ _ h => h) (by first | rfl | kernel_rfl) ?_ (by assumption) ?_
                rotate_left
                · intro W hSw
                  try dsimp only at hSw
                  go_simp
                  try with_reducible rfl
                try simp only [List.setIfInBounds_toArray, List.set_cons_zero, List.set_cons_succ]
                refine take_wanted (i := 7) (d := 63) (v := ?_) rfl rfl (by kernel_rfl) (by kernel_rfl) (by kernel_rfl) (fun _ _ _ h => h) (by first | rfl | kernel_rfl) ?_ (by assumption) ?_
                rotate_left
                · intro W hSw
                  try dsimp only at hSw
                  go_simp
                  try with_reducible rfl
                try simp only [List.setIfInBounds_toArray, List.set_cons_zero, List.set_cons_succ]
                refine take_wanted (i := 8) (d := 64) (v := ?_) rfl rfl (by kernel_rfl) (by kernel_rfl) (by kernel_rfl) (fun _ _ _ h => h) (by first | rfl | kernel_rfl) ?_ (by assumption) ?_
                rotate_left
                · intro W hSw
                  try dsimp only at hSw
                  go_simp
                  try with_reducible rfl
                try simp only [List.setIfInBounds_toArray, List.set_cons_zero, List.set_cons_succ]
                refine take_wanted (i := 9) (d := 65) (v := ?_) rfl rfl (by kernel_rfl) (by kernel_rfl) (by kernel_rfl) (fun _ _ _ h => h) (by first | rfl | kernel_rfl) ?_ (by assumption) ?_
                rotate_left
                · intro W hSw
                  try dsimp only at hSw
                  go_simp
                  try with_reducible rfl
                try simp only [List.setIfInBounds_toArray, List.set_cons_zero, List.set_cons_succ]
                refine take_wanted (i := 10) (d := 66) (v := ?_) rfl rfl (by kernel_rfl) (by kernel_rfl) (by kernel_rfl) (fun _ _ _ h => h) (by first | rfl | kernel_rfl) ?_ (by assumption) ?_
                rotate_left
                · intro W hSw
                  try dsimp only at hSw
                  go_simp
                  try with_reducible rfl
                try simp only [List.setIfInBounds_toArray, List.set_cons_zero, List.set_cons_succ]
                refine take_do (i := 11) (d := 67) (v := ?_) rfl rfl (by kernel_rfl) (by kernel_rfl) (by kernel_rfl) (fun _ _ _ h => h) rfl ?_ (by assumption) ?_
                rotate_left
                · intro W hSw
                  try dsimp only at hSw
                  go_simp
                  try with_reducible rfl
                try simp only [List.setIfInBounds_toArray, List.set_cons_zero, List.set_cons_succ]
                refine take_do (i := 12) (d := 12) (v := ?_) rfl rfl (by kernel_rfl) (by kernel_rfl) (by kernel_rfl) (fun _ _ _ h => h) rfl ?_ (by assumption) ?_
                rotate_left
                · intro W hSw
                  try dsimp only at hSw
                  go_simp
                  try with_reducible rfl
                try simp only [List.setIfInBounds_toArray, List.set_cons_zero, List.set_cons_succ]
                refine wpAnyH_done (by kernel_rfl) ?_ _
                go_wp2
                go_roundw
                case rel => exact ⟨n + 1, by omega, by go_num, by rw [HT.out], HBn.out.drew⟩
                case measure => simp [intOf]; omega
              · have HT : Hid (knw ws z (n + 1) = true) := by show _ = _; rw [HKS.out, hkn2, Bool.true_or]
                clear hkn2
                go_wp2_with fail
                refine wp_region_held_drew (S := fun W => W.cell? ⟨gw, ow + n, none⟩ = some (.string y) ∧ W.cell? ⟨gy, oy + k, none⟩ = some (.string z)) (by kernel_rfl) ⟨hcyd, hczd⟩ (fun hHeld => ?_)
                refine take_do (i := 0) (d := 56) (v := ?_) rfl rfl (by kernel_rfl) (by kernel_rfl) (by kernel_rfl) (fun _ _ _ h => h) rfl ?_ (by assumption) ?_
                rotate_left
                · intro W hSw
                  try dsimp only at hSw
                  go_simp
                  try with_reducible rfl
                try simp only [List.setIfInBounds_toArray, List.set_cons_zero, List.set_cons_succ]
                refine take_do (i := 1) (d := 57) (v := ?_) rfl rfl (by kernel_rfl) (by kernel_rfl) (by kernel_rfl) (fun _ _ _ h => h) rfl ?_ (by assumption) ?_
                rotate_left
                · intro W hSw
                  try dsimp only at hSw
                  go_simp
                  try with_reducible rfl
                try simp only [List.setIfInBounds_toArray, List.set_cons_zero, List.set_cons_succ]
                refine take_skip (i := 2) (d := 58) (j := 1) (b := false) rfl rfl (by kernel_rfl) (by kernel_rfl) (by kernel_rfl) (fun _ _ _ h => h) rfl rfl (by assumption) ?_
                try simp only [List.setIfInBounds_toArray, List.set_cons_zero, List.set_cons_succ]
                refine take_skip (i := 3) (d := 59) (j := 1) (b := false) rfl rfl (by kernel_rfl) (by kernel_rfl) (by kernel_rfl) (fun _ _ _ h => h) rfl rfl (by assumption) ?_
                try simp only [List.setIfInBounds_toArray, List.set_cons_zero, List.set_cons_succ]
                refine take_skip (i := 4) (d := 60) (j := 1) (b := false) rfl rfl (by kernel_rfl) (by kernel_rfl) (by kernel_rfl) (fun _ _ _ h => h) rfl rfl (by assumption) ?_
                try simp only [List.setIfInBounds_toArray, List.set_cons_zero, List.set_cons_succ]
                refine take_skip (i := 5) (d := 61) (j := 1) (b := false) rfl rfl (by kernel_rfl) (by kernel_rfl) (by kernel_rfl) (fun _ _ _ h => h) rfl rfl (by assumption) ?_
                try simp only [List.setIfInBounds_toArray, List.set_cons_zero, List.set_cons_succ]
                refine take_skip (i := 6) (d := 62) (j := 1) (b := false) rfl rfl (by kernel_rfl) (by kernel_rfl) (by kernel_rfl) (fun _ _ _ h => h) rfl rfl (by assumption) ?_
                try simp only [List.setIfInBounds_toArray, List.set_cons_zero, List.set_cons_succ]
                refine take_skip (i := 7) (d := 63) (j := 1) (b := false) rfl rfl (by kernel_rfl) (by kernel_rfl) (by kernel_rfl) (fun _ _ _ h => h) rfl rfl (by assumption) ?_
                try simp only [List.setIfInBounds_toArray, List.set_cons_zero, List.set_cons_succ]
                refine take_skip (i := 8) (d := 64) (j := 1) (b := false) rfl rfl (by kernel_rfl) (by kernel_rfl) (by kernel_rfl) (fun _ _ _ h => h) rfl rfl (by assumption) ?_
                try simp only [List.setIfInBounds_toArray, List.set_cons_zero, List.set_cons_succ]
                refine take_skip (i := 9) (d := 65) (j := 1) (b := false) rfl rfl (by kernel_rfl) (by kernel_rfl) (by kernel_rfl) (fun _ _ _ h => h) rfl rfl (by assumption) ?_
                try simp only [List.setIfInBounds_toArray, List.set_cons_zero, List.set_cons_succ]
                refine take_skip (i := 10) (d := 66) (j := 1) (b := false) rfl rfl (by kernel_rfl) (by kernel_rfl) (by kernel_rfl) (fun _ _ _ h => h) rfl rfl (by assumption) ?_
                try simp only [List.setIfInBounds_toArray, List.set_cons_zero, List.set_cons_succ]
                refine take_do (i := 11) (d := 67) (v := ?_) rfl rfl (by kernel_rfl) (by kernel_rfl) (by kernel_rfl) (fun _ _ _ h => h) rfl ?_ (by assumption) ?_
                rotate_left
                · intro W hSw
                  try dsimp only at hSw
                  go_simp
                  try with_reducible rfl
                try simp only [List.setIfInBounds_toArray, List.set_cons_zero, List.set_cons_succ]
                refine take_do (i := 12) (d := 12) (v := ?_) rfl rfl (by kernel_rfl) (by kernel_rfl) (by kernel_rfl) (fun _ _ _ h => h) rfl ?_ (by assumption) ?_
                rotate_left
                · intro W hSw
                  try dsimp only at hSw
                  go_simp
                  try with_reducible rfl
                try simp only [List.setIfInBounds_toArray, List.set_cons_zero, List.set_cons_succ]
                refine wpAnyH_done (by kernel_rfl) ?_ _
                go_wp2
                go_roundw
                case rel => exact ⟨n + 1, by omega, by go_num, by rw [HT.out], HBn.out.drew⟩
                case measure => simp [intOf]; omega
            · obtain rfl : n = ws.length := by omega
              have hnz : ¬ (ws.length : Int) < (ws.length : Int) := by omega
              have HWn : Hid (Wy SK wr w3.heap.size (.slice (some ⟨gy, oy, none⟩) (pcs t).length cy) (yk ws (pcs t) k)) := HWy.out.at fun q e => hbn.block q (HWy.out.lt e).2
              have HKn : Hid (Kp (fun q => q = gy) w5 wr) := HKP.out.below hbn
              cases hkl : knw ws z ws.length
              · have HY2 := hide (HYN.out hkl)
                have HWS : Hid (Wy SK (wr.setCell ⟨gy, oy + k, none⟩ (.string bNone)) w3.heap.size (.slice (some ⟨gy, oy, none⟩) (pcs t).length cy) ((yk ws (pcs t) k).set k bNone)) := by
                  have h := HWn.out
                  rw [← HLY.out k] at h
                  have h2 := wy_set (i := k) (x := bNone) h (by rw [HLY.out k]; exact hkn)
                  rw [HLY.out k] at h2
                  exact h2
                have HKS2 : Hid (Kp (fun q => q = gy) w5 (wr.setCell ⟨gy, oy + k, none⟩ (.string bNone))) := HKn.out.setCell rfl _
                clear hkl
                go_wp2
                go_roundw
                case rel => exact ⟨k + 1, by omega, by go_num, HKS2.out, by rw [HY2.out]; exact HWS.out⟩
                case measure => simp [intOf]; omega
              · have HY2 := hide (HYK.out hkl)
                clear hkl
                go_wp2
                go_roundw
                case rel => exact ⟨k + 1, by omega, by go_num, HKn.out, by rw [HY2.out]; exact HWn.out⟩
                case measure => simp [intOf]; omega
    · have hkz : ¬ (k : Int) < ((pcs t).length : Int) := by omega
      obtain rfl : k = (pcs t).length := by omega
      rw [yk_all] at hwy
      have hbl : ((pcs t).map (colp ws)).length = (pcs t).length := List.length_map _
      have HTY := hide (wy_tl hwy (by intro e; have := pcs_ne t; rw [List.map_eq_nil_iff] at e; exact this e))
      have HTX : Hid (Tl wr (.slice (some ⟨gx, ox, none⟩) (pcs p).length cx) (pcs p)) := ⟨gx, ox, cx, rfl, hcx, hmx9, HXX.out.kp hkp (by omega)⟩
      have HTW : Hid (Tl wr (.slice (some ⟨gw, ow, none⟩) ws.length cw) ws) := ⟨gw, ow, cw, rfl, hcw, hmw9, HXW.out.kp hkp (by omega)⟩
      have HBW1 : Hid (Below w.heap.size w wr) := ⟨hkp.1.trans HB5.out.os, hkp.2.1.trans HB5.out.tape, hkp.2.2.1.trans HB5.out.output, Nat.le_trans HB5.out.size hkp.size, fun q hq => (Kp.block hkp (Nat.lt_of_lt_of_le hq HB5.out.size) (by omega)).trans (HB5.out.block q hq)⟩
      obtain ⟨N, hN⟩ : ∃ N, N = (pcs p).length + 1 := ⟨_, rfl⟩
      have hmk := run_make_row' (P := Tryd.prog) 48 3 (.int .i64 0) 8 Tryd.underlying48 Tryd.infoI rfl .i64 .i64 N (by omega) (by omega)
      have hNz : (((pcs p).length : Int) + 1) = (N : Int) := by omega
      have hN0 : 0 < N := by omega
      have HN := hide hN
      have hN9 : N ≤ 9 := by omega
      have HW2 : Hid ((wr.alloc (.cells (madeCells #[.int .i64 0] N) 3)).heap[wr.heap.size]? = some (.cells (arr (fun _ => false) N) 3 (0, 0))) := by show _ = _; rw [heap_new, made_arr]
      have hout : (wr.alloc (.cells (madeCells #[.int .i64 0] N) 3)).cell? ⟨wr.heap.size, 0, none⟩ = some (.int .i64 0) := cellOf HW2.out 0 _ (arr_at hN0)
      have hfr : (wr.alloc (.cells (madeCells #[.int .i64 0] N) 3)).frozen? ⟨wr.heap.size, 0, none⟩ = false := by have := HW2.out; unfold World.frozen?; rw [this]; rfl
      have HW3 := hide (set_arr HW2.out hN0)
      have HSP : Hid (∀ W, Below wr.heap.size wr W → W.heap[wr.heap.size]? = some (.cells (arr (fun j => false || decide (j = 0)) N) 3 (0, 0)) → Calls Tryd.prog 31 #[.slice (some ⟨gx, ox, none⟩) (pcs p).length cx, .slice (some ⟨wr.heap.size, 0, none⟩) N N] W fun e w' => ∃ v, e = .returned v ∧ Nf w' v ((pcs p).length + 1) (AtP (pcs p) []) ∧ Below wr.heap.size wr w') := fun W q1 q2 => by
        have hnf : Nf W (.slice (some ⟨wr.heap.size, 0, none⟩) N N) ((pcs p).length + 1) (fun j => false || decide (j = 0)) := by
          refine ⟨wr.heap.size, N, by rw [hN], by rw [hN]; exact Nat.le_refl _, by unfold maxLen; omega, (Array.getElem?_eq_some_iff.1 q2).1, fun i hi => cellOf q2 i _ (arr_at (by rw [hN]; exact hi))⟩
        exact (spread_any (pcs p) _ W _ _ (HTX.out.keep q1) hnf h8p).mono fun e w' ⟨v, r1, r2, r3⟩ => ⟨v, r1, r2.congr (fun i hi => first_at (pcs p) i (by omega)), belOn q1 q1.size r3⟩
      have HLK : Hid (∀ W v, Below wr.heap.size wr W → Nf W v ((pcs p).length + 1) (AtP (pcs p) []) → Calls Tryd.prog 30 #[.slice (some ⟨gx, ox, none⟩) (pcs p).length cx, .slice (some ⟨gy, oy, none⟩) (pcs t).length cy, v, .int .i64 0, .slice (some ⟨gw, ow, none⟩) ws.length cw, .int .i64 0] W fun e w' => e = .returned (.bool (lkB ws (pcs p) ((pcs t).map (colp ws)) [])) ∧ Below wr.heap.size wr w') := fun W v q1 q2 =>
        (lacks_any ws (pcs p) ((pcs t).map (colp ws)) h8p (by rw [hbl]; exact h8t) (by omega) _ 0 [] (Nat.le_refl _) (Nat.zero_le _) (by simp) W _ _ v _ 0 0 rfl rfl (HTX.out.keep q1) (HTY.out.keep q1) q2 (HTW.out.keep q1)).mono fun e w' ⟨r1, r2⟩ => ⟨r1, belOn q1 q1.size r2⟩
      clear hkp hwy hN
      go_wp2_with fail
      refine (HSP.out _ ?_ ?_).mono ?_
      · exact bel1 (Below.refl _ _) (Nat.le_refl _) _
      · rw [heap_new, made_arr, arr_set hN0]
      rintro e w8 ⟨v8, rfl, hn8, hb8⟩
      have HC8 := hide (HLK.out w8 v8 hb8 hn8)
      clear hn8 hb8 HSP HLK hmk hout hfr HW3 HW2
      go_wp2_with fail
      refine HC8.out.mono ?_
      rintro e w9 ⟨rfl, hb9⟩
      go_wp2
      go_ret2
      exact ⟨by rw [← HL.out, HE.out]; rfl, belOn HBW1.out HBW1.out.size hb9⟩
end Go.Proofs.YtmanfakdbmlfeaaDoor
