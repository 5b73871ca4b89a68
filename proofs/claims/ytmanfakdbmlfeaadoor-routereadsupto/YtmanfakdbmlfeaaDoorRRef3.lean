
/- Stage 18: patterns and topics, the document's. -/
import Derived.Test.YtmanfakdbmlfeaaDoorRRef2
namespace Go.Proofs.YtmanfakdbmlfeaaDoor
open Go.RowKit Go.Maps
set_option linter.unusedVariables false
set_option linter.unusedSimpArgs false
theorem topB_no {l : List ByteArray} {k : Nat} {x : ByteArray} (hx : l[k]? = some x) (h : wd x = false) : topB l = false := by
  have : l.all wd = false := by
    rw [List.all_eq_false]
    exact ⟨x, List.mem_of_getElem? hx, by simp [h]⟩
  unfold topB
  rw [this]
  simp
set_option maxHeartbeats 4000000 in
theorem rtopic_any (s : ByteArray) (hs : s.size ≤ 100000000) (w : World) : Calls Tryd.prog 25 #[.string s] w fun e w' => e = .returned (.bool (topB (pcs s))) ∧ Below w.heap.size w w' := by
  have hpl := pcs_len s
  have hsm : ∀ x, x ∈ pcs s → x.size ≤ s.size := fun x h => pcs_mem s h
  have hne := pcs_ne s
  have HN : Hid (∀ (k : Nat) x, (pcs s)[k]? = some x → wd x = false → topB (pcs s) = false) := fun k x h1 h2 => topB_no h1 h2
  have HY : Hid ((∀ (j : Nat) x, (pcs s)[j]? = some x → wd x = true) → topB (pcs s) = decide ((pcs s).length ≤ 8)) := fun h1 => by
    unfold topB
    rw [show (pcs s).all wd = true from List.all_eq_true.2 (fun x hx => by obtain ⟨j, hj, rfl⟩ := List.mem_iff_getElem.1 hx; exact h1 j _ (List.getElem?_eq_getElem hj)), Bool.and_true]
  go_enter Tryd.func25, Tryd.ntmps25
  go_wp2_with fail
  refine (parts_any s hs w).mono ?_
  rintro e w1 ⟨v, rfl, hwy, hb1⟩
  obtain ⟨g, o, c, rfl, hc, hmc, hx⟩ := hwy.tl hne
  have hlt := hx.1
  clear hwy hne
  go_wp2
  go_loop [4] (fun i => ∃ k : Nat, k ≤ (pcs s).length ∧ i = .int .i64 k ∧ Hid (∀ (j : Nat) x, j < k → (pcs s)[j]? = some x → wd x = true)) (fun i => (pcs s).length - (intOf i).toNat)
  case atStart => exact ⟨0, Nat.zero_le _, rfl, fun j x hj => by omega⟩
  case round =>
    obtain ⟨k, hk, rfl, HK⟩ := hrel
    by_cases hkn : k < (pcs s).length
    · obtain ⟨x, hxk⟩ : ∃ x, (pcs s)[k]? = some x := ⟨_, List.getElem?_eq_getElem hkn⟩
      have hcell := hx.2 k x hxk
      have HX := hide hxk
      have hxs : x.size ≤ 281474976710656 := by have := hsm x (List.mem_of_getElem? hxk); omega
      clear hxk
      go_wp2_with fail
      refine (rword_any x hxs w1).mono ?_
      rintro e w2 ⟨rfl, rfl⟩
      cases hw : wd x
      · have HF := hide (HN.out k x HX.out hw)
        clear hw
        go_wp2
        go_ret
        exact ⟨by rw [HF.out]; rfl, hb1⟩
      · have HW := hide hw
        clear hw
        go_wp2
        go_round
        case rel => exact ⟨k + 1, by omega, by go_num, fun j y hj hy => by
          by_cases e : j = k
          · subst e
            rw [HX.out] at hy
            cases hy
            exact HW.out
          · exact HK.out j y (by omega) hy⟩
        case measure => simp [intOf]; omega
    · have HF := hide (HY.out (fun j x hx => HK.out j x (by have := (List.getElem?_eq_some_iff.1 hx).1; omega) hx))
      by_cases h8 : (pcs s).length ≤ 8
      · have HG : Hid (topB (pcs s) = true) := by show _ = _; rw [HF.out]; simp [h8]
        go_wp2
        go_ret
        exact ⟨by rw [HG.out]; first | rfl | (simp; omega), hb1⟩
      · have HG : Hid (topB (pcs s) = false) := by show _ = _; rw [HF.out]; simp [h8]
        go_wp2
        go_ret
        exact ⟨by rw [HG.out]; first | rfl | (simp; omega), hb1⟩
set_option maxHeartbeats 4000000 in
theorem rpattern_any (s : ByteArray) (hs : s.size ≤ 100000000) (w : World) : Calls Tryd.prog 24 #[.string s] w fun e w' => e = .returned (.bool (patB (pcs s))) ∧ Below w.heap.size w w' := by
  have hpl := pcs_len s
  have hsm : ∀ x, x ∈ pcs s → x.size ≤ s.size := fun x h => pcs_mem s h
  have hne := pcs_ne s
  have HN : Hid (∀ (k : Nat) x, (pcs s)[k]? = some x → pt x = false → patB (pcs s) = false) := fun k x h1 h2 => patB_no h1 h2
  have HY : Hid ((∀ (j : Nat) x, (pcs s)[j]? = some x → pt x = true) → patB (pcs s) = (decide ((pcs s).length ≤ 8) && decide (hashes (pcs s) ≤ 2))) := fun h1 => by
    unfold patB
    rw [show (pcs s).all pt = true from List.all_eq_true.2 (fun x hx => by obtain ⟨j, hj, rfl⟩ := List.mem_iff_getElem.1 hx; exact h1 j _ (List.getElem?_eq_getElem hj)), Bool.and_true]
  have HH0 : Hid (∀ (k : Nat) x, (pcs s)[k]? = some x → hashes ((pcs s).take (k + 1)) = hashes ((pcs s).take k) + if x = bHash then 1 else 0) := fun k x h => hashes_snoc _ k x h
  have HHL : Hid (∀ k, hashes ((pcs s).take k) ≤ 100000001) := fun k => by
    have h1 := hashes_le ((pcs s).take k)
    rw [List.length_take] at h1
    omega
  go_enter Tryd.func24, Tryd.ntmps24
  go_wp2_with fail
  refine (parts_any s hs w).mono ?_
  rintro e w1 ⟨v, rfl, hwy, hb1⟩
  obtain ⟨g, o, c, rfl, hc, hmc, hx⟩ := hwy.tl hne
  have hlt := hx.1
  clear hwy hne
  go_wp2
  go_loop [5, 4] (fun i n => ∃ k : Nat, k ≤ (pcs s).length ∧ i = .int .i64 k ∧ n = .int .i64 (hashes ((pcs s).take k) : Nat) ∧ Hid (∀ (j : Nat) x, j < k → (pcs s)[j]? = some x → pt x = true)) (fun i _ => (pcs s).length - (intOf i).toNat)
  case atStart => exact ⟨0, Nat.zero_le _, rfl, rfl, fun j x hj => by omega⟩
  case round =>
    obtain ⟨k, hk, rfl, rfl, HK⟩ := hrel
    have hle := HHL.out k
    by_cases hkn : k < (pcs s).length
    · obtain ⟨x, hxk⟩ : ∃ x, (pcs s)[k]? = some x := ⟨_, List.getElem?_eq_getElem hkn⟩
      have hcell := hx.2 k x hxk
      have HX := hide hxk
      have HH := hide (HH0.out k x hxk)
      have hxs : x.size ≤ 281474976710656 := by have := hsm x (List.mem_of_getElem? hxk); omega
      clear hxk
      go_wp2_with fail
      refine (rword_any x hxs w1).mono ?_
      rintro e w2 ⟨rfl, rfl⟩
      by_cases h1 : x = bHash
      · have e1 : (x.toList == [35]) = true := by rw [hash_eq]; simpa using h1
        have e1' : (x.toList != [35]) = false := by rw [bne, e1]; rfl
        have e2 : (x.toList == [42]) = false := by rw [star_eq, h1]; rfl
        have e2' : (x.toList != [42]) = true := by rw [bne, e2]; rfl
        have e3 : ¬ x.toList = [42] := by intro e; rw [e] at e2; exact absurd e2 (by decide)
        have e4 : x.toList = [35] := by simpa using e1
        have HP : Hid (pt x = true) := by show pt x = true; unfold pt; simp [h1]
        have HW : Hid (wd x = false) := by show wd x = false; rw [h1]; decide +kernel
        have HH' : Hid (hashes ((pcs s).take (k + 1)) = hashes ((pcs s).take k) + 1) := by
          have := HH.out
          rw [if_pos h1] at this
          exact this
        clear HH h1
        rw [HW.out]
        go_wp2
        go_round
        case rel => exact ⟨k + 1, by omega, by go_num, by rw [HH'.out]; go_num, fun j y hj hy => by
          by_cases e : j = k
          · subst e
            rw [HX.out] at hy
            cases hy
            exact HP.out
          · exact HK.out j y (by omega) hy⟩
        case measure => simp [intOf]; omega
      · have e1 : (x.toList == [35]) = false := by rw [hash_eq]; simpa using h1
        have e1' : (x.toList != [35]) = true := by rw [bne, e1]; rfl
        have HH' : Hid (hashes ((pcs s).take (k + 1)) = hashes ((pcs s).take k)) := by
          have := HH.out
          rw [if_neg h1] at this
          exact this
        clear HH
        by_cases h2 : x = bStar
        · have e2 : (x.toList == [42]) = true := by rw [star_eq]; simpa using h2
          have e2' : (x.toList != [42]) = false := by rw [bne, e2]; rfl
          have HP : Hid (pt x = true) := by show pt x = true; unfold pt; simp [h2]
          have HW : Hid (wd x = false) := by show wd x = false; rw [h2]; decide +kernel
          clear h1 h2
          rw [HW.out]
          go_wp2
          go_round
          case rel => exact ⟨k + 1, by omega, by go_num, by rw [HH'.out], fun j y hj hy => by
            by_cases e : j = k
            · subst e
              rw [HX.out] at hy
              cases hy
              exact HP.out
            · exact HK.out j y (by omega) hy⟩
          case measure => simp [intOf]; omega
        · have e2 : (x.toList == [42]) = false := by rw [star_eq]; simpa using h2
          have e2' : (x.toList != [42]) = true := by rw [bne, e2]; rfl
          cases hw : wd x
          · have HF := hide (HN.out k x HX.out (by unfold pt; simp [h1, h2, hw]))
            clear hw h1 h2
            go_wp2
            go_ret
            exact ⟨by rw [HF.out]; rfl, hb1⟩
          · have HP : Hid (pt x = true) := by show pt x = true; unfold pt; simp [hw]
            clear hw h1 h2
            go_wp2
            go_round
            case rel => exact ⟨k + 1, by omega, by go_num, by rw [HH'.out], fun j y hj hy => by
              by_cases e : j = k
              · subst e
                rw [HX.out] at hy
                cases hy
                exact HP.out
              · exact HK.out j y (by omega) hy⟩
            case measure => simp [intOf]; omega
    · have HF := hide (HY.out (fun j x hx => HK.out j x (by have := (List.getElem?_eq_some_iff.1 hx).1; omega) hx))
      have HT : Hid ((pcs s).take k = pcs s) := List.take_of_length_le (by omega)
      rw [HT.out] at hle ⊢
      by_cases h8 : (pcs s).length ≤ 8
      · by_cases h2 : hashes (pcs s) ≤ 2
        · have HG : Hid (patB (pcs s) = true) := by show _ = _; rw [HF.out]; simp [h8, h2]
          go_wp2
          go_ret
          exact ⟨by rw [HG.out]; first | rfl | (simp; omega), hb1⟩
        · have HG : Hid (patB (pcs s) = false) := by show _ = _; rw [HF.out]; simp [h2]
          go_wp2
          go_ret
          exact ⟨by rw [HG.out]; first | rfl | (simp; omega), hb1⟩
      · have HG : Hid (patB (pcs s) = false) := by show _ = _; rw [HF.out]; simp [h8]
        go_wp2
        go_ret
        exact ⟨by rw [HG.out]; first | rfl | (simp; omega), hb1⟩
end Go.Proofs.YtmanfakdbmlfeaaDoor
