
/- Stage 18: a pattern's parts, a topic's words. -/
import Derived.Test.YtmanfakdbmlfeaaDoorRGen
namespace Go.Proofs.YtmanfakdbmlfeaaDoor
open Go.RowKit
set_option linter.unusedVariables false
set_option linter.unusedSimpArgs false
/-- a list of texts at a place -/
def Tx (w : World) (g off : Nat) (l : List ByteArray) : Prop := g < w.heap.size ∧ ∀ (i : Nat) x, l[i]? = some x → w.cell? ⟨g, off + i, none⟩ = some (.string x)
theorem Tx.keep {w w' : World} {g off : Nat} {l : List ByteArray} (h : Tx w g off l) {B : Nat} (hb : Below B w w') (hB : g < B) : Tx w' g off l :=
  ⟨Nat.lt_of_lt_of_le h.1 hb.size, fun i x hx => (World.cell?_of_block (a := ⟨g, off + i, none⟩) (hb.block g hB)).trans (h.2 i x hx)⟩
theorem Tx.tail {w : World} {g off : Nat} {x : ByteArray} {l : List ByteArray} (h : Tx w g off (x :: l)) : Tx w g (off + 1) l :=
  ⟨h.1, fun i y hy => by have := h.2 (i + 1) y (by simpa using hy); rw [← this]; congr 2; omega⟩
/-- what comes of a pattern, of a topic: nothing, or its pieces -/
def PR (ok : Bool) (s : ByteArray) (w : World) (e : Ending) (w' : World) : Prop := Below w.heap.size w w' ∧ ((ok = false ∧ e = .returned (.slice none 0 0)) ∨ (ok = true ∧ ∃ (g c : Nat), e = .returned (.slice (some ⟨g, 0, none⟩) (pcs s).length c) ∧ w.heap.size ≤ g ∧ (pcs s).length ≤ c ∧ c ≤ 9 ∧ Tx w' g 0 (pcs s)))
theorem str_eq (s t : ByteArray) : (s.toList == t.toList) = decide (s = t) := by
  rw [Bool.eq_iff_iff, beq_iff_eq, decide_eq_true_eq, Lib.toList_data, Lib.toList_data]
  constructor
  · intro h; rw [← bOf_data s, h, bOf_data]
  · intro h; rw [h]
theorem hash_eq (s : ByteArray) : (s.toList == [35]) = decide (s = bHash) := by have := str_eq s bHash; rwa [show bHash.toList = [35] by rw [Lib.toList_data]; rfl] at this
theorem star_eq (s : ByteArray) : (s.toList == [42]) = decide (s = bStar) := by have := str_eq s bStar; rwa [show bStar.toList = [42] by rw [Lib.toList_data]; rfl] at this
theorem patB_no {l : List ByteArray} {k : Nat} {x : ByteArray} (hx : l[k]? = some x) (h : pt x = false) : patB l = false := by
  have : l.all pt = false := by
    rw [List.all_eq_false]
    exact ⟨x, List.mem_of_getElem? hx, by simp [h]⟩
  unfold patB
  rw [this]
  simp
theorem hashes_snoc (l : List ByteArray) (k : Nat) (x : ByteArray) (hx : l[k]? = some x) : hashes (l.take (k + 1)) = hashes (l.take k) + if x = bHash then 1 else 0 := by
  rw [take_snoc hx]
  unfold hashes
  rw [List.filter_append, List.length_append]
  by_cases h : x = bHash <;> simp [h]
theorem hashes_le (l : List ByteArray) : hashes l ≤ l.length := List.length_filter_le _ _
set_option maxHeartbeats 4000000 in
theorem patternOf_any (s : ByteArray) (hs : s.size ≤ 281474976710656) (w : World) : Calls Tryd.prog 21 #[.string s] w (PR (patB (pcs s)) s w) := by
  go_enter Tryd.func21, Tryd.ntmps21
  go_wp2_with fail
  refine (split_any s hs w).mono ?_
  rintro e w' ⟨hb, ⟨h8, rfl⟩ | ⟨h8, g, c, cs, rfl, hg, hc, h9, hcell, hcs, hx⟩⟩
  · have HP : Hid (patB (pcs s) = false) := by
      show patB (pcs s) = false
      unfold patB
      simp
      omega
    go_wp2
    go_loop [11, 4] (fun i n => i = .int .i64 0 ∧ n = .int .i64 0) (fun _ _ => 0)
    case atStart => exact ⟨rfl, rfl⟩
    case round =>
      obtain ⟨rfl, rfl⟩ := hrel
      go_wp2
      go_ret
      exact ⟨hb, .inl ⟨HP.out, rfl⟩⟩
  · have hlt : g < w'.heap.size := (Array.getElem?_eq_some_iff.1 hcell).1
    have ht : Tx w' g 0 (pcs s) := ⟨hlt, fun i x h => by rw [Nat.zero_add]; exact cellOf hcell i _ (hx i x h)⟩
    have hlen := hc
    have hn := hashes_le (pcs s)
    clear hx hcell hcs cs
    have hsm : ∀ x, x ∈ pcs s → x.size ≤ s.size := fun x h => pcs_mem s h
    obtain ⟨l, hl⟩ : ∃ l, l = pcs s := ⟨_, rfl⟩
    rw [← hl] at h8 hc ht hn hlen hsm ⊢
    have HS := hide hl
    clear hl
    have HY : Hid ((∀ (j : Nat) x, l[j]? = some x → pt x = true) → ¬ 2 < hashes l → patB l = true) := by
      intro h1 h2
      unfold patB
      simp only [Bool.and_eq_true, decide_eq_true_eq, List.all_eq_true]
      exact ⟨⟨h8, fun x hx => by obtain ⟨j, hj, rfl⟩ := List.mem_iff_getElem.1 hx; exact h1 j _ (List.getElem?_eq_getElem hj)⟩, by omega⟩
    have HN : Hid (2 < hashes l → patB l = false) := by
      intro h
      unfold patB
      simp
      omega
    go_wp2
    go_loop [11, 4] (fun i n => ∃ k : Nat, k ≤ l.length ∧ i = .int .i64 k ∧ n = .int .i64 (hashes (l.take k) : Nat) ∧ Hid (∀ (j : Nat) x, j < k → l[j]? = some x → pt x = true)) (fun i _ => l.length - (intOf i).toNat)
    case atStart => exact ⟨0, Nat.zero_le _, rfl, rfl, fun j x hj => by omega⟩
    case round =>
      obtain ⟨k, hk, rfl, rfl, HK⟩ := hrel
      have hle : hashes (l.take k) ≤ 8 := by have := hashes_le (l.take k); simp at this; omega
      by_cases hkn : k < l.length
      · obtain ⟨x, hx⟩ : ∃ x, l[k]? = some x := ⟨_, List.getElem?_eq_getElem hkn⟩
        have hcell := ht.2 k x hx
        rw [Nat.zero_add] at hcell
        have HH : Hid (hashes (l.take (k + 1)) = hashes (l.take k) + if x = bHash then 1 else 0) := hashes_snoc l k x hx
        have HX := hide hx
        have hxs : x.size ≤ 281474976710656 := Nat.le_trans (hsm x (List.mem_of_getElem? hx)) hs
        clear hx
        by_cases h1 : x = bHash
        · have e1 : (x.toList == [35]) = true := by rw [hash_eq]; simpa using h1
          have HP : Hid (pt x = true) := by show pt x = true; unfold pt; simp [h1]
          have HH' : Hid (hashes (l.take (k + 1)) = hashes (l.take k) + 1) := by
            have := HH.out
            rw [if_pos h1] at this
            exact this
          clear HH h1
          go_wp2
          go_round
          case rel => exact ⟨k + 1, by omega, by go_num, by rw [HH'.out]; go_num, fun j y hj hy => by
            by_cases e : j = k
            · subst e
              rw [HX.out] at hy
              cases hy
              exact HP.out
            · exact HK.out j y (by omega) hy⟩
          case measure => simp [intOf]; omega
        · have e1 : (x.toList == [35]) = false := by rw [hash_eq]; simpa using h1
          have HH' : Hid (hashes (l.take (k + 1)) = hashes (l.take k)) := by
            have := HH.out
            rw [if_neg h1] at this
            exact this
          clear HH
          by_cases h2 : x = bStar
          · have e2 : (x.toList == [42]) = true := by rw [star_eq]; simpa using h2
            have HP : Hid (pt x = true) := by show pt x = true; unfold pt; simp [h2]
            clear h1 h2
            go_wp2
            go_round
            case rel => exact ⟨k + 1, by omega, by go_num, by rw [HH'.out], fun j y hj hy => by
              by_cases e : j = k
              · subst e
                rw [HX.out] at hy
                cases hy
                exact HP.out
              · exact HK.out j y (by omega) hy⟩
            case measure => simp [intOf]; omega
          · have e2 : (x.toList == [42]) = false := by rw [star_eq]; simpa using h2
            cases hw : wd x
            · have HF : Hid (patB l = false) := patB_no HX.out (by unfold pt; simp [h1, h2, hw])
              have HW := hide hw
              clear hw h1 h2
              go_wp2_with fail
              refine (isWord_any x hxs w').mono ?_
              rintro e w2 ⟨rfl, rfl⟩
              rw [HW.out]
              go_wp2
              go_ret
              exact ⟨hb, .inl ⟨HS.out ▸ HF.out, rfl⟩⟩
            · have HP : Hid (pt x = true) := by show pt x = true; unfold pt; simp [hw]
              have HW := hide hw
              clear hw h1 h2
              go_wp2_with fail
              refine (isWord_any x hxs w').mono ?_
              rintro e w2 ⟨rfl, rfl⟩
              rw [HW.out]
              go_wp2
              go_round
              case rel => exact ⟨k + 1, by omega, by go_num, by rw [HH'.out], fun j y hj hy => by
                by_cases e : j = k
                · subst e
                  rw [HX.out] at hy
                  cases hy
                  exact HP.out
                · exact HK.out j y (by omega) hy⟩
              case measure => simp [intOf]; omega
      · have hkl : k = l.length := by omega
        subst hkl
        rw [List.take_length] at *
        by_cases h2 : 2 < hashes l
        · have HF := hide (HN.out h2)
          have hz : (2 : Int) < (hashes l : Int) := by omega
          go_wp2
          go_ret
          exact ⟨hb, .inl ⟨HS.out ▸ HF.out, rfl⟩⟩
        · have HF := hide (HY.out (fun j x hx => HK.out j x (List.getElem?_eq_some_iff.1 hx).1 hx) h2)
          have hz : ¬ (2 : Int) < (hashes l : Int) := by omega
          go_wp2
          go_ret
          refine ⟨hb, .inr ⟨HS.out ▸ HF.out, g, c, ?_, hg, ?_, h9, ?_⟩⟩
          all_goals (rw [← HS.out]; first | rfl | exact hc | exact ht)
def allW (l : List ByteArray) : Bool := l.all wd
set_option maxHeartbeats 1000000 in
theorem notWord_any (s : ByteArray) (hs : s.size ≤ 281474976710656) (w : World) : Calls Tryd.prog 45 #[.string s] w fun e w' => e = .returned (.bool (!wd s)) ∧ w' = w := by
  go_enter Tryd.func45, Tryd.ntmps45
  go_wp2_with fail
  refine (isWord_any s hs w).mono ?_
  rintro e w' ⟨rfl, rfl⟩
  go_wp2
  go_ret
  exact ⟨rfl, rfl⟩
set_option maxHeartbeats 2000000 in
theorem indexFunc_any (v : Value) (l : List ByteArray) (g c : Nat) (w : World) (hv : (l = [] ∧ v = .slice none 0 0) ∨ (v = .slice (some ⟨g, 0, none⟩) l.length c ∧ Tx w g 0 l)) (hl : l.length ≤ c) (h9 : c ≤ 9) (hsm : ∀ x, x ∈ l → x.size ≤ 281474976710656) :
    Calls Tryd.prog 60 #[v, .func (.func 45) #[] #[]] w fun e w' => w' = w ∧ ((allW l = true ∧ e = .returned (.int .i64 (-1))) ∨ (allW l = false ∧ ∃ k : Nat, k < 10 ∧ e = .returned (.int .i64 k))) := by
  rcases hv with ⟨rfl, rfl⟩ | ⟨rfl, ht⟩
  · go_enter Tryd.func60, Tryd.ntmps60
    go_wp2
    go_loop [8] (fun i => i = .int .i64 0) (fun _ => 0)
    case atStart => rfl
    case round =>
      subst hrel
      go_wp2
      go_ret
      first | exact ⟨rfl, .inl ⟨rfl, rfl⟩⟩ | exact Nat.zero
  · have HY : Hid ((∀ (j : Nat) x, l[j]? = some x → wd x = true) → allW l = true) := by
      intro h1
      show l.all wd = true
      rw [List.all_eq_true]
      exact fun x hx => by obtain ⟨j, hj, rfl⟩ := List.mem_iff_getElem.1 hx; exact h1 j _ (List.getElem?_eq_getElem hj)
    have HN : Hid (∀ (j : Nat) x, l[j]? = some x → wd x = false → allW l = false) := by
      intro j x hx hf
      show l.all wd = false
      rw [List.all_eq_false]
      exact ⟨x, List.mem_of_getElem? hx, by simp [hf]⟩
    have hlt := ht.1
    go_enter Tryd.func60, Tryd.ntmps60
    go_wp2
    go_loop [8] (fun i => ∃ k : Nat, k ≤ l.length ∧ i = .int .i64 k ∧ Hid (∀ (j : Nat) x, j < k → l[j]? = some x → wd x = true)) (fun i => l.length - (intOf i).toNat)
    case atStart => exact ⟨0, Nat.zero_le _, rfl, fun j x hj => by omega⟩
    case round =>
      obtain ⟨k, hk, rfl, HK⟩ := hrel
      by_cases hkn : k < l.length
      · obtain ⟨x, hx⟩ : ∃ x, l[k]? = some x := ⟨_, List.getElem?_eq_getElem hkn⟩
        have hcell := ht.2 k x hx
        rw [Nat.zero_add] at hcell
        have HX := hide hx
        have hxs := hsm x (List.mem_of_getElem? hx)
        clear hx
        go_wp2_with fail
        refine (notWord_any x hxs w).mono ?_
        rintro e w' ⟨rfl, rfl⟩
        cases hw : wd x
        · have HF := hide (HN.out k x HX.out hw)
          clear hw
          go_wp2
          go_ret
          exact ⟨rfl, .inr ⟨HF.out, k, by omega, rfl⟩⟩
        · have HW := hide hw
          clear hw
          go_wp2
          go_round
          case rel => exact ⟨k + 1, by omega, by go_num, fun j y hj hy => by
            by_cases e : j = k
            · subst e
              rw [HX.out] at hy
              cases hy
              exact HW.out
            · exact HK.out j y (by omega) hy⟩
          case measure => simp [intOf]; omega
      · have HF := hide (HY.out (fun j x hx => HK.out j x (by have := (List.getElem?_eq_some_iff.1 hx).1; omega) hx))
        go_wp2
        go_ret
        exact ⟨rfl, .inl ⟨HF.out, rfl⟩⟩
set_option maxHeartbeats 1000000 in
theorem containsFunc_any (v : Value) (l : List ByteArray) (g c : Nat) (w : World) (hv : (l = [] ∧ v = .slice none 0 0) ∨ (v = .slice (some ⟨g, 0, none⟩) l.length c ∧ Tx w g 0 l)) (hl : l.length ≤ c) (h9 : c ≤ 9) (hsm : ∀ x, x ∈ l → x.size ≤ 281474976710656) :
    Calls Tryd.prog 44 #[v, .func (.func 45) #[] #[]] w fun e w' => w' = w ∧ e = .returned (.bool (!allW l)) := by
  go_enter Tryd.func44, Tryd.ntmps44
  go_wp2_with fail
  refine (indexFunc_any v l g c w hv hl h9 hsm).mono ?_
  rintro e w' ⟨rfl, ⟨h1, rfl⟩ | ⟨h1, k, hk, rfl⟩⟩
  · have H1 := hide h1
    clear h1
    go_wp2
    go_ret
    exact ⟨rfl, by rw [H1.out]; rfl⟩
  · have H1 := hide h1
    clear h1
    go_wp2
    go_ret
    exact ⟨rfl, by rw [H1.out]; rfl⟩
set_option maxHeartbeats 2000000 in
theorem topicOf_any (s : ByteArray) (hs : s.size ≤ 281474976710656) (w : World) : Calls Tryd.prog 22 #[.string s] w (PR (topB (pcs s)) s w) := by
  go_enter Tryd.func22, Tryd.ntmps22
  go_wp2_with fail
  refine (split_any s hs w).mono ?_
  rintro e w' ⟨hb, ⟨h8, rfl⟩ | ⟨h8, g, c, cs, rfl, hg, hc, h9, hcell, hcs, hx⟩⟩
  · have HP : Hid (topB (pcs s) = false) := by
      show topB (pcs s) = false
      unfold topB
      simp
      omega
    go_wp2_with fail
    refine (containsFunc_any _ [] 0 0 w' (.inl ⟨rfl, rfl⟩) (by simp) (by omega) (by simp)).mono ?_
    rintro e w2 ⟨rfl, rfl⟩
    go_wp2
    go_ret
    exact ⟨hb, .inl ⟨HP.out, rfl⟩⟩
  · have hlt : g < w'.heap.size := (Array.getElem?_eq_some_iff.1 hcell).1
    have ht : Tx w' g 0 (pcs s) := ⟨hlt, fun i x h => by rw [Nat.zero_add]; exact cellOf hcell i _ (hx i x h)⟩
    clear hx hcell hcs cs
    have hsm : ∀ x, x ∈ pcs s → x.size ≤ 281474976710656 := fun x h => Nat.le_trans (pcs_mem s h) hs
    go_wp2_with fail
    refine (containsFunc_any _ (pcs s) g c w' (.inr ⟨rfl, ht⟩) hc h9 hsm).mono ?_
    rintro e w2 ⟨rfl, rfl⟩
    have HT : Hid (topB (pcs s) = allW (pcs s)) := by
      show topB (pcs s) = allW (pcs s)
      unfold topB allW
      simp [h8]
    cases ha : allW (pcs s)
    · have HA := hide ha
      clear ha
      go_wp2
      go_ret
      exact ⟨hb, .inl ⟨HT.out.trans HA.out, rfl⟩⟩
    · have HA := hide ha
      clear ha
      go_wp2
      go_ret
      exact ⟨hb, .inr ⟨HT.out.trans HA.out, g, c, rfl, hg, hc, h9, ht⟩⟩
end Go.Proofs.YtmanfakdbmlfeaaDoor
