
/- Stage 18: next. -/
import Derived.Test.YtmanfakdbmlfeaaDoorRSpr
namespace Go.Proofs.YtmanfakdbmlfeaaDoor
open Go.RowKit Go.Maps
set_option linter.unusedVariables false
set_option linter.unusedSimpArgs false
def ph (p : List ByteArray) (i : Nat) : Bool := decide (p[i]? = some bHash)
def pm (p : List ByteArray) (s : ByteArray) (i : Nat) : Bool := match p[i]? with
  | some x => decide (x ≠ bHash) && (decide (x = bStar) || decide (x = s))
  | none => false
def stK (p : List ByteArray) (f : Nat → Bool) (s : ByteArray) (k j : Nat) : Bool := (decide (j < k) && ph p j && f j) || (decide (0 < j ∧ j ≤ k) && pm p s (j - 1) && f (j - 1))
theorem stK_zero (p : List ByteArray) (f : Nat → Bool) (s : ByteArray) (j : Nat) : stK p f s 0 j = false := by
  unfold stK
  rw [decide_eq_false (by omega), decide_eq_false (by omega)]
  rfl
theorem stK_same {p : List ByteArray} {f : Nat → Bool} {s : ByteArray} {k : Nat} (h1 : (ph p k && f k) = false) (h2 : (pm p s k && f k) = false) (j : Nat) : stK p f s (k + 1) j = stK p f s k j := by
  unfold stK
  congr 1
  · by_cases e : j = k
    · subst e; rw [Bool.and_assoc, h1, Bool.and_assoc, h1]; simp
    · congr 2
      rw [Bool.eq_iff_iff, decide_eq_true_eq, decide_eq_true_eq]
      omega
  · by_cases e : j = k + 1
    · subst e; rw [Nat.add_sub_cancel, Bool.and_assoc, h2, Bool.and_assoc, h2]; simp
    · congr 2
      rw [Bool.eq_iff_iff, decide_eq_true_eq, decide_eq_true_eq]
      omega
theorem stK_hash {p : List ByteArray} {f : Nat → Bool} {s : ByteArray} {k : Nat} (h1 : (ph p k && f k) = true) (h2 : (pm p s k && f k) = false) (j : Nat) : stK p f s (k + 1) j = (stK p f s k j || decide (j = k)) := by
  have h3 := h2
  unfold stK
  by_cases e : j = k
  · subst e
    rw [Bool.and_assoc, h1]
    simp
  · have e1 : decide (j < k + 1) = decide (j < k) := by rw [Bool.eq_iff_iff, decide_eq_true_eq, decide_eq_true_eq]; omega
    rw [decide_eq_false e, Bool.or_false, e1]
    congr 1
    by_cases e : j = k + 1
    · subst e; rw [Nat.add_sub_cancel, Bool.and_assoc, h2, Bool.and_assoc, h2]; simp
    · congr 2
      rw [Bool.eq_iff_iff, decide_eq_true_eq, decide_eq_true_eq]
      omega
theorem stK_word {p : List ByteArray} {f : Nat → Bool} {s : ByteArray} {k : Nat} (h1 : (ph p k && f k) = false) (h2 : (pm p s k && f k) = true) (j : Nat) : stK p f s (k + 1) j = (stK p f s k j || decide (j = k + 1)) := by
  unfold stK
  by_cases e : j = k + 1
  · subst e
    rw [Nat.add_sub_cancel, Bool.and_assoc (decide (0 < k + 1 ∧ k + 1 ≤ k + 1)), h2]
    simp
  · rw [decide_eq_false e, Bool.or_false]
    have e2 : decide (0 < j ∧ j ≤ k + 1) = decide (0 < j ∧ j ≤ k) := by rw [Bool.eq_iff_iff, decide_eq_true_eq, decide_eq_true_eq]; omega
    rw [e2]
    congr 1
    by_cases e : j = k
    · subst e; rw [Bool.and_assoc, h1, Bool.and_assoc, h1]; simp
    · congr 2
      rw [Bool.eq_iff_iff, decide_eq_true_eq, decide_eq_true_eq]
      omega
/-- the places behind one word more -/
theorem nxt_at (a u : List ByteArray) (s : ByteArray) : ∀ j, j ≤ a.length → spB a (stK a (AtP a u) s a.length) j = AtP a (u ++ [s]) j
  | 0, _ => by
    rw [spB, atP_zero]
    unfold stK ph
    rw [decide_eq_false (show ¬ (0 < 0 ∧ 0 ≤ a.length) by omega), Bool.false_and, Bool.false_and, Bool.or_false]
    by_cases h : 0 < a.length
    · rw [decide_eq_true h, Bool.true_and]
    · rw [List.getElem?_eq_none (by omega)]; simp
  | j + 1, hj => by
    obtain ⟨p, hp⟩ : ∃ p, a[j]? = some p := ⟨_, List.getElem?_eq_getElem (by omega)⟩
    rw [spB, nxt_at a u s j (by omega), atP_succ hp]
    unfold stK ph pm
    rw [Nat.add_sub_cancel, hp, decide_eq_true (show 0 < j + 1 ∧ j + 1 ≤ a.length from ⟨by omega, hj⟩), Bool.true_and]
    simp only [Option.some.injEq]
    have e1 : (decide (j + 1 < a.length) && decide (a[j + 1]? = some bHash)) = decide (a[j + 1]? = some bHash) := by
      by_cases h : j + 1 < a.length
      · rw [decide_eq_true h, Bool.true_and]
      · rw [List.getElem?_eq_none (by omega)]; simp
    rw [e1]
    generalize decide (a[j + 1]? = some bHash) = A
    generalize AtP a u (j + 1) = B
    generalize AtP a u j = C
    generalize AtP a (u ++ [s]) j = D
    by_cases q1 : p = bHash <;> by_cases q2 : p = bStar <;> by_cases q3 : p = s <;> cases A <;> cases B <;> cases C <;> cases D <;> simp [q1, q2, q3]
set_option maxHeartbeats 4000000 in
theorem next_any (p : List ByteArray) (f : Nat → Bool) (s : ByteArray) (w : World) (vp va : Value) (hp : Tl w vp p) (ha : Nf w va (p.length + 1) f) (h8 : p.length ≤ 8) :
    Calls Tryd.prog 47 #[vp, va, .string s] w fun e w' => ∃ v, e = .returned v ∧ Nf w' v (p.length + 1) (spB p (stK p f s p.length)) ∧ Below w.heap.size w w' := by
  have HPP := hide hp
  obtain ⟨gp, op, cp, rfl, hcp, hcp9, hxp⟩ := hp
  obtain ⟨ga, ca, rfl, hca, hca9, hga, hxa⟩ := ha
  have hgp := hxp.1
  have HRP : Hid (∀ W, Below w.heap.size w W → Tx W gp op p) := fun W hb => hxp.keep hb hgp
  have HRA : Hid (∀ W, Below w.heap.size w W → ∀ i, i < p.length + 1 → W.cell? ⟨ga, i, none⟩ = some (z1 (f i))) := fun W hb i hi => (World.cell?_of_block (a := ⟨ga, i, none⟩) (hb.block ga hga)).trans (hxa i hi)
  obtain ⟨N, hN⟩ : ∃ N, N = p.length + 1 := ⟨_, rfl⟩
  have hmk := run_make_row' (P := Tryd.prog) 48 3 (.int .i64 0) 8 Tryd.underlying48 Tryd.infoI rfl .i64 .i64 N (by omega) (by omega)
  have hNz : ((p.length : Int) + 1) = (N : Int) := by omega
  have HM := hide (made_arr N)
  have HN := hide hN
  have hN9 : N ≤ 9 := by omega
  clear hxp hxa hN
  go_enter Tryd.func47, Tryd.ntmps47
  go_wp2
  clear hmk
  have hb0 : Below w.heap.size w (w.alloc (.cells (madeCells #[.int .i64 0] N) 3)) := bel1 (Below.refl _ _) (Nat.le_refl _) _
  have HC0 : Hid ((w.alloc (.cells (madeCells #[.int .i64 0] N) 3)).heap[w.heap.size]? = some (.cells (arr (stK p f s 0) N) 3 (0, 0))) := by
    show _ = _
    rw [heap_new, HM.out, arr_congr (h' := stK p f s 0) (fun j _ => (stK_zero p f s j).symm)]
  go_loopw [8] (fun i wr => ∃ k : Nat, k ≤ p.length ∧ i = .int .i64 k ∧ Below w.heap.size w wr ∧ Hid (wr.heap[w.heap.size]? = some (.cells (arr (stK p f s k) N) 3 (0, 0)))) (fun i _ => p.length - (intOf i).toNat)
  case atStart => exact ⟨0, Nat.zero_le _, rfl, hb0, HC0.out⟩
  case round =>
    clear hb0 HC0
    obtain ⟨k, hk, rfl, hb, HC⟩ := hrel
    have HB := hide hb
    by_cases hkn : k < p.length
    · have hkz : (k : Int) < (p.length : Int) := by omega
      obtain ⟨x, hx⟩ : ∃ x, p[k]? = some x := ⟨_, List.getElem?_eq_getElem hkn⟩
      have hcx := (HRP.out wr hb).2 k x hx
      have hcell := HRA.out wr hb k (by omega)
      have hkN : k < N := by have := HN.out; omega
      have hkN1 : k + 1 < N := by have := HN.out; omega
      have hout := cellOf HC.out k _ (arr_at hkN)
      have hfr : wr.frozen? ⟨w.heap.size, k, none⟩ = false := by simp [World.frozen?, HC.out]
      have hout1 := cellOf HC.out (k + 1) _ (arr_at hkN1)
      have hfr1 : wr.frozen? ⟨w.heap.size, k + 1, none⟩ = false := by simp [World.frozen?, HC.out]
      have HPH : Hid (ph p k = decide (x = bHash)) := by show _ = _; unfold ph; rw [hx]; simp
      have HPM : Hid (pm p s k = (decide (x ≠ bHash) && (decide (x = bStar) || decide (x = s)))) := by show _ = _; unfold pm; rw [hx]
      have HBS : Hid (∀ i, Below w.heap.size w (wr.setCell ⟨w.heap.size, i, none⟩ (.int .i64 1))) := fun i => ⟨hb.os, hb.tape, hb.output, by simpa using hb.size, fun q hq => (blk_set_other _ _ _ _ (by show q ≠ w.heap.size; omega)).trans (hb.block q hq)⟩
      have HSAME : Hid ((ph p k && f k) = false → (pm p s k && f k) = false → wr.heap[w.heap.size]? = some (.cells (arr (stK p f s (k + 1)) N) 3 (0, 0))) := fun q1 q2 => by rw [HC.out, arr_congr (h' := stK p f s (k + 1)) (fun j _ => (stK_same q1 q2 j).symm)]
      have HHASH : Hid ((ph p k && f k) = true → (pm p s k && f k) = false → (wr.setCell ⟨w.heap.size, k, none⟩ (.int .i64 1)).heap[w.heap.size]? = some (.cells (arr (stK p f s (k + 1)) N) 3 (0, 0))) := fun q1 q2 => by rw [set_arr HC.out hkN, arr_congr (h' := stK p f s (k + 1)) (fun j _ => (stK_hash q1 q2 j).symm)]
      have HWORD : Hid ((ph p k && f k) = false → (pm p s k && f k) = true → (wr.setCell ⟨w.heap.size, k + 1, none⟩ (.int .i64 1)).heap[w.heap.size]? = some (.cells (arr (stK p f s (k + 1)) N) 3 (0, 0))) := fun q1 q2 => by rw [set_arr HC.out hkN1, arr_congr (h' := stK p f s (k + 1)) (fun j _ => (stK_word q1 q2 j).symm)]
      clear hx hb
      cases hf : f k
      · have HC2 := hide (HSAME.out (by rw [hf, Bool.and_false]) (by rw [hf, Bool.and_false]))
        rw [hf] at hcell
        unfold z1 at hcell
        simp only [Bool.false_eq_true, if_false] at hcell
        clear hf hout hout1 hfr hfr1
        go_wp2
        go_roundw
        case rel => exact ⟨k + 1, by omega, by go_num, HB.out, HC2.out⟩
        case measure => simp [intOf]; omega
      · have HF := hide hf
        rw [hf] at hcell
        unfold z1 at hcell
        simp only [if_true] at hcell
        clear hf
        by_cases h1 : x = bHash
        · have e1 : (x.toList == [35]) = true := by rw [hash_eq]; simpa using h1
          have HC2 := hide (HHASH.out (by rw [HPH.out, HF.out, h1]; rfl) (by rw [HPM.out, h1]; rfl))
          clear h1
          go_wp2
          go_roundw
          case rel => exact ⟨k + 1, by omega, by go_num, HBS.out k, HC2.out⟩
          case measure => simp [intOf]; omega
        · have e1 : (x.toList == [35]) = false := by rw [hash_eq]; simpa using h1
          have HQ1 : Hid ((ph p k && f k) = false) := by show _ = _; rw [HPH.out, decide_eq_false h1, Bool.false_and]
          by_cases h2 : x = bStar
          · have e2 : (x.toList == [42]) = true := by rw [star_eq]; simpa using h2
            have HC2 := hide (HWORD.out HQ1.out (by rw [HPM.out, HF.out, decide_eq_true h1, decide_eq_true h2]; rfl))
            clear h1 h2
            go_wp2
            go_roundw
            case rel => exact ⟨k + 1, by omega, by go_num, HBS.out (k + 1), HC2.out⟩
            case measure => simp [intOf]; omega
          · have e2 : (x.toList == [42]) = false := by rw [star_eq]; simpa using h2
            by_cases h3 : x = s
            · have e3 : (x.toList == s.toList) = true := by rw [str_eq]; simpa using h3
              have HC2 := hide (HWORD.out HQ1.out (by rw [HPM.out, HF.out, decide_eq_true h1, decide_eq_true h3, Bool.or_true]; rfl))
              clear h1 h2 h3
              go_wp2
              go_roundw
              case rel => exact ⟨k + 1, by omega, by go_num, HBS.out (k + 1), HC2.out⟩
              case measure => simp [intOf]; omega
            · have e3 : (x.toList == s.toList) = false := by rw [str_eq]; simpa using h3
              have HC2 := hide (HSAME.out HQ1.out (by rw [HPM.out, decide_eq_false h2, decide_eq_false h3, Bool.or_false, Bool.and_false, Bool.false_and]))
              clear h1 h2 h3
              go_wp2
              go_roundw
              case rel => exact ⟨k + 1, by omega, by go_num, HB.out, HC2.out⟩
              case measure => simp [intOf]; omega
    · have hkz : ¬ (k : Int) < (p.length : Int) := by omega
      have hkp : k = p.length := by omega
      have hnf : Nf wr (.slice (some ⟨w.heap.size, 0, none⟩) N N) (p.length + 1) (stK p f s p.length) := by
        refine ⟨w.heap.size, N, by rw [HN.out], by rw [HN.out]; exact Nat.le_refl _, by unfold maxLen; omega, (Array.getElem?_eq_some_iff.1 HC.out).1, fun i hi => ?_⟩
        have := cellOf HC.out i _ (arr_at (by rw [HN.out]; exact hi))
        rw [this, hkp]
      have HSP := hide (spread_any p (stK p f s p.length) wr _ _ (HPP.out.keep hb) hnf h8)
      clear hnf
      go_wp2_with fail
      refine HSP.out.mono ?_
      rintro e w3 ⟨v3, rfl, hn3, hb3⟩
      go_wp2
      go_ret
      exact ⟨_, rfl, hn3, belOn HB.out HB.out.size hb3⟩
end Go.Proofs.YtmanfakdbmlfeaaDoor
